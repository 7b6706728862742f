/-
  The contracts of the document's own ToLittle, ToBig, Big and Little at 32 bytes, and of limb's Of where there aren't 32. Conditions: as each theorem says.
-/
import Derived.Test.YtpebinkmgkknbaaByt
import Derived.Test.YtpebinkmgkknbaaLimbOf
namespace Go.Proofs.Ytpebinkmgkknbaa
open Go.RowKit
set_option linter.unusedVariables false

theorem digit_byte (la : List Nat) (hd : Dg la) (i q r : Nat) (hi : i = 3 * q + r) (hr : r < 3) : la.getD q 0 / 256 ^ r % 256 = valD la / 2 ^ (8 * i) % 256 := by
  rw [show 8 * i = 24 * q + 8 * r by omega, down_split la hd q (8 * r), valD_drop la q]
  generalize valD (la.drop (q + 1)) = R
  generalize la.getD q 0 = d
  rcases (show r = 0 ∨ r = 1 ∨ r = 2 by omega) with rfl | rfl | rfl
  · simp; omega
  · simp only [show (2 : Nat) ^ (8 * 1) = 256 by decide]; omega
  · simp only [show (2 : Nat) ^ (8 * 2) = 65536 by decide]; omega
theorem Filled.skip {x B t : Nat} {W : World} (h : Filled false x B t W) (h0 : byteAt x t = 0) : Filled false x B (t + 1) W := by
  refine ⟨fun j hj => ?_, h.free, h.size⟩
  rw [h.cell j hj]
  by_cases h1 : j < t
  · rw [if_pos h1, if_pos (by omega)]
  · by_cases h2 : j = t
    · subst h2; rw [if_neg h1, if_pos (by omega), h0]
    · rw [if_neg h1, if_neg (by omega)]
theorem Filled.by {big : Bool} {x B : Nat} {W : World} (h : Filled big x B 32 W) : By W (.slice (some ⟨B, 0, none⟩) 32 32) (fun j => byteAt x (pl big j)) := by
  refine ⟨B, 0, 32, rfl, h.size, fun j hj => ?_⟩
  have := h.cell (pl big j) (pl_lt big j hj)
  rw [pl_pl big j hj, if_pos (pl_lt big j hj)] at this
  rw [Nat.zero_add]; exact this

set_option maxHeartbeats 2000000 in
theorem toLittle_any (la : List Nat) (va : Value) (w : World) (ha : Sl w va la) (hda : Dg la) (hla : la.length ≤ 100000) :
    Calls Try.prog 33 #[va, .int .i64 32] w fun e w' => e = .returned (.slice (some ⟨w.heap.size, 0, none⟩) 32 32) ∧ By w' (.slice (some ⟨w.heap.size, 0, none⟩) 32 32) (byteAt (valD la)) ∧ Below w.heap.size w w' := by
  obtain ⟨a, capa, rfl, hcapa, hnila, hca⟩ := ha
  have Hca : Hid _ := hca
  have Hda : Hid (Dg la) := hda
  clear hca hda hnila
  have hla' : (la.length : Int) ≤ 100000 := by omega
  have hmk := make32
  obtain ⟨x, hx⟩ : ∃ x, Hid (valD la = x) := ⟨_, rfl⟩
  rw [hx.out]
  go_enter Try.func33, Try.ntmps33
  go_wp2
  go_loopw [6] (fun y wr => ∃ i : Nat, i ≤ 32 ∧ y = .int .i64 i ∧ Hid (Filled false x w.heap.size i wr ∧ Below w.heap.size w wr)) (fun y _ => 32 - (intOf y).toNat)
  case atStart =>
    refine ⟨0, by omega, rfl, ⟨fun j hj => ?_, fun o => ?_, ?_⟩, ?_⟩
    · have := pl_lt false j hj
      simp [go_sem, this]
    · simp [go_sem]
    · simp
    · exact (Below.refl _ _).alloc (Nat.le_refl _) _
  case round =>
    obtain ⟨i, hi, rfl, H⟩ := hrel
    clear hmk
    by_cases hlt : i < 32
    · have hlt' : (i : Int) < 32 := by omega
      obtain ⟨q, hq⟩ : ∃ q : Nat, (i : Int) / 3 = (q : Int) := ⟨i / 3, by omega⟩
      obtain ⟨r, hr⟩ : ∃ r : Nat, (i : Int) % 3 = (r : Int) := ⟨i % 3, by omega⟩
      have hr2 : (r : Int) ≤ 2 := by omega
      have hq2 : (q : Int) ≤ 10 := by omega
      obtain ⟨d, hd⟩ : ∃ d, Hid (la.getD q 0 = d) := ⟨_, rfl⟩
      have hby : Hid (byteAt x i = ((d / 256 ^ r % 256 : Nat) : Int)) := by
        have := digit_byte la Hda.out i q r (by omega) (by omega)
        rw [hd.out, hx.out] at this
        unfold Hid byteAt; rw [this]
      by_cases hql : q < la.length
      · have hql' : (q : Int) < la.length := by omega
        obtain ⟨ba, oa, rfl, hba, hcella⟩ := Hca.out q hql
        have hd1 : (d : Int) ≤ 16777215 := by have := Hda.out q; rw [hd.out] at this; omega
        rw [hd.out] at hcella
        have hcella' : wr.cell? ⟨ba, oa + q, none⟩ = some (.int .i64 (d : Int)) := (H.out.2.cell (p := ⟨ba, oa + q, none⟩) hba).trans hcella
        clear hcella
        go_wp2
        go_loopw [7, 8] (fun xx kk wi => ∃ (k z : Nat), k ≤ r ∧ kk = .int .i64 k ∧ xx = .int .i64 z ∧ z ≤ 16777215 ∧ wi = wr ∧ Hid (z = d / 256 ^ k)) (fun _ kk _ => r - (intOf kk).toNat)
        case atStart => exact ⟨0, d, by omega, rfl, rfl, by omega, rfl, by simp [Hid]⟩
        case round =>
          rename World => wi
          obtain ⟨k, z, hk, rfl, rfl, hz, hwi, Hz⟩ := hrel
          rw [hwi]
          clear hwi
          have hz1 : (z : Int) ≤ 16777215 := by omega
          by_cases hkr : k < r
          · have hkr' : (k : Int) < r := by omega
            have R : Hid (z / 256 = d / 256 ^ (k + 1)) := by unfold Hid; rw [Hz.out, Nat.div_div_eq_div_mul, Nat.pow_succ]
            go_wp2
            go_roundw
            case rel => exact ⟨k + 1, z / 256, by omega, by go_num, by go_num, by omega, trivial, R⟩
            case measure => simp [intOf] <;> omega
          · obtain rfl : k = r := by omega
            have hv : Hid (byteAt x i = (z : Int) % 256) := by unfold Hid; rw [hby.out, ← Hz.out]; omega
            have c0 : wr.cell? ⟨w.heap.size, i, none⟩ = some (.int .u8 (if i < i then byteAt x i else 0)) := H.out.1.cell i hlt
            have f0 := H.out.1.free
            have R : Hid (Filled false x w.heap.size (i + 1) (wr.setCell ⟨w.heap.size, i, none⟩ (.int .u8 ((z : Int) % 256)))) := by
              have := H.out.1.step hlt
              rw [hv.out] at this
              exact this
            go_wp2
            go_roundw
            case rel => exact ⟨i + 1, by omega, by go_num, R.out, H.out.2.setCell (Nat.le_refl _) _⟩
            case measure => simp [intOf] <;> omega
      · have hql' : ¬ (q : Int) < la.length := by omega
        have h0 : byteAt x i = 0 := by
          rw [hby.out, ← hd.out, getD_ge la q (by omega)]; simp
        have R : Hid _ := H.out.1.skip h0
        go_wp2
        go_roundw
        case rel => exact ⟨i + 1, by omega, by go_num, R.out, H.out.2⟩
        case measure => simp [intOf] <;> omega
    · obtain rfl : i = 32 := by omega
      go_wp2
      go_ret
      exact ⟨rfl, H.out.1.by, H.out.2⟩

theorem toLittle_num (x : Nat) (va : Value) (w : World) (ha : Num w va x) (m : Nat) (hM : x < 16777216 ^ m) (hm : m ≤ 10000) :
    Calls Try.prog 33 #[va, .int .i64 32] w fun e w' => e = .returned (.slice (some ⟨w.heap.size, 0, none⟩) 32 32) ∧ By w' (.slice (some ⟨w.heap.size, 0, none⟩) 32 32) (byteAt x) ∧ Below w.heap.size w w' := by
  obtain ⟨l, h1, h2, h3, rfl⟩ := ha
  have hl := nz_len l m h2 h3 hM
  exact toLittle_any l va w h1 h2 (by omega)
theorem small_num (M : Nat) (va : Value) (n : Nat) (w : World) (ha : Num w va M) (m : Nat) (hM : M < 16777216 ^ m) (hm : m ≤ 10000) (hn : n ≤ 9223372036854775807) :
    Calls Try.prog 45 #[va, .int .i64 (n : Int)] w fun e w' => ∃ v, e = .returned v ∧ Num w' v (M * n) ∧ Below w.heap.size w w' := by
  obtain ⟨l, h1, h2, h3, rfl⟩ := ha
  have hl := nz_len l m h2 h3 hM
  exact small_any l va n w h1 h2 (by omega) hn

set_option maxHeartbeats 1000000 in
theorem toBig_num (x : Nat) (va : Value) (w : World) (ha : Num w va x) (m : Nat) (hM : x < 16777216 ^ m) (hm : m ≤ 10000) :
    Calls Try.prog 34 #[va, .int .i64 32] w fun e w' => ∃ v, e = .returned v ∧ By w' v (fun j => byteAt x (31 - j)) ∧ Below w.heap.size w w' := by
  obtain ⟨aa, ac, ad, rfl⟩ := ha.shape
  have HA : Hid (Num w (.slice aa ac ad) x) := ha
  clear ha
  go_enter Try.func34, Try.ntmps34
  go_wp2_with fail
  refine (toLittle_num x _ w HA.out m hM hm).mono ?_
  rintro e w1 ⟨rfl, h1, g1⟩
  have H1 : Hid (By w1 (.slice (some ⟨w.heap.size, 0, none⟩) 32 32) (byteAt x)) := h1
  have G1 : Hid (Below w.heap.size w w1) := g1
  clear h1 g1
  go_wp2_with fail
  refine (turned_any _ _ _ H1.out).mono ?_
  rintro e w2 ⟨v, rfl, h2, g2⟩
  have G2 : Hid (Below w1.heap.size w1 w2) := g2
  have H2 : Hid (By w2 v (fun j => byteAt x (31 - j))) := h2
  obtain ⟨b, o, c, rfl, -, -⟩ := h2
  clear g2
  go_wp2_with fail
  go_ret
  exact ⟨_, rfl, H2.out, G1.out.trans (G2.out.mono G1.out.size)⟩

theorem of_else (a : Option Addr) (n cap : Nat) (big : Bool) (w : World) (hn : n ≠ 32) :
    Calls Try.prog 32 #[.slice a n cap, .bool big] w fun e w' => e = .returned (.tuple #[.agg #[.int .u64 0, .int .u64 0, .int .u64 0, .int .u64 0], .int .i64 2]) ∧ Below w.heap.size w w' := by
  have hb0 : ((n : Int) == 32) = false := beq_eq_false_iff_ne.2 (by omega)
  have hb1 : ((n : Int) != 32) = true := by simp [bne, hb0]
  have hb2 : ¬ (n : Int) = 32 := by omega
  go_enter Try.func32, Try.ntmps32
  go_wp2
  refine bodyPost_ret (v := .tuple #[.agg #[.int .u64 0, .int .u64 0, .int .u64 0, .int .u64 0], .int .i64 2]) (by simp [results, Try.results32, go_sem]) rfl ⟨rfl, ?_⟩
  repeat (first | exact Below.refl _ _ | refine Below.drew ?_ | refine Below.alloc ?_ (by simp <;> omega) _)

end Go.Proofs.Ytpebinkmgkknbaa
