/-
  The contracts of the document's own ToWords and Four over digits of 24 bits: a number's lowest words. Conditions: as each theorem says.
-/
import Derived.Test.YtlpmbhneffdcfaaDoorRefE
namespace Go.Proofs.YtlpmbhneffdcfaaDoor
open Go.RowKit
set_option linter.unusedVariables false

theorem info_word : (Tryd.prog.info? 22).map (fun i => (i.zero, i.size, i.bytes)) = some (some (.int .u64 0), 1, 8) := by kernel_rfl
theorem make_words (n : Nat) (hn : n ≤ 1000000) (w : World) : (Instr.makeSlice 87 (.int .i64 (n : Int)) (.int .i64 (n : Int))).run Tryd.prog w = .ok (.slice (some ⟨w.heap.size, 0, none⟩) n n) (w.alloc (.cells (madeCells #[.int .u64 0] n) 22)) := by
  obtain ⟨i0, hi, hz0, hz1, hz2⟩ := info_parts info_word
  have h := run_make (P := Tryd.prog) w 87 22 i0 (.int .u64 0) Tryd.underlying87 hi hz0 .i64 .i64 n n (by omega) (by omega) (by rw [hz2]; omega) (by omega)
  rw [h, hz1]
  simp [Value.cells]

theorem Row.drewN {k : IntKind} {base g : Nat} {l : List Nat} {W : World} (h : Row k base g l W) (n : Nat) : Row k base g l (W.drewN n) := ⟨h.cell, h.free, h.lt, h.ge⟩
theorem Joins_draws {B : Nat} {w W : World} (h : Below B w W) (n : Nat) : Below B w (W.drewN n) := ⟨h.os, h.tape, h.output, h.size, h.block⟩
theorem bcell' {W w1 : World} (hb : Below W.heap.size W w1) : (∀ b o, b < W.heap.size → w1.cell? ⟨b, o, none⟩ = W.cell? ⟨b, o, none⟩) ∧ (∀ b o, b < W.heap.size → w1.frozen? ⟨b, o, none⟩ = W.frozen? ⟨b, o, none⟩) :=
  ⟨fun b o h => hb.cell (p := ⟨b, o, none⟩) h, fun b o h => hb.frozen (p := ⟨b, o, none⟩) h⟩
theorem wrap_quo (d p e : Nat) (he : d / p = e) (hd : d ≤ 9223372036854775807) : IntKind.i64.wrap ((d : Int) / (p : Int)) = (e : Int) := by
  have h3 : ((d / p : Nat) : Int) = (d : Int) / (p : Int) := by simp
  have h4 := Nat.div_le_self d p
  rw [← h3, he, IntKind.wrap_i64]
  omega

set_option maxHeartbeats 4000000 in
theorem toWords_any (la : List Nat) (va : Value) (n : Nat) (w : World) (ha : Sl w va la) (hda : Dg la) (hla : la.length ≤ 10000) (hn : n ≤ 1000) :
    Calls Tryd.prog 52 #[va, .int .i64 (n : Int)] w fun e w' => ∃ o, e = .returned (.slice (some ⟨w.heap.size, 0, none⟩) n n) ∧ Row .u64 w.heap.size w.heap.size o w' ∧ o.length = n ∧ Ww o ∧ valW o = valD la % 2 ^ (64 * n) ∧ Below w.heap.size w w' := by
  obtain ⟨a, capa, rfl, hcapa, hnila, hca⟩ := ha
  have Hca : Hid _ := hca
  have Hda : Hid (Dg la) := hda
  have Hlt : Hid (valD la < 2 ^ (24 * la.length)) := by
    have := valD_lt la hda
    unfold Hid
    rwa [show (16777216 : Nat) = 2 ^ 24 from by decide, ← Nat.pow_mul] at this
  clear hca hda hnila
  have hla' : (la.length : Int) ≤ 10000 := by omega
  have hn' : (n : Int) ≤ 1000 := by omega
  have hmk := fun w => make_words n (by omega) w
  obtain ⟨N, hN⟩ : ∃ N, Hid (N = valD la) := ⟨_, rfl⟩
  have Hlt' : Hid (N < 2 ^ (24 * la.length)) := by unfold Hid; rw [hN.out]; exact Hlt.out
  rw [← hN.out]
  go_enter Tryd.func52, Tryd.ntmps52
  go_wp2
  clear hmk Hlt
  go_loopw [6] (fun y W => ∃ (i : Nat) (o : List Nat), y = .int .i64 i ∧ i ≤ la.length ∧ Row .u64 w.heap.size w.heap.size o W ∧ Below w.heap.size w W ∧ Hid (TW N n (24 * i) o)) (fun y _ => la.length - (intOf y).toNat)
  case atStart =>
    exact ⟨0, _, rfl, Nat.zero_le _, Row.made w n _, (Below.refl _ _).alloc (Nat.le_refl _) _, TW.start N n⟩
  case round =>
    obtain ⟨i, o, rfl, hi, hrow, hbel, H⟩ := hrel
    by_cases hlt : i < la.length
    · have hlt' : (i : Int) < la.length := by omega
      obtain ⟨ba, oa, rfl, hba, hcella⟩ := Hca.out i hlt
      obtain ⟨d, hd⟩ : ∃ d, Hid (la.getD i 0 = d) := ⟨_, rfl⟩
      rw [hd.out] at hcella
      have hd1 : (d : Int) ≤ 16777215 := by have := Hda.out i; rw [hd.out] at this; omega
      have Hr : Hid (Row .u64 w.heap.size w.heap.size o wr) := hrow
      have Hb : Hid (Below w.heap.size w wr) := hbel
      have Hcella : Hid _ := hcella
      clear hrow hbel hcella
      go_wp2
      go_loopw [7] (fun y W => ∃ (k : Nat) (o : List Nat), y = .int .i64 k ∧ k ≤ 24 ∧ Row .u64 w.heap.size w.heap.size o W ∧ Below w.heap.size w W ∧ Hid (TW N n (24 * i + k) o)) (fun y _ => 24 - (intOf y).toNat)
      case atStart => exact ⟨0, o, rfl, Nat.zero_le _, Hr.out, Hb.out, H⟩
      case round =>
        clear H Hr Hb
        obtain ⟨k, o, rfl, hk, hrow, hbel, H⟩ := hrel
        by_cases hk24 : k < 24
        · have hk' : (k : Int) < 24 := by omega
          have ca : wr.cell? ⟨ba, oa + i, none⟩ = some (.int .i64 (d : Int)) := (hbel.cell (p := ⟨ba, oa + i, none⟩) hba).trans Hcella.out
          have hbit : N / 2 ^ (24 * i + k) % 2 = d / 2 ^ k % 2 := by rw [hN.out, digit_bit la Hda.out i k hk24, hd.out]
          obtain ⟨p, hp⟩ : ∃ p : Nat, Hid (p = 2 ^ k) := ⟨2 ^ k, rfl⟩
          have hp0 : (0 : Int) < p := by have := Nat.two_pow_pos k; rw [← hp.out] at this; omega
          have hp1 : (p : Int) ≤ 16777216 := by
            have : 2 ^ k ≤ 2 ^ 24 := Nat.pow_le_pow_right (by omega) (by omega)
            rw [← hp.out] at this; omega
          have hpow : Hid (∀ w, Calls Tryd.prog 68 #[.int .i64 (k : Int)] w fun e w' => e = .returned (.int .i64 (p : Int)) ∧ w' = w) := by
            intro w
            have := pow2_any k (by omega) w
            rwa [← hp.out] at this
          have Hr : Hid (Row .u64 w.heap.size w.heap.size o wr) := hrow
          have Hb : Hid (Below w.heap.size w wr) := hbel
          have hbit' : Hid (N / 2 ^ (24 * i + k) % 2 = d / p % 2) := by unfold Hid; rw [hbit, hp.out]
          obtain ⟨e, he⟩ : ∃ e : Nat, d / p = e := ⟨_, rfl⟩
          have hq1 := wrap_quo d p e he (by omega)
          have hp00 : ¬ p = 0 := by omega
          unfold Hid at hbit'
          rw [he] at hbit'
          have Hbit : Hid (N / 2 ^ (24 * i + k) % 2 = e % 2) := hbit'
          have he1 : (e : Int) ≤ 16777215 := by have := Nat.div_le_self d p; omega
          clear hrow hbel hbit hbit' he
          obtain ⟨T, hT⟩ : ∃ T : Nat, 24 * (i : Int) + (k : Int) = (T : Int) := ⟨24 * i + k, by omega⟩
          have hT2 : T = 24 * i + k := by omega
          have HT2 : Hid (24 * i + k = T) := hT2.symm
          have hTb : (T : Int) ≤ 240024 := by omega
          have Hbit2 : Hid (N / 2 ^ T % 2 = e % 2) := by unfold Hid; rw [hT2]; exact Hbit.out
          have H2 : Hid (TW N n T o) := by unfold Hid; rw [hT2]; exact H.out
          clear hT2 H Hbit
          by_cases hb1 : e % 2 = 1
          · have hb1' : ((e : Int) % 2 == 1) = true := by rw [beq_iff_eq]; omega
            by_cases hTn : T < 64 * n
            · have hTn' : (T : Int) < 64 * (n : Int) := by omega
              obtain ⟨r, hr⟩ : ∃ r : Nat, (T : Int) % 64 = (r : Int) := ⟨T % 64, by omega⟩
              obtain ⟨s, hs⟩ : ∃ s : Nat, (T : Int) / 64 = (s : Int) := ⟨T / 64, by omega⟩
              have Hr2 : Hid (T % 64 = r) := by unfold Hid; omega
              have Hs2 : Hid (T / 64 = s) := by unfold Hid; omega
              have hrb : (r : Int) ≤ 63 := by omega
              have hsn : (s : Int) < n := by omega
              have R := H2.out.bit hTn (by rw [Hbit2.out]; exact hb1)
              have room := H2.out.room hTn
              rw [Hr2.out, Hs2.out] at R room
              have co := Hr.out.cell s (by have := H2.out.1; omega)
              have fo := Hr.out.free s
              obtain ⟨q, hq⟩ : ∃ q, Hid (o.getD s 0 = q) := ⟨_, rfl⟩
              rw [hq.out] at R room co
              have R' : Hid (TW N n (T + 1) (o.set s (q + 2 ^ r))) := R
              have room' : Hid (q + 2 ^ r < 18446744073709551616) := room
              clear R room
              go_wp2_with fail
              go_quiet ((go_at_call 68; exact Calls.quiet_of_same (hpow.out _)))
              go_wp2
              go_loop [9, 10] (fun x y => ∃ (j X : Nat), j ≤ r ∧ y = .int .i64 j ∧ x = .int .u64 (X : Int) ∧ Hid (X = 2 ^ j)) (fun _ y => r - (intOf y).toNat)
              case atStart => exact ⟨0, 1, Nat.zero_le _, rfl, rfl, rfl⟩
              case round =>
                obtain ⟨j, X, hj, rfl, rfl, hX⟩ := hrel
                by_cases hjr : j < r
                · have hjr' : (j : Int) < r := by omega
                  have hXb : (X : Int) ≤ 4611686018427387904 := by
                    have : 2 ^ j ≤ 2 ^ 62 := Nat.pow_le_pow_right (by omega) (by omega)
                    rw [← hX.out] at this; omega
                  go_wp2
                  go_round
                  case rel => exact ⟨j + 1, 2 * X, by omega, by go_num, by go_num, by unfold Hid at *; rw [hX, Nat.pow_succ, Nat.mul_comm]⟩
                  case measure => simp [intOf]; omega
                · obtain rfl : j = r := by omega
                  have hroom : (q : Int) + (X : Int) ≤ 18446744073709551615 := by have := room'.out; rw [← hX.out] at this; omega
                  go_wp2
                  go_roundw
                  case rel =>
                    refine ⟨k + 1, o.set s (q + X), by go_num, by omega, ?_, ?_, ?_⟩
                    · have := (Hr.out.drewN nq).set s (q + X) (by have := H2.out.1; omega)
                      rw [Int.natCast_add] at this
                      exact this
                    · exact (Joins_draws Hb.out nq).setCell (Nat.le_refl _) _
                    · unfold Hid at *; rw [← Nat.add_assoc, HT2, hX]; exact R'
                  case measure => simp [intOf]; omega
            · have hTn' : ¬ (T : Int) < 64 * (n : Int) := by omega
              have R' : Hid (TW N n (T + 1) o) := H2.out.none (Or.inr (by omega))
              go_wp2_with fail
              go_quiet ((go_at_call 68; exact Calls.quiet_of_same (hpow.out _)))
              go_wp2
              go_roundw
              case rel => exact ⟨k + 1, o, by go_num, by omega, Hr.out.drewN nq, Joins_draws Hb.out nq, by unfold Hid at *; rw [← Nat.add_assoc, HT2]; exact R'⟩
              case measure => simp [intOf]; omega
          · have hb1' : ((e : Int) % 2 == 1) = false := by rw [beq_eq_false_iff_ne]; omega
            have R' : Hid (TW N n (T + 1) o) := H2.out.none (Or.inl (by rw [Hbit2.out]; omega))
            go_wp2_with fail
            go_quiet ((go_at_call 68; exact Calls.quiet_of_same (hpow.out _)))
            go_wp2
            go_roundw
            case rel => exact ⟨k + 1, o, by go_num, by omega, Hr.out.drewN nq, Joins_draws Hb.out nq, by unfold Hid at *; rw [← Nat.add_assoc, HT2]; exact R'⟩
            case measure => simp [intOf]; omega
        · obtain rfl : k = 24 := by omega
          go_wp2
          go_roundw
          case rel => exact ⟨i + 1, o, by go_num, by omega, hrow, hbel, by unfold Hid at *; rw [Nat.mul_add, Nat.mul_one]; exact H⟩
          case measure => simp [intOf]; omega
    · obtain rfl : i = la.length := by omega
      have hv := H.out.done Hlt'.out
      have h1 := H.out.1
      have h2 := H.out.2.1
      have hv' : Hid _ := hv
      have h1' : Hid _ := h1
      have h2' : Hid (Ww o) := h2
      clear hv h1 h2
      go_wp2
      go_ret
      exact ⟨o, rfl, hrow, h1'.out, h2'.out, hv'.out, hbel⟩

theorem four_valW (o : List Nat) (hl : o.length = 4) (hw : Ww o) : four (valW o) = .agg #[.int .u64 (o.getD 0 0 : Int), .int .u64 (o.getD 1 0 : Int), .int .u64 (o.getD 2 0 : Int), .int .u64 (o.getD 3 0 : Int)] := by
  match o, hl with
  | [a, b, c, d], _ =>
    have h0 := hw 0
    have h1 := hw 1
    have h2 := hw 2
    have h3 := hw 3
    simp only [List.getD_cons_zero, List.getD_cons_succ] at h0 h1 h2 h3 ⊢
    refine four_eq _ _ _ _ _ ⟨by omega, by omega⟩ ⟨by omega, by omega⟩ ⟨by omega, by omega⟩ ⟨by omega, by omega⟩ ?_
    simp only [valW]
    omega

set_option maxHeartbeats 1000000 in
theorem four_any (la : List Nat) (va : Value) (w : World) (ha : Sl w va la) (hda : Dg la) (hla : la.length ≤ 10000) :
    Calls Tryd.prog 28 #[va] w fun e w' => e = .returned (four (valD la % M4)) ∧ Below w.heap.size w w' := by
  have Ha : Hid (Sl w va la) := ha
  have Hda : Hid (Dg la) := hda
  obtain ⟨a, capa, rfl, -, -, -⟩ := ha
  clear hda
  go_enter Tryd.func28, Tryd.ntmps28
  go_wp2_with fail
  refine (toWords_any la _ 4 _ (Ha.out.below ((Below.refl _ _).alloc (Nat.le_refl _) _)) Hda.out hla (by omega)).mono ?_
  rintro e w1 ⟨o, rfl, hrow, hol, how, hov, hbel⟩
  have c0 := hrow.cell 0 (by omega)
  have c1 := hrow.cell 1 (by omega)
  have c2 := hrow.cell 2 (by omega)
  have c3 := hrow.cell 3 (by omega)
  have V : Hid (four (valD la % M4) = .agg #[.int .u64 (o.getD 0 0 : Int), .int .u64 (o.getD 1 0 : Int), .int .u64 (o.getD 2 0 : Int), .int .u64 (o.getD 3 0 : Int)]) := by
    unfold Hid
    rw [← four_valW o hol how, hov]
    rfl
  have hsz : (w.alloc (.cells #[.int .u64 0, .int .u64 0, .int .u64 0, .int .u64 0] 24)).heap.size = w.heap.size + 1 := by simp
  rw [hsz] at c0 c1 c2 c3
  clear hsz
  generalize o.getD 0 0 = x0 at *
  generalize o.getD 1 0 = x1 at *
  generalize o.getD 2 0 = x2 at *
  generalize o.getD 3 0 = x3 at *
  have r0 : w1.cell? ⟨w.heap.size, 0, none⟩ = some (.int .u64 0) := by rw [(bcell' hbel).1 _ _ (by simp)]; simp [go_sem]
  have r1 : w1.cell? ⟨w.heap.size, 1, none⟩ = some (.int .u64 0) := by rw [(bcell' hbel).1 _ _ (by simp)]; simp [go_sem]
  have r2 : w1.cell? ⟨w.heap.size, 2, none⟩ = some (.int .u64 0) := by rw [(bcell' hbel).1 _ _ (by simp)]; simp [go_sem]
  have r3 : w1.cell? ⟨w.heap.size, 3, none⟩ = some (.int .u64 0) := by rw [(bcell' hbel).1 _ _ (by simp)]; simp [go_sem]
  have fr : ∀ j, w1.frozen? ⟨w.heap.size, j, none⟩ = false := fun j => by rw [(bcell' hbel).2 _ _ (by simp)]; simp [go_sem]
  have HB : Hid (Below w.heap.size w w1) := ((Below.refl _ _).alloc (Nat.le_refl _) _).trans (hbel.mono (by simp))
  clear hrow hol how hov hbel
  go_wp2
  go_region
  go_wp2
  refine bodyPost_ret (v := .agg #[.int .u64 (x0 : Int), .int .u64 (x1 : Int), .int .u64 (x2 : Int), .int .u64 (x3 : Int)]) (by simp [results, Tryd.results28, go_sem, r0, r1, r2, r3]) rfl ⟨?_, ?_⟩
  · rw [V.out]
  · repeat (first | exact HB.out | refine Below.drew ?_ | refine Below.setCell ?_ (by simp <;> omega) _)

end Go.Proofs.YtlpmbhneffdcfaaDoor
