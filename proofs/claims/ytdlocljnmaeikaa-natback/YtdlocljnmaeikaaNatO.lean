/-
  The contracts of nat's Sub and Trim. Conditions: as each theorem says.
-/
import Derived.Test.YtdlocljnmaeikaaNatN
namespace Go.Proofs.Ytdlocljnmaeikaa
open Go.RowKit
set_option linter.unusedVariables false

set_option maxHeartbeats 1000000 in
theorem subN_none (la lb : List Nat) (va vb : Value) (w : World) (ha : SK .u64 w va la) (hb : SK .u64 w vb lb) (hwa : Ww la) (hwb : Ww lb) (hla : la.length ≤ 100000) (hlb : lb.length ≤ 100000) (hlt : valW la < valW lb) :
    Calls Try.prog 10 #[va, vb] w fun e w' => e = .returned (.tuple #[.slice none 0 0, .bool false]) ∧ Below w.heap.size w w' := by
  have cC : Hid (Calls Try.prog 17 #[va, vb] w fun e w' => e = .returned (.int .i64 (-1)) ∧ Below w.heap.size w w') := by
    have := cmpN_any la lb va vb w ha hb hwa hwb (by omega) (by omega)
    rwa [ord_lt (by omega)] at this
  obtain ⟨a, ca, rfl⟩ := ha.shape
  obtain ⟨b, cb, rfl⟩ := hb.shape
  clear ha hb hwa hwb hlt
  go_enter Try.func10, Try.ntmps10
  go_wp2_with fail
  refine cC.out.mono ?_
  rintro e w1 ⟨rfl, g1⟩
  go_wp2_with fail
  go_ret2
  exact ⟨rfl, g1⟩

theorem sub_stepN (x y c : Nat) (hx : x < 18446744073709551616) (hy : y < 18446744073709551616) (hc : c ≤ 1) : ∃ s d : Nat, s < 18446744073709551616 ∧ d ≤ 1 ∧ Hid (x + 18446744073709551616 * d = y + c + s) ∧
    ∀ w : World, (callFunc 37 #[.int .u64 (x : Int), .int .u64 (y : Int), .int .u64 (c : Int)]).run Try.prog w = .ok (.value (.tuple #[.int .u64 (s : Int), .int .u64 (d : Int)])) w := by
  obtain ⟨s, d, hs, hd, hE, hR⟩ := sub_step (x : Int) (y : Int) (c : Int) ⟨by omega, by omega⟩ ⟨by omega, by omega⟩ ⟨by omega, by omega⟩
  obtain ⟨s, rfl⟩ := Int.eq_ofNat_of_zero_le hs.1
  obtain ⟨d, rfl⟩ := Int.eq_ofNat_of_zero_le hd.1
  refine ⟨s, d, by have := hs.2; omega, by have := hd.2; omega, ?_, hR⟩
  have := hE.out
  unfold Hid
  omega

set_option maxHeartbeats 2000000 in
theorem subN_some (la lb : List Nat) (va vb : Value) (w : World) (ha : SK .u64 w va la) (hb : SK .u64 w vb lb) (hwa : Ww la) (hwb : Ww lb) (hla : la.length ≤ 100000) (hlb : lb.length ≤ 100000) (hle : valW lb ≤ valW la) :
    Calls Try.prog 10 #[va, vb] w fun e w' => ∃ v, e = .returned (.tuple #[v, .bool true]) ∧ Can w' v (valW la - valW lb) ∧ Below w.heap.size w w' := by
  obtain ⟨o, ho⟩ : ∃ o : Int, ord (valW la : Int) (valW lb : Int) = o := ⟨_, rfl⟩
  have ho0 : ¬ o < 0 := by rw [← ho]; unfold ord; split; omega; split <;> omega
  have cC : Hid (Calls Try.prog 17 #[va, vb] w fun e w' => e = .returned (.int .i64 o) ∧ Below w.heap.size w w') := by
    have := cmpN_any la lb va vb w ha hb hwa hwb (by omega) (by omega)
    rwa [ho] at this
  have hd0 : decide (o < 0) = false := by simpa using ho0
  have HA : Hid (SK .u64 w va la) := ha
  have HB : Hid (SK .u64 w vb lb) := hb
  obtain ⟨a, ca, rfl⟩ := ha.shape
  obtain ⟨b, cb, rfl⟩ := hb.shape
  have Hwa : Hid (Ww la) := hwa
  have Hwb : Hid (Ww lb) := hwb
  have Hle : Hid (valW lb ≤ valW la) := hle
  clear ha hb hwa hwb hle ho ho0
  have hla' : (la.length : Int) ≤ 100000 := by omega
  have hmk := fun w => make_words la.length (by omega) w
  go_enter Try.func10, Try.ntmps10
  go_wp2_with fail
  refine cC.out.mono ?_
  rintro e w1 ⟨rfl, g1⟩
  have G1 : Hid (Below w.heap.size w w1) := g1
  have HA1 : Hid (SK .u64 w1 (.slice a la.length ca) la) := HA.out.below g1
  have HB1 : Hid (SK .u64 w1 (.slice b lb.length cb) lb) := HB.out.below g1
  clear g1 HA HB cC
  go_wp2_with fail
  clear hmk
  go_loopw [7, 18] (fun x y W => ∃ (i c : Nat) (o : List Nat), y = .int .i64 i ∧ x = .int .u64 (c : Int) ∧ i ≤ la.length ∧ o.length = la.length ∧ Row .u64 w1.heap.size w1.heap.size o W ∧ Below w1.heap.size w1 W ∧ Hid (SubW la lb i c o)) (fun _ y _ => la.length - (intOf y).toNat)
  case atStart => exact ⟨0, 0, _, rfl, rfl, Nat.zero_le _, by simp, Row.made w1 la.length _, (Below.refl _ _).alloc (Nat.le_refl _) _, Ww.zeros _, by omega, by simp [valW]⟩
  case round =>
    obtain ⟨i, c, o, rfl, rfl, hi, hol, hrow, hbel, H⟩ := hrel
    have hc1 : c ≤ 1 := H.out.2.1
    have hsz := hbel.size
    have Hol : Hid (o.length = la.length) := hol
    clear hol
    by_cases hlt : i < la.length
    · have hlt' : (i : Int) < la.length := by omega
      obtain ⟨x, hx⟩ : ∃ x, Hid (la.getD i 0 = x) := ⟨_, rfl⟩
      obtain ⟨y, hy⟩ : ∃ y, Hid (lb.getD i 0 = y) := ⟨_, rfl⟩
      have hx1 : x < 18446744073709551616 := by rw [← hx.out]; exact Hwa.out i
      have hy1 : y < 18446744073709551616 := by rw [← hy.out]; exact Hwb.out i
      obtain ⟨s, d, hs, hd, hE, hS⟩ := sub_stepN x y c hx1 hy1 hc1
      have R : Hid _ := H.out.step (by rw [Hol.out]; exact hlt) x y s d hx.out hy.out hs hd hE.out
      have co := hrow.cell i (by rw [Hol.out]; exact hlt)
      obtain ⟨q, hq⟩ : ∃ q, Hid (o.getD i 0 = q) := ⟨_, rfl⟩
      rw [hq.out] at co
      have fo := hrow.free i
      have Hr : Hid (Row .u64 w1.heap.size w1.heap.size o wr) := hrow
      have Hb : Hid (Below w1.heap.size w1 wr) := hbel
      obtain ⟨a', ca', ea, -, -, hca⟩ := HA1.out.below hbel
      simp only [Value.slice.injEq] at ea
      obtain ⟨rfl, -, rfl⟩ := ea
      obtain ⟨ba, oa, rfl, hba, hcella⟩ := hca i hlt
      rw [hx.out] at hcella
      have cW : Hid (Calls Try.prog 38 #[.slice b lb.length cb, .int .i64 (i : Int)] wr.drew fun e w' => e = .returned (.int .u64 (y : Int)) ∧ w' = wr.drew) := by
        have := wordN_any lb _ wr.drew (HB1.out.below hbel.drew) (i : Int)
        rwa [wdI_nat, hy.out] at this
      clear hrow hbel hca hE H
      go_wp2_with fail
      go_region_with (first
        | (go_at_call 38; refine cW.out.mono ?_; rintro e w' ⟨rfl, hw'⟩; rw [hw']; clear hw' w'))
      all_goals
        go_wp2_with fail
        go_roundw
        case rel => exact ⟨i + 1, d, _, by go_num, rfl, by omega, by rw [List.length_set]; exact Hol.out, (Hr.out.set i _ (by rw [Hol.out]; exact hlt)).drew, (Hb.out.setCell (Nat.le_refl _) _).drew, R⟩
        case measure => simp [intOf]; omega
    · obtain rfl : i = la.length := by omega
      have hv : Hid (valW o = valW la - valW lb) := H.out.done Hol.out Hwb.out Hle.out (valW_lt la Hwa.out)
      have hsl := hrow.sk
      rw [Hol.out] at hsl
      have Hs : Hid (SK .u64 wr (.slice (some ⟨w1.heap.size, 0, none⟩) la.length la.length) o) := hsl
      have Ho : Hid (Ww o) := H.out.1
      have Hb : Hid (Below w1.heap.size w1 wr) := hbel
      clear hsl hrow hbel
      go_wp2_with fail
      refine (cut_any o _ _ Hs.out (by rw [Hol.out]; omega) Ho.out).mono ?_
      rintro e w2 ⟨v, rfl, hC, hw1⟩; rw [hw1]; clear hw1 w2
      rw [hv.out] at hC
      have HC : Hid (Can wr v (valW la - valW lb)) := hC
      obtain ⟨ra, rn, rc, rfl⟩ := hC.shape
      clear hC
      go_wp2_with fail
      go_ret2
      exact ⟨_, rfl, HC.out, G1.out.trans (Hb.out.mono G1.out.size)⟩

end Go.Proofs.Ytdlocljnmaeikaa
