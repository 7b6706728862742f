/-
  The contract of nat's Add: the words of the sum. Conditions: as the theorem says.
-/
import Derived.Test.YtdlocljnmaeikaaNatA
namespace Go.Proofs.Ytdlocljnmaeikaa
open Go.RowKit
set_option linter.unusedVariables false

theorem SK.lit3 (w : World) (d0 d1 d2 : Nat) : SK .u64 (w.alloc (.cells #[.int .u64 (d0 : Int), .int .u64 (d1 : Int), .int .u64 (d2 : Int)] 37)) (.slice (some ⟨w.heap.size, 0, none⟩) 3 3) [d0, d1, d2] := by
  refine ⟨some ⟨w.heap.size, 0, none⟩, 3, rfl, by simp, fun h => by simp at h, fun j hj => ⟨w.heap.size, 0, rfl, by simp, ?_⟩⟩
  have : j = 0 ∨ j = 1 ∨ j = 2 := by simp at hj; omega
  rcases this with rfl | rfl | rfl <;> simp
theorem SK.lit1 (w : World) (d : Nat) : SK .u64 (w.alloc (.cells #[.int .u64 (d : Int)] 37)) (.slice (some ⟨w.heap.size, 0, none⟩) 1 1) [d] := by
  refine ⟨some ⟨w.heap.size, 0, none⟩, 1, rfl, by simp, fun h => by simp at h, fun j hj => ⟨w.heap.size, 0, rfl, by simp, ?_⟩⟩
  have : j = 0 := by simp at hj; omega
  subst this; simp
theorem Row.sk {k : IntKind} {base g : Nat} {l : List Nat} {W : World} (h : Row k base g l W) : SK k W (.slice (some ⟨g, 0, none⟩) l.length l.length) l :=
  ⟨some ⟨g, 0, none⟩, l.length, rfl, Nat.le_refl _, fun h => by simp at h, fun j hj => ⟨g, 0, rfl, h.lt, by rw [Nat.zero_add]; exact h.cell j hj⟩⟩
theorem Row.alloc {k : IntKind} {base g : Nat} {l : List Nat} {W : World} (h : Row k base g l W) (o : Obj) : Row k base g l (W.alloc o) := h.below ((Below.refl _ _).alloc (Nat.le_refl _) o)
theorem ww3 {a b c : Nat} (ha : a < 18446744073709551616) (hb : b < 18446744073709551616) (hc : c < 18446744073709551616) : Ww [a, b, c] := fun j => by
  rcases j with _ | _ | _ | j <;> simp <;> omega
theorem sum3 (a b c : Nat) : smW [a, b, c] [a, b, c].length = a + b + c := by simp [smW]

set_option maxHeartbeats 2000000 in
theorem addN_any (la lb : List Nat) (va vb : Value) (w : World) (ha : SK .u64 w va la) (hb : SK .u64 w vb lb) (hwa : Ww la) (hwb : Ww lb) (hla : la.length ≤ 100000) (hlb : lb.length ≤ 100000) :
    Calls Try.prog 15 #[va, vb] w fun e w' => ∃ v, e = .returned v ∧ Can w' v (valW la + valW lb) ∧ Below w.heap.size w w' := by
  have HA : Hid (SK .u64 w va la) := ha
  have HB : Hid (SK .u64 w vb lb) := hb
  obtain ⟨a, capa, rfl⟩ := ha.shape
  obtain ⟨b, capb, rfl⟩ := hb.shape
  clear ha hb
  have Hwa : Hid (Ww la) := hwa
  have Hwb : Hid (Ww lb) := hwb
  clear hwa hwb
  have hla' : (la.length : Int) ≤ 100000 := by omega
  have hlb' : (lb.length : Int) ≤ 100000 := by omega
  obtain ⟨n, hn⟩ : ∃ n : Nat, Hid (n = max la.length lb.length + 1) := ⟨_, rfl⟩
  have hn1 : max (la.length : Int) (lb.length : Int) + 1 = (n : Int) := by have := hn.out; omega
  have hn2 : (n : Int) ≤ 100001 := by have := hn.out; omega
  have hmk := fun w => make_words n (by omega) w
  go_enter Try.func15, Try.ntmps15
  go_wp2_with fail
  clear hmk
  go_loopw [6, 17] (fun x y W => ∃ (i c : Nat) (o : List Nat), y = .int .i64 i ∧ x = .int .u64 (c : Int) ∧ i ≤ n ∧ o.length = n ∧ Row .u64 w.heap.size w.heap.size o W ∧ Below w.heap.size w W ∧ Hid (AddW la lb i c o)) (fun _ y _ => n - (intOf y).toNat)
  case atStart => exact ⟨0, 0, _, rfl, rfl, Nat.zero_le _, by simp, Row.made w n _, (Below.refl _ _).alloc (Nat.le_refl _) _, Ww.zeros n, by omega, by simp [valW]⟩
  case round =>
    obtain ⟨i, c, o, rfl, rfl, hi, hol, hrow, hbel, H⟩ := hrel
    have hc1 : (c : Int) ≤ 1 := by have := H.out.2.1; omega
    have hsz := hbel.size
    have Hol : Hid (o.length = n) := hol
    clear hol
    by_cases hlt : i < n
    · have hlt' : (i : Int) < n := by omega
      obtain ⟨x, hx⟩ : ∃ x, Hid (la.getD i 0 = x) := ⟨_, rfl⟩
      obtain ⟨y, hy⟩ : ∃ y, Hid (lb.getD i 0 = y) := ⟨_, rfl⟩
      have hx1 : x < 18446744073709551616 := by rw [← hx.out]; exact Hwa.out i
      have hy1 : y < 18446744073709551616 := by rw [← hy.out]; exact Hwb.out i
      have R : Hid _ := H.out.step (by rw [Hol.out]; exact hlt) x y (x + y + c) hx.out hy.out hx1 hy1 rfl
      have co := hrow.cell i (by rw [Hol.out]; exact hlt)
      obtain ⟨q, hq⟩ : ∃ q, Hid (o.getD i 0 = q) := ⟨_, rfl⟩
      rw [hq.out] at co
      have fo := hrow.free i
      have Hr : Hid (Row .u64 w.heap.size w.heap.size o wr) := hrow
      have Hb : Hid (Below w.heap.size w wr) := hbel
      have HA' : Hid (SK .u64 wr (.slice a la.length capa) la) := HA.out.below hbel
      have HB' : Hid (SK .u64 wr (.slice b lb.length capb) lb) := HB.out.below hbel
      have hlt2 := hrow.lt
      clear hrow hbel
      go_wp2_with fail
      refine (wordN_any la _ _ HA'.out _).mono ?_
      rw [wdI_nat, hx.out]
      rintro e w1 ⟨rfl, hw1⟩; rw [hw1]; clear hw1 w1
      go_wp2_with fail
      refine (wordN_any lb _ _ HB'.out _).mono ?_
      rw [wdI_nat, hy.out]
      rintro e w1 ⟨rfl, hw1⟩; rw [hw1]; clear hw1 w1
      go_wp2_with fail
      refine (sum_any [x, y, c] _ _ (SK.lit3 wr x y c) (ww3 hx1 hy1 (by omega)) (by simp)).mono ?_
      rw [sum3]
      generalize x + y + c = S at *
      rintro e w1 ⟨rfl, hw1⟩; rw [hw1]; clear hw1 w1
      go_wp2_with fail
      go_roundw
      case rel => exact ⟨i + 1, _, _, by go_num, rfl, by omega, by rw [List.length_set]; exact Hol.out, (Hr.out.set i _ (by rw [Hol.out]; exact hlt)).alloc _, (Hb.out.setCell (Nat.le_refl _) _).alloc (by simp; exact hsz) _, R⟩
      case measure => simp [intOf]; omega
    · obtain rfl : i = n := by omega
      have hv : Hid (valW o = valW la + valW lb) := H.out.done _ Hol.out (by have := hn.out; omega) (by have := hn.out; omega) Hwa.out Hwb.out
      have hsl := hrow.sk
      rw [Hol.out] at hsl
      have Hs : Hid (SK .u64 wr (.slice (some ⟨w.heap.size, 0, none⟩) i i) o) := hsl
      have Ho : Hid (Ww o) := H.out.1
      have Hb : Hid (Below w.heap.size w wr) := hbel
      clear hsl hrow hbel
      go_wp2_with fail
      refine (cut_any o _ _ Hs.out (by rw [Hol.out]; omega) Ho.out).mono ?_
      rintro e w1 ⟨v, rfl, hC, hw1⟩; rw [hw1]; clear hw1 w1
      rw [hv.out] at hC
      have HC : Hid (Can wr v (valW la + valW lb)) := hC
      obtain ⟨ra, rn, rc, rfl⟩ := hC.shape
      clear hC
      go_wp2_with fail
      go_ret
      exact ⟨_, rfl, HC.out, Hb.out⟩

end Go.Proofs.Ytdlocljnmaeikaa
