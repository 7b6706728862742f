/-
  The contracts of nat's addRow, MulWord and Mul: a row of a product, the words of products. Conditions: as each theorem says.
-/
import Derived.Test.YtdlocljnmaeikaaNatB
namespace Go.Proofs.Ytdlocljnmaeikaa
open Go.RowKit
set_option linter.unusedVariables false

theorem mul_stepN (x y : Nat) (hx : x < 18446744073709551616) (hy : y < 18446744073709551616) : ∃ h l : Nat, l < 18446744073709551616 ∧ h < 18446744073709551616 ∧ Hid (x * y = l + 18446744073709551616 * h) ∧
    ∀ w : World, Calls Try.prog 60 #[.int .u64 (x : Int), .int .u64 (y : Int)] w fun e w' => e = .returned (.tuple #[.int .u64 (h : Int), .int .u64 (l : Int)]) ∧ w' = w := by
  refine ⟨x * y / 18446744073709551616, x * y % 18446744073709551616, Nat.mod_lt _ (by omega), ?_, ?_, fun w => mul64_any x y hx hy w⟩
  · have := Nat.mul_le_mul (show x ≤ 18446744073709551615 by omega) (show y ≤ 18446744073709551615 by omega)
    omega
  · unfold Hid; omega

set_option maxHeartbeats 2000000 in
theorem addRow_any (w0 : World) (la : List Nat) (va : Value) (o0 : List Nat) (g off n cap m : Nat) (W : World) (ha : SK .u64 w0 va la) (hwa : Ww la) (hla : la.length ≤ 100000) (hrow : Row .u64 w0.heap.size g o0 W) (hbel : Below w0.heap.size w0 W)
    (hw0 : Ww o0) (hn : la.length ≤ n) (hoff : off + la.length ≤ o0.length) (hm : m < 18446744073709551616) :
    Calls Try.prog 50 #[.slice (some ⟨g, off, none⟩) n cap, va, .int .u64 (m : Int)] W fun e W' => ∃ (o : List Nat) (c : Nat), e = .returned (.int .u64 (c : Int)) ∧ Row .u64 w0.heap.size g o W' ∧ Below w0.heap.size w0 W' ∧ RowW la m off o0 la.length c o := by
  obtain ⟨a, capa, rfl, hcapa, -, hc⟩ := ha
  have Hc : Hid _ := hc
  have Hwa : Hid (Ww la) := hwa
  have hla' : (la.length : Int) ≤ 100000 := by omega
  have Hr0 : Hid (Row .u64 w0.heap.size g o0 W) := hrow
  have Hb0 : Hid (Below w0.heap.size w0 W) := hbel
  have Hw0 : Hid (Ww o0) := hw0
  have Hoff : Hid (off + la.length ≤ o0.length) := hoff
  clear hc hwa hrow hbel hw0 hoff
  go_enter Try.func50, Try.ntmps50
  go_wp2_with fail
  go_loopw [7, 15] (fun x y wr => ∃ (i c : Nat) (o : List Nat), y = .int .i64 i ∧ x = .int .u64 (c : Int) ∧ i ≤ la.length ∧ Row .u64 w0.heap.size g o wr ∧ Below w0.heap.size w0 wr ∧ Hid (RowW la m off o0 i c o)) (fun _ y _ => la.length - (intOf y).toNat)
  case atStart => exact ⟨0, 0, o0, rfl, rfl, Nat.zero_le _, Hr0.out, Hb0.out, RowW.start la m off o0 Hw0.out⟩
  case round =>
    obtain ⟨i, c, o, rfl, rfl, hi, hrow, hbel, H⟩ := hrel
    clear Hr0 Hb0
    have hc1 : c < 18446744073709551616 := H.out.2.2.1
    have hol : o.length = o0.length := H.out.1
    have hsz := hbel.size
    by_cases hlt : i < la.length
    · have hlt' : (i : Int) < la.length := by omega
      have hin : (i : Int) < n := by omega
      obtain ⟨ba, oa, rfl, hba, hcella⟩ := Hc.out i hlt
      obtain ⟨x, hx⟩ : ∃ x, Hid (la.getD i 0 = x) := ⟨_, rfl⟩
      rw [hx.out] at hcella
      have hx1 : x < 18446744073709551616 := by rw [← hx.out]; exact Hwa.out i
      have ca : wr.cell? ⟨ba, oa + i, none⟩ = some (.int .u64 (x : Int)) := (hbel.cell (p := ⟨ba, oa + i, none⟩) hba).trans hcella
      obtain ⟨hh, ll, hl1, hh1, hM, cM⟩ := mul_stepN x m hx1 hm
      have hpos : off + i < o.length := by have := Hoff.out; omega
      have Hpos : Hid (off + i < o.length) := hpos
      obtain ⟨q, hq⟩ : ∃ q, Hid (o.getD (off + i) 0 = q) := ⟨_, rfl⟩
      have hq1 : q < 18446744073709551616 := by rw [← hq.out]; exact H.out.2.1 _
      have co := hrow.cell (off + i) hpos
      rw [hq.out] at co
      have fo := hrow.free (off + i)
      obtain ⟨hup, R0⟩ := H.out.step hpos hlt x q hh ll (q + ll + c) hx.out hq.out hx1 hm hM.out hl1 rfl
      obtain ⟨S, hS⟩ : ∃ S, S = q + ll + c := ⟨_, rfl⟩
      rw [← hS] at hup R0
      obtain ⟨u, hu⟩ : ∃ u, S / 18446744073709551616 = u := ⟨_, rfl⟩
      rw [hu] at hup R0
      have R : Hid (RowW la m off o0 (i + 1) (hh + u) (o.set (off + i) (S % 18446744073709551616))) := R0
      have Hr : Hid (Row .u64 w0.heap.size g o wr) := hrow
      have Hb : Hid (Below w0.heap.size w0 wr) := hbel
      have hge := hrow.ge
      have hlt2 := hrow.lt
      have cM' : Hid (∀ w : World, Calls Try.prog 60 #[.int .u64 (x : Int), .int .u64 (m : Int)] w fun e w' => e = .returned (.tuple #[.int .u64 (hh : Int), .int .u64 (ll : Int)]) ∧ w' = w) := cM
      have Hup : (hh : Int) + (u : Int) < 18446744073709551616 := by omega
      have HS : Hid (S = q + ll + c) := hS
      have Hu : Hid (S / 18446744073709551616 = u) := hu
      clear hcella hrow hbel R0 hup cM hM H hpos hol hS hu
      go_wp2_with fail
      refine (cM'.out _).mono ?_
      rintro e w1 ⟨rfl, hw1⟩; rw [hw1]; clear hw1 w1
      go_wp2_with fail
      refine (sum_any [q, ll, c] _ _ (SK.lit3 wr q ll c) (ww3 hq1 hl1 hc1) (by simp)).mono ?_
      rw [sum3, ← HS.out, Hu.out]
      rintro e w1 ⟨rfl, hw1⟩; rw [hw1]; clear hw1 w1
      go_wp2_with fail
      go_roundw
      case rel => exact ⟨i + 1, hh + u, _, by go_num, by go_num, by omega, (Hr.out.set (off + i) _ Hpos.out).alloc _, (Hb.out.setCell hge _).alloc (by simp; exact hsz) _, R⟩
      case measure => simp [intOf]; omega
    · obtain rfl : i = la.length := by omega
      have Hr : Hid (Row .u64 w0.heap.size g o wr) := hrow
      have Hb : Hid (Below w0.heap.size w0 wr) := hbel
      clear hrow hbel
      go_wp2_with fail
      go_ret
      exact ⟨o, c, rfl, Hr.out, Hb.out, H.out⟩

set_option maxHeartbeats 2000000 in
theorem mulWordN_any (la : List Nat) (va : Value) (m : Nat) (w : World) (ha : SK .u64 w va la) (hwa : Ww la) (hla : la.length ≤ 100000) (hm : m < 18446744073709551616) :
    Calls Try.prog 26 #[va, .int .u64 (m : Int)] w fun e w' => ∃ v, e = .returned v ∧ Can w' v (valW la * m) ∧ Below w.heap.size w w' := by
  have HA : Hid (SK .u64 w va la) := ha
  obtain ⟨a, capa, rfl⟩ := ha.shape
  have Hwa : Hid (Ww la) := hwa
  clear ha hwa
  have hla' : (la.length : Int) ≤ 100000 := by omega
  obtain ⟨n, hn⟩ : ∃ n : Nat, Hid (n = la.length + 1) := ⟨_, rfl⟩
  have hn1 : (la.length : Int) + 1 = (n : Int) := by have := hn.out; omega
  have hn2 : (n : Int) ≤ 100001 := by have := hn.out; omega
  have hmk := fun w => make_words n (by omega) w
  go_enter Try.func26, Try.ntmps26
  go_wp2_with fail
  clear hmk
  refine (addRow_any w la _ (List.replicate n 0) _ 0 n n m _ HA.out Hwa.out hla (Row.made w n _) ((Below.refl _ _).alloc (Nat.le_refl _) _) (Ww.zeros n) (by have := hn.out; omega) (by have := hn.out; simp; omega) hm).mono ?_
  rintro e w1 ⟨o, c, rfl, hrow, hbel, hR⟩
  have hol : o.length = n := by rw [hR.1]; simp
  have hp : la.length < o.length := by rw [hol]; have := hn.out; omega
  obtain ⟨hz, ho1, ho2⟩ := hR.top (by rw [Nat.zero_add]; exact hp) (by rw [List.getD_eq_getElem?_getD, List.getElem?_replicate]; split <;> rfl)
  rw [Nat.zero_add] at hz ho1 ho2
  rw [valW_zeros, Nat.pow_zero, Nat.one_mul, Nat.zero_add] at ho2
  have co := hrow.cell la.length hp
  rw [hz] at co
  have fo := hrow.free la.length
  have Hr : Hid (Row .u64 w.heap.size w.heap.size o w1) := hrow
  have Hb : Hid (Below w.heap.size w w1) := hbel
  have Ho1 : Hid (Ww (o.set la.length c)) := ho1
  have Ho2 : Hid (valW (o.set la.length c) = valW la * m) := ho2
  have Hol : Hid (o.length = n) := hol
  have Hp : Hid (la.length < o.length) := hp
  have hlan : (la.length : Int) < n := by omega
  clear hrow hbel ho1 ho2 hR hol hz hp
  go_wp2_with fail
  have hs := (Hr.out.set la.length c Hp.out).sk
  rw [List.length_set, Hol.out] at hs
  refine (cut_any (o.set la.length c) _ _ hs (by rw [List.length_set, Hol.out]; omega) Ho1.out).mono ?_
  rintro e w2 ⟨v, rfl, hC, hw1⟩; rw [hw1]; clear hw1 w2
  rw [Ho2.out] at hC
  have HC : Hid (Can (w1.setCell ⟨w.heap.size, la.length, none⟩ (.int .u64 (c : Int))) v (valW la * m)) := hC
  obtain ⟨ra, rn, rc, rfl⟩ := hC.shape
  clear hC hs
  go_wp2_with fail
  go_ret
  exact ⟨_, rfl, HC.out, Hb.out.setCell (Nat.le_refl _) _⟩

end Go.Proofs.Ytdlocljnmaeikaa
