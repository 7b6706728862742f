/-
  The contract of the broad's bytes: the words as bytes, the highest first. Conditions: as the theorem says.
-/
import Derived.Test.YthmpbblljbihgaaDoorBrD
namespace Go.Proofs.YthmpbblljbihgaaDoor.Br
open Go.RowKit
set_option linter.unusedVariables false
set_option linter.unusedSimpArgs false

/-- The eight bytes of each word, the highest first. -/
def by8 (x : Nat) : List Nat := beB x 8
theorem by8_length (x : Nat) : (by8 x).length = 8 := beB_length _ _
def byL (l : List Nat) : Nat → List Nat
  | 0 => []
  | t + 1 => byL l t ++ by8 (l.getD t 0)
theorem byL_length (l : List Nat) : ∀ t, (byL l t).length = 8 * t
  | 0 => rfl
  | t + 1 => by simp [byL, byL_length l t, by8_length]; omega
def outB (s : S8) : List Nat := byL s.list 8
theorem outB_length (s : S8) : (outB s).length = 64 := byL_length _ 8

theorem splice_step (L : List Value) (l : List Nat) (n i : Nat) (hi : i < l.length) (hL : n + l.length ≤ L.length) :
    (splice L n (bv8 (l.take i))).set (n + i) (.int .u8 (l.getD i 0 : Int)) = splice L n (bv8 (l.take (i + 1))) := by
  have e1 : bv8 (l.take (i + 1)) = bv8 (l.take i) ++ [.int .u8 (l.getD i 0 : Int)] := by rw [take_more l i hi]; simp [bv8]
  have e2 : (bv8 (l.take i)).length = i := by rw [bv8_length, List.length_take]; omega
  have e3 : (bv8 (l.take (i + 1))).length = i + 1 := by rw [bv8_length, List.length_take]; omega
  have e4 : (L.take n).length = n := by simp; omega
  unfold splice
  rw [e2, e3, e1]
  rw [List.set_append_right _ _ (by omega), e4, List.set_append_right _ _ (by omega), e2, show n + i - n - i = 0 by omega]
  rw [List.drop_eq_getElem_cons (show n + i < L.length by omega), List.set_cons_zero]
  simp [Nat.add_assoc]
theorem splice_none (L : List Value) (n : Nat) (hL : n ≤ L.length) : splice L n (bv8 []) = L := by
  unfold splice
  simp [bv8]
/-- Bytes laid over the noughts behind others. -/
theorem splice_mid (p q : List Nat) (m : Nat) : splice (bv8 (p ++ List.replicate (q.length + m) 0)) p.length (bv8 q) = bv8 (p ++ q ++ List.replicate m 0) := by
  unfold splice
  rw [bv8_length]
  simp only [bv8, List.map_append, List.append_assoc]
  rw [List.take_append_of_le_length (by simp), List.take_of_length_le (by simp), List.drop_append, List.drop_eq_nil_of_le (by simp), List.length_map, show p.length + q.length - p.length = q.length by omega]
  simp
theorem at_bytes {T : TypeId} {W : World} {g : Nat} {m : List Nat} (h : At T W g (bv8 m)) (n cap : Nat) (hn : n ≤ m.length) (hc : n ≤ cap) : SK .u8 W (.slice (some ⟨g, 0, none⟩) n cap) (m.take n) := by
  have hl : (m.take n).length = n := by rw [List.length_take]; omega
  refine ⟨some ⟨g, 0, none⟩, cap, by rw [hl], by omega, fun e => by simp at e, fun j hj => ⟨g, 0, rfl, h.lt, ?_⟩⟩
  rw [hl] at hj
  rw [Nat.zero_add, h.cell j, bv8_get m j (by omega)]
  simp [List.getD_eq_getElem?_getD, List.getElem?_take, hj]
set_option maxHeartbeats 1000000 in
theorem appended_any (x : Nat) (hx : x < 18446744073709551616) (T : TypeId) (b n cap : Nat) (L : List Value) (w : World) (hA : At T w b L) (hcap : n + 8 ≤ cap) (hL : n + 8 ≤ L.length) (hn : n ≤ 1000000) :
    Calls Tryd.prog 35 #[.slice (some ⟨b, 0, none⟩) n cap, .int .u64 (x : Int)] w fun e w' => e = .returned (.slice (some ⟨b, 0, none⟩) (n + 8) cap) ∧ At T w' b (splice L n (bv8 (by8 x))) ∧ Oth b w w' := by
  have HA : Hid (At T w b L) := hA
  have hx' : (x : Int) < 18446744073709551616 := by omega
  have hLe : Hid (splice L n (bv8 ((by8 x).take 0)) = L) := splice_none L n (by omega)
  have hst : Hid (∀ i, i < 8 → (splice L n (bv8 ((by8 x).take i))).set (n + i) (.int .u8 ((x / 2 ^ (56 - 8 * i) % 256 : Nat) : Int)) = splice L n (bv8 ((by8 x).take (i + 1)))) := by
    intro i hi
    have := splice_step L (by8 x) n i (by rw [by8_length]; exact hi) (by rw [by8_length]; exact hL)
    rw [show (by8 x).getD i 0 = x / 2 ^ (56 - 8 * i) % 256 by rw [by8, beB_get _ _ _ hi, show 8 * (8 - 1 - i) = 56 - 8 * i by omega]] at this
    exact this
  have hlen : Hid (∀ i, i ≤ 8 → (splice L n (bv8 ((by8 x).take i))).length = L.length) := by
    intro i hi
    exact length_splice _ _ _ (by rw [bv8_length, List.length_take]; omega)
  have hall : Hid ((by8 x).take 8 = by8 x) := List.take_of_length_le (by rw [by8_length]; omega)
  clear hA
  go_enter Tryd.func35, Tryd.ntmps35
  go_wp2_with fail
  go_loopw [0, 6] (fun v y W => ∃ i : Nat, i ≤ 8 ∧ v = .slice (some ⟨b, 0, none⟩) (n + i) cap ∧ y = .int .i64 i ∧ At T W b (splice L n (bv8 ((by8 x).take i))) ∧ Oth b w W) (fun _ y _ => 8 - (intOf y).toNat)
  case atStart => exact ⟨0, by omega, rfl, rfl, by rw [hLe.out]; exact HA.out, Oth.refl _ _⟩
  case round =>
    obtain ⟨i, hi, rfl, rfl, hA, hO⟩ := hrel
    by_cases hlt : i < 8
    · have hlt' : (i : Int) < 8 := by omega
      have hl2 := hlen.out i hi
      have hs2 : Hid ((splice L n (bv8 ((by8 x).take i))).set (n + i) (.int .u8 ((x / 2 ^ (56 - 8 * i) % 256 : Nat) : Int)) = splice L n (bv8 ((by8 x).take (i + 1)))) := hst.out i hlt
      obtain ⟨S, hS⟩ : ∃ S, splice L n (bv8 ((by8 x).take i)) = S := ⟨_, rfl⟩
      rw [hS] at hA hl2 hs2
      have HS : Hid (At T wr b S) := hA
      have HO : Hid (Oth b w wr) := hO
      clear hA hO hS
      have hfit : Hid (n + i < S.length) := by unfold Hid; omega
      have hfit2 : Hid (n + i + 1 ≤ cap) := by unfold Hid; omega
      have ev : Hid (∀ z : Int, z = (x : Int) / 2 ^ (56 - 8 * i) % 256 → z = ((x / 2 ^ (56 - 8 * i) % 256 : Nat) : Int)) := by
        intro z hz; rw [hz]; simp
      go_wp2_with (at_builtin; refine wpList_app8room rfl _ _ rfl T b (n + i) cap S (x / 2 ^ (56 - 8 * i) % 256) _ (ev.out _ rfl) rfl HS.out rfl hfit2.out hfit.out ?_; intro w1 hA1 hO1)
      go_roundw
      case rel => exact ⟨i + 1, by omega, rfl, by go_num, by rw [← hs2.out]; exact hA1, HO.out.trans hO1⟩
      case measure => simp [intOf] <;> omega
    · obtain rfl : i = 8 := by omega
      rw [hall.out] at hA
      have HS : Hid (At T wr b (splice L n (bv8 (by8 x)))) := hA
      have HO : Hid (Oth b w wr) := hO
      clear hA hO
      go_wp2_with fail
      go_ret
      exact ⟨rfl, HS.out, HO.out⟩
set_option maxRecDepth 100000 in
set_option maxHeartbeats 1000000 in
theorem bytes_any (s : S8) (hs : s.ok) (w : World) (T : TypeId) (b : Nat) (R : List Value) (hA : At T w b (uv s.list ++ R)) :
    Calls Tryd.prog 21 #[.pointer (some ⟨b, 0, none⟩)] w fun e w' => ∃ v, e = .returned v ∧ SK .u8 w' v (outB s) ∧ Below w.heap.size w w' := by
  have hlt := hA.lt
  have HA : Hid (At T w b (uv s.list ++ R)) := hA
  have hmk : ∀ w : World, (Instr.makeSlice 22 (.int .i64 0) (.int .i64 64)).run Tryd.prog w = .ok (.slice (some ⟨w.heap.size, 0, none⟩) 0 64) (w.alloc (.cells (Array.replicate 64 (.int .u8 0)) 5)) := by
    intro w; kernel_rfl
  have hrg : ∀ o, Hid ((w.alloc o).rangeAt b 0 (uv s.list)) := by
    intro o j v hj
    have hj' : j < 8 := by have := (List.getElem?_eq_some_iff.1 hj).1; rwa [uv_length, S8.list_length] at this
    rw [Nat.zero_add, (hA.below ((Below.refl _ _).alloc (Nat.le_refl _) o)).cell j, List.getElem?_append_left (by rw [uv_length, S8.list_length]; exact hj')]
    exact hj
  have hi : Hid ((Tryd.prog.info? 39).map (·.size) = some (uv s.list).length) := by unfold Hid; rw [uv_length, S8.list_length]; kernel_rfl
  have HS : Hid s.ok := hs
  clear hA hs
  go_enter Tryd.func21, Tryd.ntmps21
  go_wp2_with (refine wpList_load_mid rfl 39 _ rfl b 0 rfl (uv s.list) _ (hrg _).out Tryd.underlying39 rfl hi.out ?_)
  go_loopw [3, 11] (fun v y W => ∃ t : Nat, t ≤ 8 ∧ y = .int .i64 t ∧ v = .slice (some ⟨w.heap.size, 0, none⟩) (8 * t) 64 ∧ At 5 W w.heap.size (bv8 (byL s.list t ++ List.replicate (64 - 8 * t) 0)) ∧ Below w.heap.size w W) (fun _ y _ => 8 - (intOf y).toNat)
  case atStart =>
    refine ⟨0, by omega, rfl, rfl, ?_, (Below.refl _ _).alloc (Nat.le_refl _) _⟩
    exact at_new 5 w (bv8 (List.replicate 64 0))
  case round =>
    obtain ⟨t, ht, rfl, rfl, hown, hbel⟩ := hrel
    have Hb : Hid (Below w.heap.size w wr) := hbel
    by_cases hlt' : t < 8
    · have hlt2 : (t : Int) < 8 := by omega
      have hix := idx8 (uv s.list) (by rw [uv_length]; rfl) t hlt' (.int .u64 (s.list.getD t 0 : Int)) (uv_get _ _ (by rw [S8.list_length]; exact hlt'))
      have hx1 := S8.ok_get HS.out t
      have hst : Hid (splice (bv8 (byL s.list t ++ List.replicate (64 - 8 * t) 0)) (8 * t) (bv8 (by8 (s.list.getD t 0))) = bv8 (byL s.list (t + 1) ++ List.replicate (64 - 8 * (t + 1)) 0)) := by
        have := splice_mid (byL s.list t) (by8 (s.list.getD t 0)) (64 - 8 * (t + 1))
        rw [by8_length, byL_length, show 8 + (64 - 8 * (t + 1)) = 64 - 8 * t by omega] at this
        exact this
      obtain ⟨x, hx⟩ : ∃ x, s.list.getD t 0 = x := ⟨_, rfl⟩
      rw [hx] at hix hx1 hst
      have kA : Hid (Calls Tryd.prog 35 #[.slice (some ⟨w.heap.size, 0, none⟩) (8 * t) 64, .int .u64 (x : Int)] wr fun e w' => e = .returned (.slice (some ⟨w.heap.size, 0, none⟩) (8 * t + 8) 64) ∧ At 5 w' w.heap.size (splice (bv8 (byL s.list t ++ List.replicate (64 - 8 * t) 0)) (8 * t) (bv8 (by8 x))) ∧ Oth w.heap.size wr w') :=
        appended_any x hx1 5 w.heap.size (8 * t) 64 _ wr hown (by omega) (by rw [bv8_length, List.length_append, byL_length, List.length_replicate]; omega) (by omega)
      rw [hst.out] at kA
      clear hown hbel hx hst
      go_wp2_with fail
      refine kA.out.mono ?_
      rintro e w1 ⟨rfl, hA1, hO1⟩
      have HA1 : Hid (At 5 w1 w.heap.size (bv8 (byL s.list (t + 1) ++ List.replicate (64 - 8 * (t + 1)) 0))) := hA1
      have HB1 : Hid (Below w.heap.size w w1) := Oth.bel Hb.out hO1 (Nat.le_refl _)
      clear hA1 hO1 kA
      go_wp2_with fail
      go_roundw
      case rel => exact ⟨t + 1, by omega, by go_num, rfl, HA1.out, HB1.out⟩
      case measure => simp [intOf] <;> omega
    · obtain rfl : t = 8 := by omega
      have hs := at_bytes hown 64 64 (by rw [List.length_append, byL_length]; omega) (by omega)
      rw [List.take_left' (byL_length _ 8)] at hs
      have R : Hid (SK .u8 wr (.slice (some ⟨w.heap.size, 0, none⟩) 64 64) (byL s.list 8)) := hs
      clear hown hbel hs
      go_wp2_with fail
      go_ret
      exact ⟨_, rfl, R.out, Hb.out⟩
end Go.Proofs.YthmpbblljbihgaaDoor.Br
