/-
  The contract of the digest's bytes: the words as bytes, the highest first. Conditions: as the theorem says.
-/
import Derived.Test.YteoaiamfpefcbaaDoorDgD
namespace Go.Proofs.YteoaiamfpefcbaaDoor
open Go.RowKit
set_option linter.unusedVariables false
set_option linter.unusedSimpArgs false

/-- The four bytes of each word, the highest first. -/
def by4 (x : Nat) : List Nat := [x / 16777216, x / 65536 % 256, x / 256 % 256, x % 256]
def byL (l : List Nat) : Nat → List Nat
  | 0 => []
  | t + 1 => byL l t ++ by4 (l.getD t 0)
theorem byL_length (l : List Nat) : ∀ t, (byL l t).length = 4 * t
  | 0 => rfl
  | t + 1 => by simp [byL, byL_length l t, by4]; omega
def outB (s : S8) : List Nat := byL s.list 8
theorem outB_length (s : S8) : (outB s).length = 32 := byL_length _ 8

theorem own8_made (w : World) : Own8 w.heap.size (w.alloc (.cells (Array.replicate 32 (.int .u8 0)) 5)) (.slice (some ⟨w.heap.size, 0, none⟩) 0 32) [] := by
  refine ⟨rfl, Or.inr ⟨w.heap.size, 32, Array.replicate 32 (.int .u8 0), rfl, Nat.le_refl _, ?_, by simp, by unfold maxLen; omega, by simp, rfl⟩⟩
  show (w.heap.push _)[w.heap.size]? = _
  simp
set_option maxRecDepth 100000 in
set_option maxHeartbeats 1000000 in
theorem bytes_own (s : S8) (hs : s.ok) (w : World) (T : TypeId) (b : Nat) (R : List Value) (hA : At T w b (uv s.list ++ R)) :
    Calls Tryd.prog 22 #[.pointer (some ⟨b, 0, none⟩)] w fun e w' => ∃ v, e = .returned v ∧ Own8 w.heap.size w' v (outB s) ∧ Below w.heap.size w w' := by
  have hlt := hA.lt
  have HA : Hid (At T w b (uv s.list ++ R)) := hA
  have hmk : ∀ w : World, (Instr.makeSlice 22 (.int .i64 0) (.int .i64 32)).run Tryd.prog w = .ok (.slice (some ⟨w.heap.size, 0, none⟩) 0 32) (w.alloc (.cells (Array.replicate 32 (.int .u8 0)) 5)) := by
    intro w; kernel_rfl
  have hrg : ∀ o, Hid ((w.alloc o).rangeAt b 0 (uv s.list)) := by
    intro o j v hj
    have hj' : j < 8 := by have := (List.getElem?_eq_some_iff.1 hj).1; rwa [uv_length, S8.list_length] at this
    rw [Nat.zero_add, (hA.below ((Below.refl _ _).alloc (Nat.le_refl _) o)).cell j, List.getElem?_append_left (by rw [uv_length, S8.list_length]; exact hj')]
    exact hj
  have hi : Hid ((Tryd.prog.info? 40).map (·.size) = some (uv s.list).length) := by unfold Hid; rw [uv_length, S8.list_length]; kernel_rfl
  have HS : Hid s.ok := hs
  clear hA hs
  go_enter Tryd.func22, Tryd.ntmps22
  go_wp2_with (refine wpList_load_mid rfl 40 _ rfl b 0 rfl (uv s.list) _ (hrg _).out Tryd.underlying40 rfl hi.out ?_)
  go_loopw [3, 11] (fun v y W => ∃ t : Nat, t ≤ 8 ∧ y = .int .i64 t ∧ Own8 w.heap.size W v (byL s.list t) ∧ Below w.heap.size w W) (fun _ y _ => 8 - (intOf y).toNat)
  case atStart =>
    refine ⟨0, by omega, rfl, ?_, (Below.refl _ _).alloc (Nat.le_refl _) _⟩
    exact own8_made w
  case round =>
    obtain ⟨t, ht, rfl, hown, hbel⟩ := hrel
    have Ho : Hid (Own8 w.heap.size wr u3 (byL s.list t)) := hown
    have Hb : Hid (Below w.heap.size w wr) := hbel
    have hsz := hbel.size
    by_cases hlt' : t < 8
    · have hlt2 : (t : Int) < 8 := by omega
      have hix := idx8 (uv s.list) (by rw [uv_length]; rfl) t hlt' (.int .u32 (s.list.getD t 0 : Int)) (uv_get _ _ (by rw [S8.list_length]; exact hlt'))
      have hx1 := S8.ok_get HS.out t
      obtain ⟨x, hx⟩ : ∃ x, Hid (s.list.getD t 0 = x) := ⟨_, rfl⟩
      rw [hx.out] at hix hx1
      have hx2 : (x : Int) < 4294967296 := by omega
      have hln : Hid ((byL s.list t).length + 4 ≤ 1000000) := by unfold Hid; rw [byL_length]; omega
      have hz : Hid (∀ z0 z1 z2 z3 : Int, z0 = (x : Int) / 16777216 → z1 = (x : Int) / 65536 % 256 → z2 = (x : Int) / 256 % 256 → z3 = (x : Int) % 256 → #[Value.int .u8 z0, .int .u8 z1, .int .u8 z2, .int .u8 z3] = (bv8 (by4 x)).toArray) := by
        intro z0 z1 z2 z3 h0 h1 h2 h3
        subst h0 h1 h2 h3
        rfl
      clear hown hbel
      go_wp2_with (at_builtin; refine wpList_app8s rfl _ _ rfl w.heap.size u3 (byL s.list t) (by4 x) 4 _ (hz.out _ _ _ _ (by omega) (by omega) (by omega) (by omega)) rfl rfl Ho.out rfl hln.out hsz ?_; intro v' w1 hown' hb')
      go_roundw
      case rel => exact ⟨t + 1, by omega, by go_num, by rw [byL, hx.out]; exact hown', Hb.out.trans hb'⟩
      case measure => simp [intOf] <;> omega
    · obtain rfl : t = 8 := by omega
      have hs := Ho.out.sk
      obtain ⟨ra, rc, hre⟩ := hs.shape
      subst hre
      clear hown hbel hs
      go_wp2
      go_ret
      exact ⟨_, rfl, Ho.out, Hb.out⟩
theorem bytes_any (s : S8) (hs : s.ok) (w : World) (T : TypeId) (b : Nat) (R : List Value) (hA : At T w b (uv s.list ++ R)) :
    Calls Tryd.prog 22 #[.pointer (some ⟨b, 0, none⟩)] w fun e w' => ∃ v, e = .returned v ∧ SK .u8 w' v (outB s) ∧ Below w.heap.size w w' :=
  (bytes_own s hs w T b R hA).mono fun e w' ⟨v, h1, h2, h3⟩ => ⟨v, h1, h2.sk, h3⟩
end Go.Proofs.YteoaiamfpefcbaaDoor
