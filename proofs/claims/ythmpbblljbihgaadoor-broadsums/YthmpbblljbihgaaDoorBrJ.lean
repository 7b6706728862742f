/-
  The contracts of the broad's fresh, Sum, New, Write, Len and of a hash's Sum. Conditions: as each theorem says.
-/
import Derived.Test.YthmpbblljbihgaaDoorBrI
namespace Go.Proofs.YthmpbblljbihgaaDoor.Br
open Go.RowKit
set_option linter.unusedVariables false
set_option linter.unusedSimpArgs false

/-- A plain Hash. -/
def hz : List Value := uv [0, 0, 0, 0, 0, 0, 0, 0] ++ (bv8 (List.replicate 128 0) ++ [.int .i64 0, .bool false])
theorem zero_hash (w : World) : (zeroValue 44).run Tryd.prog w = .ok (.agg hz.toArray) w := (zero_of_info (by kernel_rfl : (Tryd.prog.info? 44).map (fun i => (i.zero, i.size)) = some (some (.agg hz.toArray), 138))).1 w
/-- A fresh one. -/
def hf : List Value := hc h0 (List.replicate 128 0) 0
set_option maxRecDepth 100000 in
set_option maxHeartbeats 1000000 in
theorem fresh_any (w : World) (hg : Gl6 w) :
    Calls Tryd.prog 18 #[] w fun e w' => e = .returned (.agg hf.toArray) ∧ Below w.heap.size w w' := by
  have hzv := zero_hash
  have hrg : Hid (∀ o, (w.alloc o).rangeAt 0 0 (uv h0.list)) := by
    intro o j v hj
    have hj' : j < 8 := by have := (List.getElem?_eq_some_iff.1 hj).1; rwa [uv_length, S8.list_length] at this
    rw [Nat.zero_add, (hg.grown ((Below.refl _ _).alloc (Nat.le_refl _) o)).at0 j hj', ← hj, uv_get _ _ hj']
  have hi : Hid ((Tryd.prog.info? 39).map (·.size) = some (uv h0.list).length) := by unfold Hid; kernel_rfl
  have hb1 : ∀ w, (Instr.build 41 #[(0, .agg (uv h0.list).toArray)]).run Tryd.prog w = .ok (.agg (uv h0.list).toArray) w := by intro w; kernel_rfl
  have hb2 : ∀ w, (Instr.build 44 #[(0, .agg (uv h0.list).toArray), (3, .bool true)]).run Tryd.prog w = .ok (.agg hf.toArray) w := by intro w; kernel_rfl
  have hi2 : Hid ((Tryd.prog.info? 44).map (·.size) = some hf.toArray.size) := by unfold Hid; kernel_rfl
  have hi3 : Hid ((Tryd.prog.info? 44).map (·.size) = some hf.length) := hi2
  have h1 : Hid (hf.toArray.all (·.oneCell') = true) := by unfold Hid; kernel_rfl
  have ht : Hid ((w.alloc (.cells hz.toArray 44)).there w.heap.size 0 hf.toArray.size) := by
    intro j hj
    have hA : At 44 (w.alloc (.cells hz.toArray 44)) w.heap.size hz := by
      unfold At; show (w.heap.push _)[w.heap.size]? = _; simp
    have hl : hz.length = 138 := rfl
    have hj' : j < 138 := hj
    rw [Nat.zero_add, hA.cell j, List.getElem?_eq_getElem (by omega)]
    exact ⟨rfl, hA.free j⟩
  obtain ⟨Z, hZ⟩ : ∃ Z, hz = Z := ⟨_, rfl⟩
  obtain ⟨U, hU⟩ : ∃ U, uv h0.list = U := ⟨_, rfl⟩
  obtain ⟨F, hF⟩ : ∃ F, hf = F := ⟨_, rfl⟩
  rw [hZ] at hzv ht
  rw [hU] at hrg hi hb1 hb2
  rw [hF] at hb2 hi2 hi3 h1 ht ⊢
  clear hZ hU hF hg
  go_enter Tryd.func18, Tryd.ntmps18
  have hb1' := hb1
  have hb2' := hb2
  have HB1 : Hid (∀ w, (Instr.build 41 #[(0, .agg U.toArray)]).run Tryd.prog w = .ok (.agg U.toArray) w) := hb1'
  have HB2 : Hid (∀ w, (Instr.build 44 #[(0, .agg U.toArray), (3, .bool true)]).run Tryd.prog w = .ok (.agg F.toArray) w) := hb2'
  clear hb1 hb2 hb1' hb2'
  go_wp2_with (first
    | refine wpList_build rfl 41 _ rfl _ #[(0, .agg U.toArray)] (by simp [Act.eval, Act.put]) HB1.out ?_
    | refine wpList_build rfl 44 _ rfl _ #[(0, .agg U.toArray), (3, .bool true)] (by simp [Act.eval, Act.put]) HB2.out ?_
    | refine wpList_load_mid rfl 39 _ rfl 0 0 rfl U _ (hrg.out _) Tryd.underlying39 rfl hi.out ?_
    | refine wpList_store_mid rfl 44 _ _ rfl w.heap.size 0 F.toArray rfl rfl ht.out hi2.out h1.out ?_)
  refine body_cut' (fun W => W.rangeAt w.heap.size 0 F ∧ Below w.heap.size w W) ⟨World.rangeAt_setCells_same _ _ _ _ ht.out, below_setCells ((Below.refl _ _).alloc (Nat.le_refl _) _) (Nat.le_refl _) _ _⟩ ?_
  rintro W ⟨hc', hb'⟩
  exact bodyPost_ret (v := .agg F.toArray) (results_mid (Tryd.results18) _ W w.heap.size 0 F _ rfl hc' Tryd.underlying44 rfl hi3.out) rfl ⟨rfl, hb'⟩
end Go.Proofs.YthmpbblljbihgaaDoor.Br
