/-
  The law BroadTables walked: the document's constants are the digits of roots. Conditions: as the theorem says.
-/
import Derived.Test.YthmpbblljbihgaaDoorBtB
import Derived.Test.YthmpbblljbihgaaDoorExt
namespace Go.Proofs.YthmpbblljbihgaaDoor.Br
open Go.RowKit
set_option linter.unusedVariables false
set_option linter.unusedSimpArgs false

theorem tab_all : (List.range 80).all (fun i => rtx (pP i) 3 70 % 18446744073709551616 == kk.getD i 0 && (8 ≤ i || rtx (pP i) 2 70 % 18446744073709551616 == h0.list.getD i 0)) = true := by decide +kernel
theorem tab_k (i : Nat) (h : i < 80) : rtx (pP i) 3 70 % 18446744073709551616 = kk.getD i 0 := by
  have := List.all_eq_true.1 tab_all i (by simpa using h)
  simp at this
  simpa using this.1
theorem tab_h (i : Nat) (h : i < 8) : rtx (pP i) 2 70 % 18446744073709551616 = h0.list.getD i 0 := by
  have := List.all_eq_true.1 tab_all i (by simp; omega)
  simp at this
  have := this.2
  rcases this with h' | h'
  · omega
  · simpa using h'

/-- Block b holds these words. -/
structure Rw (W : World) (b : Nat) (l : List Nat) : Prop where
  lt : b < W.heap.size
  at' : ∀ j, j < l.length → W.cell? ⟨b, j, none⟩ = some (.int .u64 (l.getD j 0 : Int))
theorem Rw.below {W W' : World} {b : Nat} {l : List Nat} (h : Rw W b l) (hb : Below W.heap.size W W') : Rw W' b l :=
  ⟨Nat.lt_of_lt_of_le h.lt hb.size, fun j hj => (hb.cell (p := ⟨b, j, none⟩) h.lt).trans (h.at' j hj)⟩
theorem Rw.new (W : World) (l : List Nat) (t : TypeId) : Rw (W.alloc (.cells (uv l).toArray t)) W.heap.size l := by
  have h := at_new t W (uv l)
  exact ⟨h.lt, fun j hj => by rw [h.cell j, uv_get _ _ hj]⟩

set_option maxRecDepth 100000 in
set_option maxHeartbeats 2000000 in
theorem tables_any (w : World) (hg : Gl6 w) :
    Calls Tryd.prog 4 #[] w fun e w' => e = .returned (.bool true) ∧ Below w.heap.size w w' := by
  have kW : Hid (Calls Tryd.prog 6 #[] w fun e w' => e = .returned (.bool true) ∧ Below w.heap.size w w') := awake6 w hg
  have kC : Hid (∀ w : World, Calls Tryd.prog 10 #[] w fun e w' => e = .returned (.slice (some ⟨w.heap.size, 0, none⟩) 80 80) ∧ w' = w.alloc (.cells (uv kk).toArray 30)) := constants_any
  have kB : Hid (∀ w : World, Calls Tryd.prog 11 #[] w fun e w' => e = .returned (.slice (some ⟨w.heap.size, 0, none⟩) 8 8) ∧ w' = w.alloc (.cells (uv h0.list).toArray 30)) := begin_any
  clear hg
  go_enter Tryd.func4, Tryd.ntmps4
  go_wp2_with fail
  refine kW.out.mono ?_
  rintro e W1 ⟨rfl, hB1⟩
  have B1 : Hid (Below w.heap.size w W1) := hB1
  clear hB1 kW
  go_wp2_with fail
  refine (kC.out _).mono ?_
  rintro e W2 ⟨rfl, hW2⟩
  have K2 : Hid (Rw W2 W1.heap.size kk) := by unfold Hid; rw [hW2]; exact Rw.new W1 kk _
  have B2 : Hid (Below w.heap.size w W2) := by unfold Hid; rw [hW2]; exact B1.out.alloc B1.out.size _
  obtain ⟨bk, hbk⟩ : ∃ b, W1.heap.size = b := ⟨_, rfl⟩
  rw [hbk] at K2 ⊢
  clear hW2 B1 kC hbk
  go_wp2_with fail
  refine (kB.out _).mono ?_
  rintro e W3 ⟨rfl, hW3⟩
  have H3 : Hid (Rw W3 W2.heap.size h0.list) := by unfold Hid; rw [hW3]; exact Rw.new W2 h0.list _
  have K3 : Hid (Rw W3 bk kk) := by unfold Hid; rw [hW3]; exact K2.out.below ((Below.refl _ _).alloc (Nat.le_refl _) _)
  have B3 : Hid (Below w.heap.size w W3) := by unfold Hid; rw [hW3]; exact B2.out.alloc B2.out.size _
  obtain ⟨bh, hbh⟩ : ∃ b, W2.heap.size = b := ⟨_, rfl⟩
  rw [hbh] at H3 ⊢
  clear hW3 B2 K2 kB hbh
  go_wp2_with fail
  go_loopw [19] (fun y W => ∃ i : Nat, i ≤ 80 ∧ y = .int .i64 i ∧ Rw W bk kk ∧ Rw W bh h0.list ∧ Below w.heap.size w W) (fun y _ => 80 - (intOf y).toNat)
  case atStart => exact ⟨0, by omega, rfl, K3.out, H3.out, B3.out⟩
  case round =>
    clear K3 H3 B3
    obtain ⟨i, hi, rfl, hK, hH, hB⟩ := hrel
    have KK : Hid (Rw wr bk kk) := hK
    have HB : Hid (Rw wr bh h0.list) := hH
    have BW : Hid (Below w.heap.size w wr) := hB
    clear hK hH hB
    by_cases hlt : i < 80
    · have hlt' : (i : Int) < 80 := by omega
      have kP : Hid (Calls Tryd.prog 12 #[.int .i64 (i : Int)] wr fun e w' => e = .returned (.int .i64 (pP i : Int)) ∧ w' = wr) := prime_any i hlt wr
      obtain ⟨p, hp⟩ : ∃ p, pP i = p := ⟨_, rfl⟩
      have hp2 := (pP_is i hlt).2.1
      have ck : ∀ n, (ext wr n).cell? ⟨bk, i, none⟩ = some (.int .u64 (kk.getD i 0 : Int)) := fun n => (KK.out.below (ext_below wr n)).at' i (by rw [kk_length]; exact hlt)
      have R3 : Hid (∀ w, Calls Tryd.prog 13 #[.int .i64 (p : Int), .int .i64 3] w fun e w' => e = .returned (.int .u64 ((kk.getD i 0 : Nat) : Int)) ∧ Below w.heap.size w w') := fun w => by
        rw [← tab_k i hlt, ← hp]; exact root3_any (pP i) hp2 w
      rw [hp] at kP
      obtain ⟨c, hc⟩ : ∃ c, kk.getD i 0 = c := ⟨_, rfl⟩
      rw [hc] at ck R3
      clear hc
      by_cases h8 : i < 8
      · have h8' : (i : Int) < 8 := by omega
        have ch : ∀ n, (ext wr n).cell? ⟨bh, i, none⟩ = some (.int .u64 (h0.list.getD i 0 : Int)) := fun n => (HB.out.below (ext_below wr n)).at' i h8
        have R2 : Hid (∀ w, Calls Tryd.prog 13 #[.int .i64 (p : Int), .int .i64 2] w fun e w' => e = .returned (.int .u64 ((h0.list.getD i 0 : Nat) : Int)) ∧ Below w.heap.size w w') := fun w => by
          rw [← tab_h i h8, ← hp]; exact root2_any (pP i) hp2 w
        obtain ⟨d, hd⟩ : ∃ d, h0.list.getD i 0 = d := ⟨_, rfl⟩
        rw [hd] at ch R2
        clear hd hp
        go_wp2_with fail
        refine kP.out.mono ?_
        rintro e V1 ⟨rfl, hV1⟩
        rw [hV1]
        clear hV1 V1 kP
        go_wp2_with fail
        refine wp_region_ext (by kernel_rfl) (by kernel_rfl) ?_
        repeat (go_big_quiet_step ((first
          | with_reducible exact calls_ext (R3.out _)
          | with_reducible exact calls_ext (R2.out _)
          | fail)))
        refine wpQuiet_nil ?_
        intro V hw
        obtain ⟨m, rfl⟩ := hw
        have g := ext_below wr m
        obtain ⟨V2, hV2⟩ : ∃ V, ext wr m = V := ⟨_, rfl⟩
        rw [hV2] at g ⊢
        clear hV2 ck ch R3 R2
        have G : Hid (Below wr.heap.size wr V2) := g
        clear g
        go_wp2_with fail
        go_roundw
        case rel => exact ⟨i + 1, by omega, by go_num, KK.out.below G.out, HB.out.below G.out, BW.out.trans (G.out.mono BW.out.size)⟩
        case measure => simp [intOf] <;> omega
      · have h8' : decide ((i : Int) < 8) = false := by simp; omega
        have h8'' : ¬ (i : Int) < 8 := by omega
        clear hp
        go_wp2_with fail
        refine kP.out.mono ?_
        rintro e V1 ⟨rfl, hV1⟩
        rw [hV1]
        clear hV1 V1 kP
        go_wp2_with fail
        refine wp_region_ext (by kernel_rfl) (by kernel_rfl) ?_
        repeat (go_big_quiet_step ((first
          | with_reducible exact calls_ext (R3.out _)
          | fail)))
        refine wpQuiet_nil ?_
        intro V hw
        obtain ⟨m, rfl⟩ := hw
        have g := ext_below wr m
        obtain ⟨V2, hV2⟩ : ∃ V, ext wr m = V := ⟨_, rfl⟩
        rw [hV2] at g ⊢
        clear hV2 ck R3
        have G : Hid (Below wr.heap.size wr V2) := g
        clear g
        go_wp2_with fail
        go_roundw
        case rel => exact ⟨i + 1, by omega, by go_num, KK.out.below G.out, HB.out.below G.out, BW.out.trans (G.out.mono BW.out.size)⟩
        case measure => simp [intOf] <;> omega
    · obtain rfl : i = 80 := by omega
      go_wp2_with fail
      go_ret
      exact ⟨rfl, BW.out⟩
end Go.Proofs.YthmpbblljbihgaaDoor.Br
