/-
  The contract of the field's Of: bytes as an element, or none; it changes no memory that was there. Conditions: as each theorem says.
-/
import Derived.Test.YtnebpleplogfeaaDoorFM
namespace Go.Proofs.YtnebpleplogfeaaDoor
open Go.RowKit
set_option linter.unusedVariables false
set_option linter.unusedSimpArgs false

theorem low_ld (n : Nat) (h : n < P25) : (ld n).Low := by
  unfold P25 at h
  unfold ld L5.Low; dsimp only; omega
theorem of_short (a : Option Addr) (n cap : Nat) (hn : n ≠ 32) (w : World) : Calls Tryd.prog 31 #[.slice a n cap] w fun e w' => e = .returned (.tuple #[.agg #[.int .u64 0, .int .u64 0, .int .u64 0, .int .u64 0, .int .u64 0], .bool false]) ∧ Below w.heap.size w w' := by
  have h : ¬ (n : Int) = 32 := by omega
  go_enter Tryd.func31, Tryd.ntmps31
  go_wp2_with fail
  refine bodyPost_ret (v := .tuple #[.agg #[.int .u64 0, .int .u64 0, .int .u64 0, .int .u64 0, .int .u64 0], .bool false]) (by simp [results, Tryd.results31, go_sem]) rfl ⟨rfl, ?_⟩
  (repeat (first | exact Below.refl _ _ | refine Below.alloc ?_ (by simp <;> omega) _))
attribute [local go_sem] ext_cell ext_frozen
set_option maxRecDepth 100000 in
set_option maxHeartbeats 4000000 in
theorem of_yes (bs : Nat → Int) (hbs : ∀ j, 0 ≤ bs j ∧ bs j ≤ 255) (blk off cap : Nat) (w : World) (hblk : blk < w.heap.size) (hc : ∀ j, j < 32 → w.cell? ⟨blk, off + j, none⟩ = some (.int .u8 (bs j))) (h : vb bs 32 < P25) :
    Calls Tryd.prog 31 #[.slice (some ⟨blk, off, none⟩) 32 cap] w fun e w' => e = .returned (.tuple #[.agg #[.int .u64 ((ld (vb bs 32)).l0), .int .u64 ((ld (vb bs 32)).l1), .int .u64 ((ld (vb bs 32)).l2), .int .u64 ((ld (vb bs 32)).l3), .int .u64 ((ld (vb bs 32)).l4)], .bool true]) ∧ Below w.heap.size w w' := by
  have hN := vb32_lt bs hbs
  have kl : Hid (∀ W, Below w.heap.size w W → Calls Tryd.prog 57 #[.slice (some ⟨blk, off, none⟩) 32 cap] W fun e w' => e = .returned (.agg #[.int .u64 ((ld (vb bs 32)).l0), .int .u64 ((ld (vb bs 32)).l1), .int .u64 ((ld (vb bs 32)).l2), .int .u64 ((ld (vb bs 32)).l3), .int .u64 ((ld (vb bs 32)).l4)]) ∧ Below W.heap.size W w') := fun W hW => load_any bs hbs blk off cap W (Nat.lt_of_lt_of_le hblk hW.size) (fun j hj => (hW.cell (p := ⟨blk, off + j, none⟩) hblk).trans (hc j hj))
  obtain ⟨z, hz, ez, kz⟩ := reduced_fe (ld (vb bs 32)) (ld_tame _ hN)
  have ez' := ez.out
  rw [ld_num] at ez'
  have e : z = ld (vb bs 32) := hz.eq (low_ld _ h) (by rw [ez', ld_num, ← Int.natCast_emod, Nat.mod_eq_of_lt h])
  subst e
  have HE := neq5 (ld (vb bs 32)).l0 (ld (vb bs 32)).l1 (ld (vb bs 32)).l2 (ld (vb bs 32)).l3 (ld (vb bs 32)).l4
  obtain ⟨⟨a0, a1, a2, a3, a4⟩, hA⟩ : ∃ a, ld (vb bs 32) = a := ⟨_, rfl⟩
  rw [hA] at kl kz HE ⊢
  dsimp only at kl kz HE ⊢
  have ka : Hid (∀ W, Below w.heap.size w W → Calls Tryd.prog 57 #[.slice (some ⟨blk, off, none⟩) 32 cap] W fun e w' => e = .returned (.agg #[.int .u64 a0, .int .u64 a1, .int .u64 a2, .int .u64 a3, .int .u64 a4]) ∧ Below W.heap.size W w') := kl.out
  have Qz : Hid (∀ w : World, Calls Tryd.prog 54 #[.agg #[.int .u64 a0, .int .u64 a1, .int .u64 a2, .int .u64 a3, .int .u64 a4]] w fun e w' => e = .returned (.agg #[.int .u64 a0, .int .u64 a1, .int .u64 a2, .int .u64 a3, .int .u64 a4]) ∧ Below w.heap.size w w') := kz
  clear kl kz hz ez ez' hA hN hbs hc h hblk
  go_enter Tryd.func31, Tryd.ntmps31
  go_wp2_with fail
  refine calls_at (fun V => Bl5 V w.heap.size 0 0 0 0 0 ∧ Below w.heap.size w V) ⟨?_, ?_⟩ ?_
  · (repeat (first | refine Bl5.drew ?_ | refine Bl5.drewN ?_ _ | (refine Bl5.new _ _ _ _ _ _ _ _ ?_; simp; done) | refine Bl5.alloc ?_ _))
  · (repeat (first | exact Below.refl _ _ | refine Below.drew ?_ | refine below_drewN ?_ _ | refine Below.alloc ?_ (by simp <;> omega) _ | refine Below.setCell ?_ (by simp <;> omega) _))
  rintro v1 ⟨k0, k1⟩
  have R_1 : Hid (Bl5 v1 w.heap.size 0 0 0 0 0) := k0
  have G_1 : Hid (Below w.heap.size w v1) := k1
  clear k0 k1
  refine (ka.out _ G_1.out).mono ?_
  rintro e v2 ⟨rfl, g⟩
  have R_2 : Hid (Bl5 v2 w.heap.size 0 0 0 0 0) := R_1.out.below g
  have G_2 : Hid (Below w.heap.size w v2) := G_1.out.trans (g.mono G_1.out.size)
  clear R_1 G_1 g
  go_wp2_with fail
  have szA : w.heap.size ≤ v2.heap.size := G_2.out.size
  have nbAR : ¬ (v2.heap.size = w.heap.size) := by have := R_2.out.lt; omega
  refine wp_cut (fun V => Bl5 V w.heap.size 0 0 0 0 0 ∧ Bl5 V v2.heap.size a0 a1 a2 a3 a4 ∧ Below w.heap.size w V) ⟨R_2.out.alloc _, Bl5.new v2 _ _ _ _ _ _ _ rfl, G_2.out.alloc G_2.out.size _⟩ ?_
  rintro v3 ⟨k0, k1, k2⟩
  have R_3 : Hid (Bl5 v3 w.heap.size 0 0 0 0 0) := k0
  have A_3 : Hid (Bl5 v3 v2.heap.size a0 a1 a2 a3 a4) := k1
  have G_3 : Hid (Below w.heap.size w v3) := k2
  clear k0 k1 k2 R_2 G_2
  obtain ⟨cal, ca0, ca1, ca2, ca3, ca4, caf⟩ := A_3.out
  obtain ⟨crl, cr0, cr1, cr2, cr3, cr4, crf⟩ := R_3.out
  refine wp_region_ext (by kernel_rfl) (by kernel_rfl) ?_
  repeat (go_big_quiet_step ((first | with_reducible exact calls_ext (Qz.out _) | fail)))
  refine wpQuiet_nil ?_
  intro W1 hw
  obtain ⟨m, rfl⟩ := hw
  have g := ext_below v3 m
  obtain ⟨v4, hW⟩ : ∃ V, ext v3 m = V := ⟨_, rfl⟩
  rw [hW] at g ⊢
  clear hW
  have R_4 : Hid (Bl5 v4 w.heap.size 0 0 0 0 0) := R_3.out.below g
  have A_4 : Hid (Bl5 v4 v2.heap.size a0 a1 a2 a3 a4) := A_3.out.below g
  have G_4 : Hid (Below w.heap.size w v4) := G_3.out.trans (g.mono G_3.out.size)
  clear cal ca0 ca1 ca2 ca3 ca4 caf crl cr0 cr1 cr2 cr3 cr4 crf
  clear R_3 A_3 G_3 g
  obtain ⟨cal, ca0, ca1, ca2, ca3, ca4, caf⟩ := A_4.out
  obtain ⟨crl, cr0, cr1, cr2, cr3, cr4, crf⟩ := R_4.out
  go_wp2_with fail
  refine body_cut (fun W => Bl5 W w.heap.size a0 a1 a2 a3 a4 ∧ Below w.heap.size w W) ⟨R_4.out.set a0 a1 a2 a3 a4, ?_⟩ ?_
  · iterate 5 (refine Below.setCell ?_ (by simp <;> omega) _)
    exact G_4.out
  · rintro W ⟨⟨rl, r0, r1, r2, r3, r4, rf⟩, hb⟩
    exact bodyPost_ret (v := .tuple #[.agg #[.int .u64 a0, .int .u64 a1, .int .u64 a2, .int .u64 a3, .int .u64 a4], .bool true]) (by simp [results, Tryd.results31, go_sem, r0, r1, r2, r3, r4]) rfl ⟨rfl, hb⟩

set_option maxRecDepth 100000 in
set_option maxHeartbeats 4000000 in
theorem of_no (bs : Nat → Int) (hbs : ∀ j, 0 ≤ bs j ∧ bs j ≤ 255) (blk off cap : Nat) (w : World) (hblk : blk < w.heap.size) (hc : ∀ j, j < 32 → w.cell? ⟨blk, off + j, none⟩ = some (.int .u8 (bs j))) (h : ¬ vb bs 32 < P25) :
    Calls Tryd.prog 31 #[.slice (some ⟨blk, off, none⟩) 32 cap] w fun e w' => e = .returned (.tuple #[.agg #[.int .u64 0, .int .u64 0, .int .u64 0, .int .u64 0, .int .u64 0], .bool false]) ∧ Below w.heap.size w w' := by
  have hN := vb32_lt bs hbs
  have kl : Hid (∀ W, Below w.heap.size w W → Calls Tryd.prog 57 #[.slice (some ⟨blk, off, none⟩) 32 cap] W fun e w' => e = .returned (.agg #[.int .u64 ((ld (vb bs 32)).l0), .int .u64 ((ld (vb bs 32)).l1), .int .u64 ((ld (vb bs 32)).l2), .int .u64 ((ld (vb bs 32)).l3), .int .u64 ((ld (vb bs 32)).l4)]) ∧ Below W.heap.size W w') := fun W hW => load_any bs hbs blk off cap W (Nat.lt_of_lt_of_le hblk hW.size) (fun j hj => (hW.cell (p := ⟨blk, off + j, none⟩) hblk).trans (hc j hj))
  obtain ⟨z, hz, ez, kz⟩ := reduced_fe (ld (vb bs 32)) (ld_tame _ hN)
  have ez' := ez.out
  rw [ld_num] at ez'
  have HE : ∀ w : World, (binOp .neq 24 (.agg #[.int .u64 ((ld (vb bs 32)).l0), .int .u64 ((ld (vb bs 32)).l1), .int .u64 ((ld (vb bs 32)).l2), .int .u64 ((ld (vb bs 32)).l3), .int .u64 ((ld (vb bs 32)).l4)]) (.agg #[.int .u64 z.l0, .int .u64 z.l1, .int .u64 z.l2, .int .u64 z.l3, .int .u64 z.l4])).run Tryd.prog w = .ok (.bool true) w := by
    intro w
    refine neq5_no _ _ _ _ _ _ _ _ _ _ ?_ w
    rintro ⟨h0, h1, h2, h3, h4⟩
    have e : z.num = (ld (vb bs 32)).num := by unfold L5.num; rw [h0, h1, h2, h3, h4]
    rw [ez', ld_num, ← Int.natCast_emod] at e
    have h5 : vb bs 32 % P25 < P25 := Nat.mod_lt _ P25_pos
    omega
  obtain ⟨⟨a0, a1, a2, a3, a4⟩, hA⟩ : ∃ a, ld (vb bs 32) = a := ⟨_, rfl⟩
  obtain ⟨z0, z1, z2, z3, z4⟩ := z
  rw [hA] at kl kz HE
  dsimp only at kl kz HE ⊢
  have ka : Hid (∀ W, Below w.heap.size w W → Calls Tryd.prog 57 #[.slice (some ⟨blk, off, none⟩) 32 cap] W fun e w' => e = .returned (.agg #[.int .u64 a0, .int .u64 a1, .int .u64 a2, .int .u64 a3, .int .u64 a4]) ∧ Below W.heap.size W w') := kl.out
  have Qz : Hid (∀ w : World, Calls Tryd.prog 54 #[.agg #[.int .u64 a0, .int .u64 a1, .int .u64 a2, .int .u64 a3, .int .u64 a4]] w fun e w' => e = .returned (.agg #[.int .u64 z0, .int .u64 z1, .int .u64 z2, .int .u64 z3, .int .u64 z4]) ∧ Below w.heap.size w w') := kz
  clear kl kz hz ez ez' hA hN hbs hc h hblk
  go_enter Tryd.func31, Tryd.ntmps31
  go_wp2_with fail
  refine calls_at (fun V => Bl5 V w.heap.size 0 0 0 0 0 ∧ Below w.heap.size w V) ⟨?_, ?_⟩ ?_
  · (repeat (first | refine Bl5.drew ?_ | refine Bl5.drewN ?_ _ | (refine Bl5.new _ _ _ _ _ _ _ _ ?_; simp; done) | refine Bl5.alloc ?_ _))
  · (repeat (first | exact Below.refl _ _ | refine Below.drew ?_ | refine below_drewN ?_ _ | refine Below.alloc ?_ (by simp <;> omega) _ | refine Below.setCell ?_ (by simp <;> omega) _))
  rintro v1 ⟨k0, k1⟩
  have R_1 : Hid (Bl5 v1 w.heap.size 0 0 0 0 0) := k0
  have G_1 : Hid (Below w.heap.size w v1) := k1
  clear k0 k1
  refine (ka.out _ G_1.out).mono ?_
  rintro e v2 ⟨rfl, g⟩
  have R_2 : Hid (Bl5 v2 w.heap.size 0 0 0 0 0) := R_1.out.below g
  have G_2 : Hid (Below w.heap.size w v2) := G_1.out.trans (g.mono G_1.out.size)
  clear R_1 G_1 g
  go_wp2_with fail
  have szA : w.heap.size ≤ v2.heap.size := G_2.out.size
  have nbAR : ¬ (v2.heap.size = w.heap.size) := by have := R_2.out.lt; omega
  refine wp_cut (fun V => Bl5 V w.heap.size 0 0 0 0 0 ∧ Bl5 V v2.heap.size a0 a1 a2 a3 a4 ∧ Below w.heap.size w V) ⟨R_2.out.alloc _, Bl5.new v2 _ _ _ _ _ _ _ rfl, G_2.out.alloc G_2.out.size _⟩ ?_
  rintro v3 ⟨k0, k1, k2⟩
  have R_3 : Hid (Bl5 v3 w.heap.size 0 0 0 0 0) := k0
  have A_3 : Hid (Bl5 v3 v2.heap.size a0 a1 a2 a3 a4) := k1
  have G_3 : Hid (Below w.heap.size w v3) := k2
  clear k0 k1 k2 R_2 G_2
  obtain ⟨cal, ca0, ca1, ca2, ca3, ca4, caf⟩ := A_3.out
  obtain ⟨crl, cr0, cr1, cr2, cr3, cr4, crf⟩ := R_3.out
  refine wp_region_ext (by kernel_rfl) (by kernel_rfl) ?_
  repeat (go_big_quiet_step ((first | with_reducible exact calls_ext (Qz.out _) | fail)))
  refine wpQuiet_nil ?_
  intro W1 hw
  obtain ⟨m, rfl⟩ := hw
  have g := ext_below v3 m
  obtain ⟨v4, hW⟩ : ∃ V, ext v3 m = V := ⟨_, rfl⟩
  rw [hW] at g ⊢
  clear hW
  have R_4 : Hid (Bl5 v4 w.heap.size 0 0 0 0 0) := R_3.out.below g
  have A_4 : Hid (Bl5 v4 v2.heap.size a0 a1 a2 a3 a4) := A_3.out.below g
  have G_4 : Hid (Below w.heap.size w v4) := G_3.out.trans (g.mono G_3.out.size)
  clear cal ca0 ca1 ca2 ca3 ca4 caf crl cr0 cr1 cr2 cr3 cr4 crf
  clear R_3 A_3 G_3 g
  obtain ⟨cal, ca0, ca1, ca2, ca3, ca4, caf⟩ := A_4.out
  obtain ⟨crl, cr0, cr1, cr2, cr3, cr4, crf⟩ := R_4.out
  go_wp2_with fail
  refine body_cut (fun W => Bl5 W w.heap.size 0 0 0 0 0 ∧ Below w.heap.size w W) ⟨R_4.out.set 0 0 0 0 0, ?_⟩ ?_
  · iterate 5 (refine Below.setCell ?_ (by simp <;> omega) _)
    exact G_4.out
  · rintro W ⟨⟨rl, r0, r1, r2, r3, r4, rf⟩, hb⟩
    exact bodyPost_ret (v := .tuple #[.agg #[.int .u64 0, .int .u64 0, .int .u64 0, .int .u64 0, .int .u64 0], .bool false]) (by simp [results, Tryd.results31, go_sem, r0, r1, r2, r3, r4]) rfl ⟨rfl, hb⟩


end Go.Proofs.YtnebpleplogfeaaDoor
