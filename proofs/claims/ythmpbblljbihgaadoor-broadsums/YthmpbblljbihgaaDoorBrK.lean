/-
  The contracts of the broad's Sum, New, Write, Len and of a hash's Sum. Conditions: as each theorem says.
-/
import Derived.Test.YthmpbblljbihgaaDoorBrJ
namespace Go.Proofs.YthmpbblljbihgaaDoor.Br
open Go.RowKit
set_option linter.unusedVariables false
set_option linter.unusedSimpArgs false

/-- The sum of bytes. -/
def sumB (m : List Nat) : List Nat := outB (bl (pad m) ((pad m).length / 128))
theorem sumB_length (m : List Nat) : (sumB m).length = 64 := outB_length _
theorem hz_length : hz.length = 138 := by simp [hz, uv_length, bv8_length]
theorem hh_fresh {W : World} {b : Nat} (h : At 44 W b hf) : HH W b [] := ⟨List.replicate 128 0, by simp, fun j hj => by simp at hj, h⟩

set_option maxRecDepth 100000 in
set_option maxHeartbeats 1000000 in
theorem new_any (w : World) (hg : Gl6 w) :
    Calls Tryd.prog 14 #[] w fun e w' => ∃ b, e = .returned (.pointer (some ⟨b, 0, none⟩)) ∧ w.heap.size ≤ b ∧ HH w' b [] ∧ Below w.heap.size w w' := by
  have kF : Hid (Calls Tryd.prog 18 #[] w fun e w' => e = .returned (.agg hf.toArray) ∧ Below w.heap.size w w') := fresh_any w hg
  have hzv := zero_hash
  have hi2 : Hid ((Tryd.prog.info? 44).map (·.size) = some hf.toArray.size) := by unfold Hid; kernel_rfl
  have h1 : Hid (hf.toArray.all (·.oneCell') = true) := by unfold Hid; kernel_rfl
  have hl : Hid (hf.length = hz.length) := rfl
  have hfr : Hid (∀ (W : World) (b : Nat), At 44 W b hf → HH W b []) := fun W b h => hh_fresh h
  obtain ⟨Z, hZ⟩ : ∃ Z, hz = Z := ⟨_, rfl⟩
  obtain ⟨F, hF⟩ : ∃ F, hf = F := ⟨_, rfl⟩
  rw [hZ] at hzv hl
  rw [hF] at kF hi2 h1 hl hfr
  clear hZ hF hg
  go_enter Tryd.func14, Tryd.ntmps14
  go_wp2_with fail
  refine kF.out.mono ?_
  rintro e w1 ⟨rfl, g1⟩
  have HA : Hid (At 44 (w1.alloc (.cells Z.toArray 44)) w1.heap.size Z) := at_new _ _ _
  have ht : Hid ((w1.alloc (.cells Z.toArray 44)).there w1.heap.size 0 F.toArray.size) := HA.out.there (by have := hl.out; simp; omega)
  have G1 : Hid (Below w.heap.size w w1) := g1
  clear g1 kF
  go_wp2_with (refine wpList_store_mid rfl 44 _ _ rfl w1.heap.size 0 F.toArray rfl rfl ht.out hi2.out h1.out ?_)
  go_ret
  refine ⟨_, rfl, G1.out.size, hfr.out _ _ (HA.out.filled F hl.out), below_setCells (G1.out.alloc G1.out.size _) G1.out.size _ _⟩

set_option maxRecDepth 100000 in
set_option maxHeartbeats 1000000 in
theorem sum_any (l : List Nat) (hb : Bb l) (hlen : l.length ≤ 100000000) (v : Value) (w : World) (hg : Gl6 w) (hs : SK .u8 w v l) :
    Calls Tryd.prog 8 #[v] w fun e w' => ∃ v', e = .returned v' ∧ SK .u8 w' v' (sumB l) ∧ Below w.heap.size w w' := by
  have kF : Hid (Calls Tryd.prog 18 #[] w fun e w' => e = .returned (.agg hf.toArray) ∧ Below w.heap.size w w') := fresh_any w hg
  have hzv := zero_hash
  have hi2 : Hid ((Tryd.prog.info? 44).map (·.size) = some hf.toArray.size) := by unfold Hid; kernel_rfl
  have h1 : Hid (hf.toArray.all (·.oneCell') = true) := by unfold Hid; kernel_rfl
  have hl : Hid (hf.length = hz.length) := rfl
  have hfr : Hid (∀ (W : World) (b : Nat), At 44 W b hf → HH W b []) := fun W b h => hh_fresh h
  obtain ⟨Z, hZ⟩ : ∃ Z, hz = Z := ⟨_, rfl⟩
  obtain ⟨F, hF⟩ : ∃ F, hf = F := ⟨_, rfl⟩
  rw [hZ] at hzv hl
  rw [hF] at kF hi2 h1 hl hfr
  obtain ⟨a, cap, e⟩ := hs.shape
  subst e
  have HS : Hid (SK .u8 w (.slice a l.length cap) l) := hs
  have HG : Hid (Gl6 w) := hg
  have HB : Hid (Bb l) := hb
  obtain ⟨P, hP⟩ : ∃ P, Hid (l.length = P) := ⟨_, rfl⟩
  rw [hP.out] at HS hlen ⊢
  clear hZ hF hg hs hb
  go_enter Tryd.func8, Tryd.ntmps8
  go_wp2_with fail
  refine kF.out.mono ?_
  rintro e w1 ⟨rfl, g1⟩
  have HA : Hid (At 44 (w1.alloc (.cells Z.toArray 44)) w1.heap.size Z) := at_new _ _ _
  have ht : Hid ((w1.alloc (.cells Z.toArray 44)).there w1.heap.size 0 F.toArray.size) := HA.out.there (by have := hl.out; simp; omega)
  have G1 : Hid (Below w.heap.size w w1) := g1
  have hsz : Hid (w.heap.size ≤ w1.heap.size) := g1.size
  clear g1 kF
  go_upto_region 2 with (refine wpList_store_mid rfl 44 _ _ rfl w1.heap.size 0 F.toArray rfl rfl ht.out hi2.out h1.out ?_)
  refine wp_cut (fun W => HH W w1.heap.size [] ∧ Below w.heap.size w W) ⟨hfr.out _ _ (HA.out.filled F hl.out), below_setCells (G1.out.alloc hsz.out _) hsz.out _ _⟩ ?_
  rintro W1 ⟨hH1, hB1⟩
  have hb1 : Hid (1 < w1.heap.size) := Nat.lt_of_lt_of_le HG.out.lt hsz.out
  obtain ⟨b, hbq⟩ : ∃ b, w1.heap.size = b := ⟨_, rfl⟩
  rw [hbq] at hH1 hsz hb1 ⊢
  have kA : Hid (Calls Tryd.prog 19 #[.pointer (some ⟨b, 0, none⟩), .slice a P cap] W1 fun e w' => e = .returned (.tuple #[]) ∧ HH w' b ([] ++ l) ∧ Oth b W1 w') :=
    add_any [] l Bb.nil HB.out (by rw [hP.out]; simp; omega) _ W1 (HG.out.below hB1 HG.out.lt) b hb1.out hH1 (HS.out.below hB1) (HS.out.off hsz.out)
  have HB1 : Hid (Below w.heap.size w W1) := hB1
  clear hB1 hH1 HA ht G1 hbq hfr
  go_wp2_with fail
  refine kA.out.mono ?_
  rintro e w2 ⟨rfl, hH2, hO2⟩
  rw [List.nil_append] at hH2
  have HB2 : Hid (Below w.heap.size w w2) := Oth.bel HB1.out hO2 hsz.out
  have kE : Hid (Calls Tryd.prog 20 #[.pointer (some ⟨b, 0, none⟩)] w2 fun e w' => e = .returned (.tuple #[]) ∧ HH w' b (pad l) ∧ Oth b w2 w') :=
    end_any l HB.out (by rw [hP.out]; omega) w2 (HG.out.below HB2.out HG.out.lt) b hb1.out hH2
  clear hH2 hO2 kA HB1
  go_wp2_with fail
  refine kE.out.mono ?_
  rintro e w3 ⟨rfl, hH3, hO3⟩
  have HB3 : Hid (Below w.heap.size w w3) := Oth.bel HB2.out hO3 hsz.out
  obtain ⟨r, hr, -, hA3⟩ := hH3
  have kY : Hid (Calls Tryd.prog 21 #[.pointer (some ⟨b, 0, none⟩)] w3 fun e w' => ∃ v, e = .returned v ∧ SK .u8 w' v (sumB l) ∧ Below w3.heap.size w3 w') :=
    bytes_any (bl (pad l) ((pad l).length / 128)) (bl_ok _ _) w3 _ b _ hA3
  clear hO3 kE HB2 hA3
  go_wp2_with fail
  refine kY.out.mono ?_
  rintro e w4 ⟨v', rfl, hs4, hB4⟩
  have HS4 : Hid (SK .u8 w4 v' (sumB l)) := hs4
  have HB4 : Hid (Below w.heap.size w w4) := HB3.out.trans (hB4.mono HB3.out.size)
  obtain ⟨a4, c4, e4⟩ := hs4.shape
  subst e4
  clear hs4 hB4
  go_wp2_with fail
  go_ret
  exact ⟨_, rfl, HS4.out, HB4.out⟩

theorem lives_any (w : World) (b : Nat) (m : List Nat) (h : HH w b m) :
    Calls Tryd.prog 32 #[.pointer (some ⟨b, 0, none⟩)] w fun e w' => e = .returned (.bool true) ∧ w' = w := by
  obtain ⟨r, hr, -, hA⟩ := h
  have c73 := hA.cell 137
  rw [hc_made _ _ _ hr] at c73
  clear hA
  go_enter Tryd.func32, Tryd.ntmps32
  go_wp2
  go_ret
  exact ⟨rfl, rfl⟩
theorem lives_nil (w : World) :
    Calls Tryd.prog 32 #[.pointer none] w fun e w' => e = .returned (.bool false) ∧ w' = w := by
  go_enter Tryd.func32, Tryd.ntmps32
  go_wp2
  go_ret
  exact ⟨rfl, rfl⟩
end Go.Proofs.YthmpbblljbihgaaDoor.Br
