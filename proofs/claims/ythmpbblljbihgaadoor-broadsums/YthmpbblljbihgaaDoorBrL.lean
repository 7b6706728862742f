/-
  The contracts of a hash's Write, Len and Sum, of one that New gave and of none. Conditions: as each theorem says.
-/
import Derived.Test.YthmpbblljbihgaaDoorBrK
namespace Go.Proofs.YthmpbblljbihgaaDoor.Br
open Go.RowKit
set_option linter.unusedVariables false
set_option linter.unusedSimpArgs false

theorem write_any (m p : List Nat) (hm : Bb m) (hp : Bb p) (hlen : m.length + p.length ≤ 1000000000) (v : Value) (w : World) (hg : Gl6 w) (b : Nat) (hb : 1 < b) (hH : HH w b m) (hs : SK .u8 w v p) (hv : Off b v) :
    Calls Tryd.prog 15 #[.pointer (some ⟨b, 0, none⟩), v] w fun e w' => e = .returned (.tuple #[]) ∧ HH w' b (m ++ p) ∧ Oth b w w' := by
  have kL : Hid (Calls Tryd.prog 32 #[.pointer (some ⟨b, 0, none⟩)] w fun e w' => e = .returned (.bool true) ∧ w' = w) := lives_any w b m hH
  have kA : Hid (Calls Tryd.prog 19 #[.pointer (some ⟨b, 0, none⟩), v] w fun e w' => e = .returned (.tuple #[]) ∧ HH w' b (m ++ p) ∧ Oth b w w') := add_any m p hm hp hlen v w hg b hb hH hs hv
  obtain ⟨a, cap, e⟩ := hs.shape
  subst e
  clear hm hp hg hb hH hs hv
  go_enter Tryd.func15, Tryd.ntmps15
  go_wp2_with fail
  refine kL.out.mono ?_
  rintro e w1 ⟨rfl, hw1⟩
  rw [hw1]
  clear hw1 w1 kL
  go_wp2_with fail
  refine kA.out.mono ?_
  rintro e w1 ⟨rfl, hH1, hO1⟩
  have HH1 : Hid (HH w1 b (m ++ p)) := hH1
  have HO1 : Hid (Oth b w w1) := hO1
  clear hH1 hO1 kA
  go_wp2_with fail
  go_end0
  exact ⟨rfl, HH1.out, HO1.out⟩
theorem write_nil (v : Value) (w : World) (p : List Nat) (hs : SK .u8 w v p) :
    Calls Tryd.prog 15 #[.pointer none, v] w fun e w' => e = .returned (.tuple #[]) ∧ w' = w := by
  have kL : Hid (Calls Tryd.prog 32 #[.pointer none] w fun e w' => e = .returned (.bool false) ∧ w' = w) := lives_nil w
  obtain ⟨a, cap, e⟩ := hs.shape
  subst e
  clear hs
  go_enter Tryd.func15, Tryd.ntmps15
  go_wp2_with fail
  refine kL.out.mono ?_
  rintro e w1 ⟨rfl, hw1⟩
  rw [hw1]
  clear hw1 w1 kL
  go_wp2_with fail
  go_end0
  exact ⟨rfl, rfl⟩
theorem len_any (m : List Nat) (w : World) (b : Nat) (hH : HH w b m) :
    Calls Tryd.prog 17 #[.pointer (some ⟨b, 0, none⟩)] w fun e w' => e = .returned (.int .i64 (m.length : Int)) ∧ w' = w := by
  have kL : Hid (Calls Tryd.prog 32 #[.pointer (some ⟨b, 0, none⟩)] w fun e w' => e = .returned (.bool true) ∧ w' = w) := lives_any w b m hH
  obtain ⟨r, hr, -, hA⟩ := hH
  have c72 := hA.cell 136
  rw [hc_len _ _ _ hr] at c72
  clear hA
  go_enter Tryd.func17, Tryd.ntmps17
  go_wp2_with fail
  refine kL.out.mono ?_
  rintro e w1 ⟨rfl, hw1⟩
  rw [hw1]
  clear hw1 w1 kL
  go_wp2_with fail
  go_ret
  exact ⟨rfl, rfl⟩
theorem len_nil (w : World) :
    Calls Tryd.prog 17 #[.pointer none] w fun e w' => e = .returned (.int .i64 0) ∧ w' = w := by
  have kL : Hid (Calls Tryd.prog 32 #[.pointer none] w fun e w' => e = .returned (.bool false) ∧ w' = w) := lives_nil w
  go_enter Tryd.func17, Tryd.ntmps17
  go_wp2_with fail
  refine kL.out.mono ?_
  rintro e w1 ⟨rfl, hw1⟩
  rw [hw1]
  clear hw1 w1 kL
  go_wp2_with fail
  go_ret
  exact ⟨rfl, rfl⟩
theorem hsum_nil (w : World) :
    Calls Tryd.prog 16 #[.pointer none] w fun e w' => e = .returned (.slice none 0 0) ∧ w' = w := by
  have kL : Hid (Calls Tryd.prog 32 #[.pointer none] w fun e w' => e = .returned (.bool false) ∧ w' = w) := lives_nil w
  go_enter Tryd.func16, Tryd.ntmps16
  go_wp2_with fail
  refine kL.out.mono ?_
  rintro e w1 ⟨rfl, hw1⟩
  rw [hw1]
  clear hw1 w1 kL
  go_wp2_with fail
  go_ret
  exact ⟨rfl, rfl⟩
theorem hc_one (s : S8) (r : List Nat) (n : Nat) : (hc s r n).toArray.all (·.oneCell') = true := by
  refine all_oneCell_toArray (fun v hv => ?_)
  unfold hc at hv
  rcases List.mem_append.1 hv with h | h
  · exact uv_one h
  · rcases List.mem_append.1 h with h | h
    · exact bv8_one h
    · simp at h; rcases h with rfl | rfl <;> rfl
set_option maxRecDepth 100000 in
set_option maxHeartbeats 1000000 in
theorem hsum_any (l : List Nat) (hb : Bb l) (hlen : l.length ≤ 100000000) (w : World) (hg : Gl6 w) (c : Nat) (hc1 : 1 < c) (hH : HH w c l) :
    Calls Tryd.prog 16 #[.pointer (some ⟨c, 0, none⟩)] w fun e w' => ∃ v', e = .returned v' ∧ SK .u8 w' v' (sumB l) ∧ Below w.heap.size w w' := by
  have kL : Hid (Calls Tryd.prog 32 #[.pointer (some ⟨c, 0, none⟩)] w fun e w' => e = .returned (.bool true) ∧ w' = w) := lives_any w c l hH
  have hzv := zero_hash
  obtain ⟨r0, hr0, hw0, hA0⟩ := hH
  have hfr : Hid (∀ (W : World) (b : Nat), At 44 W b (hc (bl l (l.length / 128)) r0 l.length) → HH W b l) := fun W b h => ⟨r0, hr0, hw0, h⟩
  have hrg : Hid (w.rangeAt c 0 (hc (bl l (l.length / 128)) r0 l.length)) := hA0.range
  have hL := hc_length (bl l (l.length / 128)) r0 l.length hr0
  have h1 : Hid ((hc (bl l (l.length / 128)) r0 l.length).toArray.all (·.oneCell') = true) := hc_one _ _ _
  obtain ⟨F, hF⟩ : ∃ F, hc (bl l (l.length / 128)) r0 l.length = F := ⟨_, rfl⟩
  rw [hF] at hfr hrg hL h1
  have hi : Hid ((Tryd.prog.info? 44).map (·.size) = some F.length) := by unfold Hid; rw [hL]; kernel_rfl
  have hi2 : Hid ((Tryd.prog.info? 44).map (·.size) = some F.toArray.size) := hi
  have hl : Hid (F.length = hz.length) := by unfold Hid; rw [hL, hz_length]
  obtain ⟨Z, hZ⟩ : ∃ Z, hz = Z := ⟨_, rfl⟩
  rw [hZ] at hzv hl
  have HG : Hid (Gl6 w) := hg
  have HB : Hid (Bb l) := hb
  clear hZ hF hg hb hA0 hw0 hL
  have HA : Hid (At 44 (w.alloc (.cells Z.toArray 44)) w.heap.size Z) := at_new _ _ _
  have ht : Hid ((w.alloc (.cells Z.toArray 44)).there w.heap.size 0 F.toArray.size) := HA.out.there (by have := hl.out; simp; omega)
  go_enter Tryd.func16, Tryd.ntmps16
  go_wp2_with fail
  refine kL.out.mono ?_
  rintro e w1 ⟨rfl, hw1⟩
  rw [hw1]
  clear hw1 w1 kL
  go_upto_region 4 with (first
    | refine wpList_load_mid rfl 44 _ rfl c 0 rfl F _ hrg.out Tryd.underlying44 rfl hi.out ?_
    | refine wpList_store_mid rfl 44 _ _ rfl w.heap.size 0 F.toArray rfl rfl ht.out hi2.out h1.out ?_)
  refine wp_cut (fun W => HH W w.heap.size l ∧ Below w.heap.size w W) ⟨hfr.out _ _ (HA.out.filled F hl.out), below_setCells ((Below.refl _ _).alloc (Nat.le_refl _) _) (Nat.le_refl _) _ _⟩ ?_
  rintro W1 ⟨hH1, hB1⟩
  have hb1 : Hid (1 < w.heap.size) := HG.out.lt
  obtain ⟨b, hbq⟩ : ∃ b, Hid (w.heap.size = b) := ⟨_, rfl⟩
  have kE : Hid (Calls Tryd.prog 20 #[.pointer (some ⟨w.heap.size, 0, none⟩)] W1 fun e w' => e = .returned (.tuple #[]) ∧ HH w' w.heap.size (pad l) ∧ Oth w.heap.size W1 w') :=
    end_any l HB.out hlen W1 (HG.out.below hB1 HG.out.lt) w.heap.size hb1.out hH1
  have HB2 : Hid (Below w.heap.size w W1) := hB1
  clear hB1 hH1 HA ht hfr
  go_wp2_with fail
  refine kE.out.mono ?_
  rintro e w3 ⟨rfl, hH3, hO3⟩
  have HB3 : Hid (Below w.heap.size w w3) := Oth.bel HB2.out hO3 (Nat.le_refl _)
  obtain ⟨r, hr, -, hA3⟩ := hH3
  have kY : Hid (Calls Tryd.prog 21 #[.pointer (some ⟨w.heap.size, 0, none⟩)] w3 fun e w' => ∃ v, e = .returned v ∧ SK .u8 w' v (sumB l) ∧ Below w3.heap.size w3 w') :=
    bytes_any (bl (pad l) ((pad l).length / 128)) (bl_ok _ _) w3 _ w.heap.size _ hA3
  clear hO3 kE HB2 hA3
  go_wp2_with fail
  refine kY.out.mono ?_
  rintro e w4 ⟨v', rfl, hs4, hB4⟩
  have HS4 : Hid (SK .u8 w4 v' (sumB l)) := hs4
  have HB4 : Hid (Below w.heap.size w w4) := HB3.out.trans (hB4.mono HB3.out.size)
  obtain ⟨a4, c4, e4⟩ := hs4.shape
  subst e4
  clear hs4 hB4
  go_wp2_with fail
  go_ret
  exact ⟨_, rfl, HS4.out, HB4.out⟩
end Go.Proofs.YthmpbblljbihgaaDoor.Br
