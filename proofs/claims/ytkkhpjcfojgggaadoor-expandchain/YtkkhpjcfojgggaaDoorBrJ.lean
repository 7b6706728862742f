/-
  The contracts of the broad's fresh, Sum, New, Write, Len and of a hash's Sum. Conditions: as each theorem says.
-/
import Derived.Test.YtkkhpjcfojgggaaDoorBrI
namespace Go.Proofs.YtkkhpjcfojgggaaDoor.Br
open Go.RowKit
set_option linter.unusedVariables false
set_option linter.unusedSimpArgs false

/-- A plain Hash. -/
def hz : List Value := uv [0, 0, 0, 0, 0, 0, 0, 0] ++ (bv8 (List.replicate 128 0) ++ [.int .i64 0, .bool false])
theorem zero_hash (w : World) : (zeroValue 51).run Tryd.prog w = .ok (.agg hz.toArray) w := (zero_of_info (by kernel_rfl : (Tryd.prog.info? 51).map (fun i => (i.zero, i.size)) = some (some (.agg hz.toArray), 138))).1 w
/-- A fresh one. -/
def hf : List Value := hc h0 (List.replicate 128 0) 0
set_option maxRecDepth 100000 in
set_option maxHeartbeats 1000000 in
theorem fresh_any (w : World) (hg : Gl6 w) :
    Calls Tryd.prog 19 #[] w fun e w' => e = .returned (.agg hf.toArray) ∧ Below w.heap.size w w' := by
  have hzv := zero_hash
  have hrg : Hid (∀ o, (w.alloc o).rangeAt 0 0 (uv h0.list)) := by
    intro o j v hj
    have hj' : j < 8 := by have := (List.getElem?_eq_some_iff.1 hj).1; rwa [uv_length, S8.list_length] at this
    rw [Nat.zero_add, (hg.grown ((Below.refl _ _).alloc (Nat.le_refl _) o)).at0 j hj', ← hj, uv_get _ _ hj']
  have hi : Hid ((Tryd.prog.info? 46).map (·.size) = some (uv h0.list).length) := by unfold Hid; kernel_rfl
  have hb1 : ∀ w, (Instr.build 48 #[(0, .agg (uv h0.list).toArray)]).run Tryd.prog w = .ok (.agg (uv h0.list).toArray) w := by intro w; kernel_rfl
  have hb2 : ∀ w, (Instr.build 51 #[(0, .agg (uv h0.list).toArray), (3, .bool true)]).run Tryd.prog w = .ok (.agg hf.toArray) w := by intro w; kernel_rfl
  have hi2 : Hid ((Tryd.prog.info? 51).map (·.size) = some hf.toArray.size) := by unfold Hid; kernel_rfl
  have hi3 : Hid ((Tryd.prog.info? 51).map (·.size) = some hf.length) := hi2
  have h1 : Hid (hf.toArray.all (·.oneCell') = true) := by unfold Hid; kernel_rfl
  have ht : Hid ((w.alloc (.cells hz.toArray 51)).there w.heap.size 0 hf.toArray.size) := by
    intro j hj
    have hA : At 51 (w.alloc (.cells hz.toArray 51)) w.heap.size hz := by
      unfold At; show (w.heap.push _)[w.heap.size]? = _; simp
    have hl : hz.length = 138 := rfl
    have hj' : j < 138 := hj
    rw [Nat.zero_add, hA.cell j, List.getElem?_eq_getElem (by omega)]
    exact ⟨rfl, hA.free j⟩
  obtain ⟨Z, hZ⟩ : ∃ Z, hz = Z := ⟨_, rfl⟩
  obtain ⟨U, hU⟩ : ∃ U, uv h0.list = U := ⟨_, rfl⟩
  obtain ⟨F, hF⟩ : ∃ F, hf = F := ⟨_, rfl⟩
  rw [hZ] at hzv ht
  rw [hU] at hrg hi hb1 hb2
  rw [hF] at hb2 hi2 hi3 h1 ht ⊢
  clear hZ hU hF hg
  go_enter Tryd.func19, Tryd.ntmps19
  have hb1' := hb1
  have hb2' := hb2
  have HB1 : Hid (∀ w, (Instr.build 48 #[(0, .agg U.toArray)]).run Tryd.prog w = .ok (.agg U.toArray) w) := hb1'
  have HB2 : Hid (∀ w, (Instr.build 51 #[(0, .agg U.toArray), (3, .bool true)]).run Tryd.prog w = .ok (.agg F.toArray) w) := hb2'
  clear hb1 hb2 hb1' hb2'
  go_wp2_with (first
    | refine wpList_build rfl 48 _ rfl _ #[(0, .agg U.toArray)] (by simp [Act.eval, Act.put]) HB1.out ?_
    | refine wpList_build rfl 51 _ rfl _ #[(0, .agg U.toArray), (3, .bool true)] (by simp [Act.eval, Act.put]) HB2.out ?_
    | refine wpList_load_mid rfl 46 _ rfl 0 0 rfl U _ (hrg.out _) Tryd.underlying46 rfl hi.out ?_
    | refine wpList_store_mid rfl 51 _ _ rfl w.heap.size 0 F.toArray rfl rfl ht.out hi2.out h1.out ?_)
  refine body_cut' (fun W => W.rangeAt w.heap.size 0 F ∧ Below w.heap.size w W) ⟨World.rangeAt_setCells_same _ _ _ _ ht.out, below_setCells ((Below.refl _ _).alloc (Nat.le_refl _) _) (Nat.le_refl _) _ _⟩ ?_
  rintro W ⟨hc', hb'⟩
  exact bodyPost_ret (v := .agg F.toArray) (results_mid (Tryd.results19) _ W w.heap.size 0 F _ rfl hc' Tryd.underlying51 rfl hi3.out) rfl ⟨rfl, hb'⟩
end Go.Proofs.YtkkhpjcfojgggaaDoor.Br

/-
  The contracts of the broad's Sum, New, Write, Len and of a hash's Sum. Conditions: as each theorem says.
-/
namespace Go.Proofs.YtkkhpjcfojgggaaDoor.Br
open Go.RowKit
set_option linter.unusedVariables false
set_option linter.unusedSimpArgs false

/-- The sum of bytes. -/
def sumB (m : List Nat) : List Nat := outB (bl (pad m) ((pad m).length / 128))
theorem sumB_length (m : List Nat) : (sumB m).length = 64 := outB_length _
theorem hz_length : hz.length = 138 := by simp [hz, uv_length, bv8_length]
theorem hh_fresh {W : World} {b : Nat} (h : At 51 W b hf) : HH W b [] := ⟨List.replicate 128 0, by simp, fun j hj => by simp at hj, h⟩

set_option maxRecDepth 100000 in
set_option maxHeartbeats 1000000 in
theorem new_any (w : World) (hg : Gl6 w) :
    Calls Tryd.prog 9 #[] w fun e w' => ∃ b, e = .returned (.pointer (some ⟨b, 0, none⟩)) ∧ w.heap.size ≤ b ∧ HH w' b [] ∧ Below w.heap.size w w' := by
  have kF : Hid (Calls Tryd.prog 19 #[] w fun e w' => e = .returned (.agg hf.toArray) ∧ Below w.heap.size w w') := fresh_any w hg
  have hzv := zero_hash
  have hi2 : Hid ((Tryd.prog.info? 51).map (·.size) = some hf.toArray.size) := by unfold Hid; kernel_rfl
  have h1 : Hid (hf.toArray.all (·.oneCell') = true) := by unfold Hid; kernel_rfl
  have hl : Hid (hf.length = hz.length) := rfl
  have hfr : Hid (∀ (W : World) (b : Nat), At 51 W b hf → HH W b []) := fun W b h => hh_fresh h
  obtain ⟨Z, hZ⟩ : ∃ Z, hz = Z := ⟨_, rfl⟩
  obtain ⟨F, hF⟩ : ∃ F, hf = F := ⟨_, rfl⟩
  rw [hZ] at hzv hl
  rw [hF] at kF hi2 h1 hl hfr
  clear hZ hF hg
  go_enter Tryd.func9, Tryd.ntmps9
  go_wp2_with fail
  refine kF.out.mono ?_
  rintro e w1 ⟨rfl, g1⟩
  have HA : Hid (At 51 (w1.alloc (.cells Z.toArray 51)) w1.heap.size Z) := at_new _ _ _
  have ht : Hid ((w1.alloc (.cells Z.toArray 51)).there w1.heap.size 0 F.toArray.size) := HA.out.there (by have := hl.out; simp; omega)
  have G1 : Hid (Below w.heap.size w w1) := g1
  clear g1 kF
  go_wp2_with (refine wpList_store_mid rfl 51 _ _ rfl w1.heap.size 0 F.toArray rfl rfl ht.out hi2.out h1.out ?_)
  go_ret
  refine ⟨_, rfl, G1.out.size, hfr.out _ _ (HA.out.filled F hl.out), below_setCells (G1.out.alloc G1.out.size _) G1.out.size _ _⟩

set_option maxRecDepth 100000 in
set_option maxHeartbeats 1000000 in
theorem sum_own (l : List Nat) (hb : Bb l) (hlen : l.length ≤ 100000000) (v : Value) (w : World) (hg : Gl6 w) (hs : SK .u8 w v l) :
    Calls Tryd.prog 12 #[v] w fun e w' => ∃ v', e = .returned v' ∧ Own8 w.heap.size w' v' (sumB l) ∧ Below w.heap.size w w' := by
  have kF : Hid (Calls Tryd.prog 19 #[] w fun e w' => e = .returned (.agg hf.toArray) ∧ Below w.heap.size w w') := fresh_any w hg
  have hzv := zero_hash
  have hi2 : Hid ((Tryd.prog.info? 51).map (·.size) = some hf.toArray.size) := by unfold Hid; kernel_rfl
  have h1 : Hid (hf.toArray.all (·.oneCell') = true) := by unfold Hid; kernel_rfl
  have hl : Hid (hf.length = hz.length) := rfl
  have hfr : Hid (∀ (W : World) (b : Nat), At 51 W b hf → HH W b []) := fun W b h => hh_fresh h
  obtain ⟨Z, hZ⟩ : ∃ Z, hz = Z := ⟨_, rfl⟩
  obtain ⟨F, hF⟩ : ∃ F, hf = F := ⟨_, rfl⟩
  rw [hZ] at hzv hl
  rw [hF] at kF hi2 h1 hl hfr
  obtain ⟨a, cap, e⟩ := hs.shape
  subst e
  have HS : Hid (SK .u8 w (.slice a l.length cap) l) := hs
  have HG : Hid (Gl6 w) := hg
  have HB : Hid (Bb l) := hb
  obtain ⟨P, hP⟩ : ∃ P, Hid (l.length = P) := ⟨_, rfl⟩
  rw [hP.out] at HS hlen ⊢
  clear hZ hF hg hs hb
  go_enter Tryd.func12, Tryd.ntmps12
  go_wp2_with fail
  refine kF.out.mono ?_
  rintro e w1 ⟨rfl, g1⟩
  have HA : Hid (At 51 (w1.alloc (.cells Z.toArray 51)) w1.heap.size Z) := at_new _ _ _
  have ht : Hid ((w1.alloc (.cells Z.toArray 51)).there w1.heap.size 0 F.toArray.size) := HA.out.there (by have := hl.out; simp; omega)
  have G1 : Hid (Below w.heap.size w w1) := g1
  have hsz : Hid (w.heap.size ≤ w1.heap.size) := g1.size
  clear g1 kF
  go_upto_region 2 with (refine wpList_store_mid rfl 51 _ _ rfl w1.heap.size 0 F.toArray rfl rfl ht.out hi2.out h1.out ?_)
  refine wp_cut (fun W => HH W w1.heap.size [] ∧ Below w.heap.size w W) ⟨hfr.out _ _ (HA.out.filled F hl.out), below_setCells (G1.out.alloc hsz.out _) hsz.out _ _⟩ ?_
  rintro W1 ⟨hH1, hB1⟩
  have hb1 : Hid (1 < w1.heap.size) := Nat.lt_of_lt_of_le HG.out.lt hsz.out
  obtain ⟨b, hbq⟩ : ∃ b, w1.heap.size = b := ⟨_, rfl⟩
  rw [hbq] at hH1 hsz hb1 ⊢
  have kA : Hid (Calls Tryd.prog 21 #[.pointer (some ⟨b, 0, none⟩), .slice a P cap] W1 fun e w' => e = .returned (.tuple #[]) ∧ HH w' b ([] ++ l) ∧ Oth b W1 w') :=
    add_any [] l Bb.nil HB.out (by rw [hP.out]; simp; omega) _ W1 (HG.out.below hB1 HG.out.lt) b hb1.out hH1 (HS.out.below hB1) (HS.out.off hsz.out)
  have HB1 : Hid (Below w.heap.size w W1) := hB1
  clear hB1 hH1 HA ht G1 hbq hfr
  go_wp2_with fail
  refine kA.out.mono ?_
  rintro e w2 ⟨rfl, hH2, hO2⟩
  rw [List.nil_append] at hH2
  have HB2 : Hid (Below w.heap.size w w2) := Oth.bel HB1.out hO2 hsz.out
  have kE : Hid (Calls Tryd.prog 22 #[.pointer (some ⟨b, 0, none⟩)] w2 fun e w' => e = .returned (.tuple #[]) ∧ HH w' b (pad l) ∧ Oth b w2 w') :=
    end_any l HB.out (by rw [hP.out]; omega) w2 (HG.out.below HB2.out HG.out.lt) b hb1.out hH2
  clear hH2 hO2 kA HB1
  go_wp2_with fail
  refine kE.out.mono ?_
  rintro e w3 ⟨rfl, hH3, hO3⟩
  have HB3 : Hid (Below w.heap.size w w3) := Oth.bel HB2.out hO3 hsz.out
  obtain ⟨r, hr, -, hA3⟩ := hH3
  have kY : Hid (Calls Tryd.prog 23 #[.pointer (some ⟨b, 0, none⟩)] w3 fun e w' => ∃ v, e = .returned v ∧ Own8 w3.heap.size w' v (sumB l) ∧ Below w3.heap.size w3 w') :=
    bytes_own (bl (pad l) ((pad l).length / 128)) (bl_ok _ _) w3 _ b _ hA3
  clear hO3 kE HB2 hA3
  go_wp2_with fail
  refine kY.out.mono ?_
  rintro e w4 ⟨v', rfl, hs4, hB4⟩
  have HS4 : Hid (Own8 w.heap.size w4 v' (sumB l)) := hs4.wider HB3.out.size
  have HB4 : Hid (Below w.heap.size w w4) := HB3.out.trans (hB4.mono HB3.out.size)
  obtain ⟨a4, c4, e4⟩ := hs4.sk.shape
  subst e4
  clear hs4 hB4
  go_wp2_with fail
  go_ret
  exact ⟨_, rfl, HS4.out, HB4.out⟩

theorem sum_any (l : List Nat) (hb : Bb l) (hlen : l.length ≤ 100000000) (v : Value) (w : World) (hg : Gl6 w) (hs : SK .u8 w v l) :
    Calls Tryd.prog 12 #[v] w fun e w' => ∃ v', e = .returned v' ∧ SK .u8 w' v' (sumB l) ∧ Below w.heap.size w w' :=
  (sum_own l hb hlen v w hg hs).mono fun e w' ⟨v, h1, h2, h3⟩ => ⟨v, h1, h2.sk, h3⟩
theorem lives_any (w : World) (b : Nat) (m : List Nat) (h : HH w b m) :
    Calls Tryd.prog 20 #[.pointer (some ⟨b, 0, none⟩)] w fun e w' => e = .returned (.bool true) ∧ w' = w := by
  obtain ⟨r, hr, -, hA⟩ := h
  have c73 := hA.cell 137
  rw [hc_made _ _ _ hr] at c73
  clear hA
  go_enter Tryd.func20, Tryd.ntmps20
  go_wp2
  go_ret
  exact ⟨rfl, rfl⟩
theorem lives_nil (w : World) :
    Calls Tryd.prog 20 #[.pointer none] w fun e w' => e = .returned (.bool false) ∧ w' = w := by
  go_enter Tryd.func20, Tryd.ntmps20
  go_wp2
  go_ret
  exact ⟨rfl, rfl⟩
end Go.Proofs.YtkkhpjcfojgggaaDoor.Br

/-
  The contracts of a hash's Write, Len and Sum, of one that New gave and of none. Conditions: as each theorem says.
-/
namespace Go.Proofs.YtkkhpjcfojgggaaDoor.Br
open Go.RowKit
set_option linter.unusedVariables false
set_option linter.unusedSimpArgs false

theorem write_any (m p : List Nat) (hm : Bb m) (hp : Bb p) (hlen : m.length + p.length ≤ 1000000000) (v : Value) (w : World) (hg : Gl6 w) (b : Nat) (hb : 1 < b) (hH : HH w b m) (hs : SK .u8 w v p) (hv : Off b v) :
    Calls Tryd.prog 10 #[.pointer (some ⟨b, 0, none⟩), v] w fun e w' => e = .returned (.tuple #[]) ∧ HH w' b (m ++ p) ∧ Oth b w w' := by
  have kL : Hid (Calls Tryd.prog 20 #[.pointer (some ⟨b, 0, none⟩)] w fun e w' => e = .returned (.bool true) ∧ w' = w) := lives_any w b m hH
  have kA : Hid (Calls Tryd.prog 21 #[.pointer (some ⟨b, 0, none⟩), v] w fun e w' => e = .returned (.tuple #[]) ∧ HH w' b (m ++ p) ∧ Oth b w w') := add_any m p hm hp hlen v w hg b hb hH hs hv
  obtain ⟨a, cap, e⟩ := hs.shape
  subst e
  clear hm hp hg hb hH hs hv
  go_enter Tryd.func10, Tryd.ntmps10
  go_wp2_with fail
  refine kL.out.mono ?_
  rintro e w1 ⟨rfl, hw1⟩
  rw [hw1]
  clear hw1 w1 kL
  go_wp2_with fail
  refine kA.out.mono ?_
  rintro e w1 ⟨rfl, hH1, hO1⟩
  have HH1 : Hid (HH w1 b (m ++ p)) := hH1
  have HO1 : Hid (Oth b w w1) := hO1
  clear hH1 hO1 kA
  go_wp2_with fail
  go_end0
  exact ⟨rfl, HH1.out, HO1.out⟩
theorem write_nil (v : Value) (w : World) (p : List Nat) (hs : SK .u8 w v p) :
    Calls Tryd.prog 10 #[.pointer none, v] w fun e w' => e = .returned (.tuple #[]) ∧ w' = w := by
  have kL : Hid (Calls Tryd.prog 20 #[.pointer none] w fun e w' => e = .returned (.bool false) ∧ w' = w) := lives_nil w
  obtain ⟨a, cap, e⟩ := hs.shape
  subst e
  clear hs
  go_enter Tryd.func10, Tryd.ntmps10
  go_wp2_with fail
  refine kL.out.mono ?_
  rintro e w1 ⟨rfl, hw1⟩
  rw [hw1]
  clear hw1 w1 kL
  go_wp2_with fail
  go_end0
  exact ⟨rfl, rfl⟩
theorem hsum_nil (w : World) :
    Calls Tryd.prog 11 #[.pointer none] w fun e w' => e = .returned (.slice none 0 0) ∧ w' = w := by
  have kL : Hid (Calls Tryd.prog 20 #[.pointer none] w fun e w' => e = .returned (.bool false) ∧ w' = w) := lives_nil w
  go_enter Tryd.func11, Tryd.ntmps11
  go_wp2_with fail
  refine kL.out.mono ?_
  rintro e w1 ⟨rfl, hw1⟩
  rw [hw1]
  clear hw1 w1 kL
  go_wp2_with fail
  go_ret
  exact ⟨rfl, rfl⟩
theorem hc_one (s : S8) (r : List Nat) (n : Nat) : (hc s r n).toArray.all (·.oneCell') = true := by
  refine all_oneCell_toArray (fun v hv => ?_)
  unfold hc at hv
  rcases List.mem_append.1 hv with h | h
  · exact uv_one h
  · rcases List.mem_append.1 h with h | h
    · exact bv8_one h
    · simp at h; rcases h with rfl | rfl <;> rfl
set_option maxRecDepth 100000 in
set_option maxHeartbeats 1000000 in
theorem hsum_own (l : List Nat) (hb : Bb l) (hlen : l.length ≤ 100000000) (w : World) (hg : Gl6 w) (c : Nat) (hc1 : 1 < c) (hH : HH w c l) :
    Calls Tryd.prog 11 #[.pointer (some ⟨c, 0, none⟩)] w fun e w' => ∃ v', e = .returned v' ∧ Own8 w.heap.size w' v' (sumB l) ∧ Below w.heap.size w w' := by
  have kL : Hid (Calls Tryd.prog 20 #[.pointer (some ⟨c, 0, none⟩)] w fun e w' => e = .returned (.bool true) ∧ w' = w) := lives_any w c l hH
  have hzv := zero_hash
  obtain ⟨r0, hr0, hw0, hA0⟩ := hH
  have hfr : Hid (∀ (W : World) (b : Nat), At 51 W b (hc (bl l (l.length / 128)) r0 l.length) → HH W b l) := fun W b h => ⟨r0, hr0, hw0, h⟩
  have hrg : Hid (w.rangeAt c 0 (hc (bl l (l.length / 128)) r0 l.length)) := hA0.range
  have hL := hc_length (bl l (l.length / 128)) r0 l.length hr0
  have h1 : Hid ((hc (bl l (l.length / 128)) r0 l.length).toArray.all (·.oneCell') = true) := hc_one _ _ _
  obtain ⟨F, hF⟩ : ∃ F, hc (bl l (l.length / 128)) r0 l.length = F := ⟨_, rfl⟩
  rw [hF] at hfr hrg hL h1
  have hi : Hid ((Tryd.prog.info? 51).map (·.size) = some F.length) := by unfold Hid; rw [hL]; kernel_rfl
  have hi2 : Hid ((Tryd.prog.info? 51).map (·.size) = some F.toArray.size) := hi
  have hl : Hid (F.length = hz.length) := by unfold Hid; rw [hL, hz_length]
  obtain ⟨Z, hZ⟩ : ∃ Z, hz = Z := ⟨_, rfl⟩
  rw [hZ] at hzv hl
  have HG : Hid (Gl6 w) := hg
  have HB : Hid (Bb l) := hb
  clear hZ hF hg hb hA0 hw0 hL
  have HA : Hid (At 51 (w.alloc (.cells Z.toArray 51)) w.heap.size Z) := at_new _ _ _
  have ht : Hid ((w.alloc (.cells Z.toArray 51)).there w.heap.size 0 F.toArray.size) := HA.out.there (by have := hl.out; simp; omega)
  go_enter Tryd.func11, Tryd.ntmps11
  go_wp2_with fail
  refine kL.out.mono ?_
  rintro e w1 ⟨rfl, hw1⟩
  rw [hw1]
  clear hw1 w1 kL
  go_upto_region 4 with (first
    | refine wpList_load_mid rfl 51 _ rfl c 0 rfl F _ hrg.out Tryd.underlying51 rfl hi.out ?_
    | refine wpList_store_mid rfl 51 _ _ rfl w.heap.size 0 F.toArray rfl rfl ht.out hi2.out h1.out ?_)
  refine wp_cut (fun W => HH W w.heap.size l ∧ Below w.heap.size w W) ⟨hfr.out _ _ (HA.out.filled F hl.out), below_setCells ((Below.refl _ _).alloc (Nat.le_refl _) _) (Nat.le_refl _) _ _⟩ ?_
  rintro W1 ⟨hH1, hB1⟩
  have hb1 : Hid (1 < w.heap.size) := HG.out.lt
  obtain ⟨b, hbq⟩ : ∃ b, Hid (w.heap.size = b) := ⟨_, rfl⟩
  have kE : Hid (Calls Tryd.prog 22 #[.pointer (some ⟨w.heap.size, 0, none⟩)] W1 fun e w' => e = .returned (.tuple #[]) ∧ HH w' w.heap.size (pad l) ∧ Oth w.heap.size W1 w') :=
    end_any l HB.out hlen W1 (HG.out.below hB1 HG.out.lt) w.heap.size hb1.out hH1
  have HB2 : Hid (Below w.heap.size w W1) := hB1
  clear hB1 hH1 HA ht hfr
  go_wp2_with fail
  refine kE.out.mono ?_
  rintro e w3 ⟨rfl, hH3, hO3⟩
  have HB3 : Hid (Below w.heap.size w w3) := Oth.bel HB2.out hO3 (Nat.le_refl _)
  obtain ⟨r, hr, -, hA3⟩ := hH3
  have kY : Hid (Calls Tryd.prog 23 #[.pointer (some ⟨w.heap.size, 0, none⟩)] w3 fun e w' => ∃ v, e = .returned v ∧ Own8 w3.heap.size w' v (sumB l) ∧ Below w3.heap.size w3 w') :=
    bytes_own (bl (pad l) ((pad l).length / 128)) (bl_ok _ _) w3 _ w.heap.size _ hA3
  clear hO3 kE HB2 hA3
  go_wp2_with fail
  refine kY.out.mono ?_
  rintro e w4 ⟨v', rfl, hs4, hB4⟩
  have HS4 : Hid (Own8 w.heap.size w4 v' (sumB l)) := hs4.wider HB3.out.size
  have HB4 : Hid (Below w.heap.size w w4) := HB3.out.trans (hB4.mono HB3.out.size)
  obtain ⟨a4, c4, e4⟩ := hs4.sk.shape
  subst e4
  clear hs4 hB4
  go_wp2_with fail
  go_ret
  exact ⟨_, rfl, HS4.out, HB4.out⟩
theorem hsum_any (l : List Nat) (hb : Bb l) (hlen : l.length ≤ 100000000) (w : World) (hg : Gl6 w) (c : Nat) (hc1 : 1 < c) (hH : HH w c l) :
    Calls Tryd.prog 11 #[.pointer (some ⟨c, 0, none⟩)] w fun e w' => ∃ v', e = .returned v' ∧ SK .u8 w' v' (sumB l) ∧ Below w.heap.size w w' :=
  (hsum_own l hb hlen w hg c hc1 hH).mono fun e w' ⟨v, h1, h2, h3⟩ => ⟨v, h1, h2.sk, h3⟩
end Go.Proofs.YtkkhpjcfojgggaaDoor.Br
