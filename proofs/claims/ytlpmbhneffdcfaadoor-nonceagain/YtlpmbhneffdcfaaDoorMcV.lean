/-
  HMAC as plain functions of bytes: a key's block, bytes by exclusive or with another one, the sum under a key. Conditions: as each theorem says.
-/
import Derived.Test.YtlpmbhneffdcfaaDoorDgM
import Derived.Laws.BitsAllLaws
namespace Go.Proofs.YtlpmbhneffdcfaaDoor
open Go.RowKit
set_option linter.unusedVariables false
set_option linter.unusedSimpArgs false

/-- A key, or what stands for one that is too long. -/
def ks (key : List Nat) : List Nat := if 64 < key.length then sumB key else key
/-- A key's block. -/
def kb (key : List Nat) : List Nat := ks key ++ List.replicate (64 - (ks key).length) 0
/-- Each byte by exclusive or with another one. -/
def xm (l : List Nat) (x : Nat) : List Nat := l.map fun d => d ^^^ x
/-- The sum of m under a key. -/
def macB (key m : List Nat) : List Nat := sumB (xm (kb key) 92 ++ sumB (xm (kb key) 54 ++ m))
theorem ks_length (key : List Nat) : (ks key).length ≤ 64 := by
  unfold ks
  split
  · rw [sumB_length]; omega
  · omega
theorem kb_length (key : List Nat) : (kb key).length = 64 := by
  have := ks_length key
  unfold kb
  simp
  omega
theorem xm_length (l : List Nat) (x : Nat) : (xm l x).length = l.length := by simp [xm]
theorem macB_length (key m : List Nat) : (macB key m).length = 32 := sumB_length _
theorem xor_byte (a x : Nat) (ha : a < 256) (hx : x < 256) : a ^^^ x < 256 := Nat.xor_lt_two_pow (n := 8) ha hx
theorem bb_rep (n : Nat) : Bb (List.replicate n 0) := fun j => by
  rw [List.getD_eq_getElem?_getD, List.getElem?_replicate]; split <;> decide
theorem xm_get (l : List Nat) (x j : Nat) (h : j < l.length) : (xm l x).getD j 0 = l.getD j 0 ^^^ x := by
  simp [xm, List.getD_eq_getElem?_getD, h]
theorem xm_bb (l : List Nat) (x : Nat) (hl : Bb l) (hx : x < 256) : Bb (xm l x) := fun j => by
  by_cases h : j < l.length
  · rw [xm_get l x j h]; exact xor_byte _ _ (hl j) hx
  · rw [List.getD_eq_getElem?_getD, List.getElem?_eq_none (by rw [xm_length]; omega)]; decide
theorem by4_bb (x : Nat) (h : x < 4294967296) : Bb (by4 x) :=
  fun j => by
    match j with
    | 0 => (show x / 16777216 < 256; omega)
    | 1 => (show x / 65536 % 256 < 256; omega)
    | 2 => (show x / 256 % 256 < 256; omega)
    | 3 => (show x % 256 < 256; omega)
    | n + 4 => exact (by decide : (0 : Nat) < 256)
theorem byL_bb (l : List Nat) (h : ∀ j, l.getD j 0 < 4294967296) : ∀ t, Bb (byL l t)
  | 0 => Bb.nil
  | t + 1 => (byL_bb l h t).app (by4_bb _ (h t))
theorem outB_bb (s : S8) (h : s.ok) : Bb (outB s) := byL_bb _ (fun j => S8.ok_get h j) 8
theorem sumB_bb (m : List Nat) : Bb (sumB m) := outB_bb _ (bl_ok _ _)
theorem ks_bb (key : List Nat) (h : Bb key) : Bb (ks key) := by
  unfold ks
  split
  · exact sumB_bb _
  · exact h
theorem kb_bb (key : List Nat) (h : Bb key) : Bb (kb key) := (ks_bb key h).app (bb_rep _)
theorem ks_short (key : List Nat) (h : key.length ≤ 64) : ks key = key := by unfold ks; rw [if_neg (by omega)]
theorem ks_long (key : List Nat) (h : 64 < key.length) : ks key = sumB key := by unfold ks; rw [if_pos h]
/-- Noughts behind what stands for a key make no difference. -/
theorem kb_more (key : List Nat) (z : Nat) (h : (ks key).length + z ≤ 64) : kb (ks key ++ List.replicate z 0) = kb key := by
  have e : ks (ks key ++ List.replicate z 0) = ks key ++ List.replicate z 0 := ks_short _ (by simp; omega)
  unfold kb
  rw [e, List.append_assoc, List.replicate_append_replicate]
  congr 2
  simp
  omega
theorem macB_more (key m : List Nat) (z : Nat) (h : (ks key).length + z ≤ 64) : macB (ks key ++ List.replicate z 0) m = macB key m := by
  unfold macB; rw [kb_more key z h]
theorem xm_snoc (l : List Nat) (x i : Nat) (h : i < l.length) : xm (l.take (i + 1)) x = xm (l.take i) x ++ [l.getD i 0 ^^^ x] := by
  rw [take_more l i h]; simp [xm]
end Go.Proofs.YtlpmbhneffdcfaaDoor

/-
  The contract of the mac's blockOf: a key's block. Conditions: as the theorem says.
-/
namespace Go.Proofs.YtlpmbhneffdcfaaDoor
open Go.RowKit
set_option linter.unusedVariables false
set_option linter.unusedSimpArgs false

theorem zero_64 (w : World) : (zeroValue 68).run Tryd.prog w = .ok (.agg (bv8 (List.replicate 64 0)).toArray) w := (zero_of_info (by kernel_rfl : (Tryd.prog.info? 68).map (fun i => (i.zero, i.size)) = some (some (.agg (bv8 (List.replicate 64 0)).toArray), 64))).1 w
theorem info_64 : (Tryd.prog.info? 68).map (·.size) = some 64 := by kernel_rfl
theorem laid_key (p : List Nat) (hp : p.length ≤ 64) : splice (bv8 (List.replicate 64 0)) 0 (bv8 (p.take p.length)) = bv8 (p ++ List.replicate (64 - p.length) 0) := by
  unfold splice
  rw [List.take_length, bv8_length]
  unfold bv8
  rw [← List.map_drop, List.drop_replicate, List.map_append, List.take_zero, List.nil_append, Nat.zero_add]

set_option maxRecDepth 100000 in
set_option maxHeartbeats 1000000 in
theorem blockOf_any (key : List Nat) (hb : Bb key) (hlen : key.length ≤ 100000000) (v : Value) (w : World) (hg : Gl5 w) (hs : SK .u8 w v key) :
    Calls Tryd.prog 58 #[v] w fun e w' => e = .returned (.agg (bv8 (kb key)).toArray) ∧ Below w.heap.size w w' := by
  have hzv := zero_64
  obtain ⟨Z, hZ⟩ : ∃ Z, Hid (bv8 (List.replicate 64 0) = Z) := ⟨_, rfl⟩
  rw [hZ.out] at hzv
  have hZl : Hid (Z.length = 64) := by rw [← hZ.out]; unfold Hid; rw [bv8_length]; simp
  have HA : Hid (At 68 (w.alloc (.cells Z.toArray 68)) w.heap.size Z) := at_new _ _ _
  have B0 : Below w.heap.size w (w.alloc (.cells Z.toArray 68)) := (Below.refl _ _).alloc (Nat.le_refl _) _
  have HS : Hid (SK .u8 (w.alloc (.cells Z.toArray 68)) v key) := hs.below B0
  have kS : Hid (Calls Tryd.prog 12 #[v] (w.alloc (.cells Z.toArray 68)) fun e w' => ∃ v', e = .returned v' ∧ SK .u8 w' v' (sumB key) ∧ Below (w.alloc (.cells Z.toArray 68)).heap.size (w.alloc (.cells Z.toArray 68)) w') := sum_any key hb hlen v _ (hg.grown B0) HS.out
  have HB0 : Hid (Below w.heap.size w (w.alloc (.cells Z.toArray 68))) := B0
  have hkb : Hid (kb key = ks key ++ List.replicate (64 - (ks key).length) 0) := rfl
  obtain ⟨U, hU⟩ : ∃ U, Hid (bv8 (kb key) = U) := ⟨_, rfl⟩
  have hKl : Hid ((Tryd.prog.info? 68).map (·.size) = some U.length) := by
    unfold Hid; rw [← hU.out, bv8_length, kb_length]; exact info_64
  have hKl2 : Hid ((Tryd.prog.info? 68).map (·.size) = some U.toArray.size) := hKl
  have h1 : Hid (U.toArray.all (·.oneCell') = true) := by rw [← hU.out]; exact all_oneCell_toArray (fun v hv => bv8_one hv)
  rw [hU.out]
  obtain ⟨a, c, e⟩ := hs.shape
  subst e
  clear hs hg B0 hb
  by_cases hbig : 64 < key.length
  · have hbig' : (64 : Int) < key.length := by omega
    have hkk : Hid (splice Z 0 (bv8 ((sumB key).take (sumB key).length)) = U) := by
      unfold Hid
      rw [← hZ.out, laid_key _ (by rw [sumB_length]; omega), ← hU.out, hkb.out, ks_long key hbig]
    go_enter Tryd.func58, Tryd.ntmps58
    go_wp2_with fail
    refine kS.out.mono ?_
    rintro e W1 ⟨v1, rfl, hs1, g1⟩
    have A1 : Hid (At 68 W1 w.heap.size Z) := HA.out.below g1
    have B1 : Hid (Below w.heap.size w W1) := HB0.out.trans (g1.mono HB0.out.size)
    have S1 : Hid (SK .u8 W1 v1 (sumB key)) := hs1
    obtain ⟨a1, c1, e1⟩ := hs1.shape
    subst e1
    clear hs1 g1 kS HA HB0 HS
    go_upto_region 4 with (refine wpList_copyAt rfl _ _ rfl 68 w.heap.size 0 64 64 rfl _ (sumB key) rfl S1.out Z A1.out (by have := hZl.out; omega) (sumB key).length (by have := sumB_length key; omega) ?_; intro W2 hA2 hO2)
    rw [hkk.out] at hA2
    have A2 : Hid (At 68 W2 w.heap.size U) := hA2
    have B2 : Hid (Below w.heap.size w W2) := Oth.bel B1.out hO2 (Nat.le_refl _)
    clear hA2 hO2 A1 B1 S1
    have hrg : Hid (W2.rangeAt w.heap.size 0 U) := A2.out.range
    have ht : Hid (W2.there w.heap.size 0 U.toArray.size) := A2.out.there (by simp)
    clear A2
    go_wp2_with (first
      | refine wpList_load_mid rfl 68 _ rfl w.heap.size 0 rfl U _ hrg.out Tryd.underlying68 rfl hKl.out ?_
      | refine wpList_store_mid rfl 68 _ _ rfl w.heap.size 0 U.toArray rfl rfl ht.out hKl2.out h1.out ?_)
    refine body_cut' (fun W => W.rangeAt w.heap.size 0 U ∧ Below w.heap.size w W) ⟨World.rangeAt_setCells_same _ _ _ _ ht.out, below_setCells B2.out (Nat.le_refl _) _ _⟩ ?_
    rintro W ⟨hc', hb'⟩
    exact bodyPost_ret (v := .agg U.toArray) (results_mid (Tryd.results58) _ W w.heap.size 0 U _ rfl hc' Tryd.underlying68 rfl hKl.out) rfl ⟨rfl, hb'⟩
  · have hbig' : ¬ (64 : Int) < key.length := by omega
    have hkk : Hid (splice Z 0 (bv8 (key.take key.length)) = U) := by
      unfold Hid
      rw [← hZ.out, laid_key _ (by omega), ← hU.out, hkb.out, ks_short key (by omega)]
    clear kS
    go_enter Tryd.func58, Tryd.ntmps58
    go_upto_region 4 with (refine wpList_copyAt rfl _ _ rfl 68 w.heap.size 0 64 64 rfl _ key rfl HS.out Z HA.out (by have := hZl.out; omega) key.length (by omega) ?_; intro W2 hA2 hO2)
    rw [hkk.out] at hA2
    have A2 : Hid (At 68 W2 w.heap.size U) := hA2
    have B2 : Hid (Below w.heap.size w W2) := Oth.bel HB0.out hO2 (Nat.le_refl _)
    clear hA2 hO2 HA HB0 HS
    have hrg : Hid (W2.rangeAt w.heap.size 0 U) := A2.out.range
    have ht : Hid (W2.there w.heap.size 0 U.toArray.size) := A2.out.there (by simp)
    clear A2
    go_wp2_with (first
      | refine wpList_load_mid rfl 68 _ rfl w.heap.size 0 rfl U _ hrg.out Tryd.underlying68 rfl hKl.out ?_
      | refine wpList_store_mid rfl 68 _ _ rfl w.heap.size 0 U.toArray rfl rfl ht.out hKl2.out h1.out ?_)
    refine body_cut' (fun W => W.rangeAt w.heap.size 0 U ∧ Below w.heap.size w W) ⟨World.rangeAt_setCells_same _ _ _ _ ht.out, below_setCells B2.out (Nat.le_refl _) _ _⟩ ?_
    rintro W ⟨hc', hb'⟩
    exact bodyPost_ret (v := .agg U.toArray) (results_mid (Tryd.results58) _ W w.heap.size 0 U _ rfl hc' Tryd.underlying68 rfl hKl.out) rfl ⟨rfl, hb'⟩
end Go.Proofs.YtlpmbhneffdcfaaDoor

/-
  The contract of the mac's begun: a hash of a key's block, each byte by exclusive or with another one. Conditions: as the theorem says.
-/
namespace Go.Proofs.YtlpmbhneffdcfaaDoor
open Go.RowKit
set_option linter.unusedVariables false
set_option linter.unusedSimpArgs false

theorem begun_set (l : List Nat) (hl : l.length = 64) (x i y : Nat) (hi : i < 64) (hy : l.getD i 0 ^^^ x = y) : (bv8 (mixL (xm l x) l i)).set i (.int .u8 (y : Int)) = bv8 (mixL (xm l x) l (i + 1)) := by
  rw [← mixL_set (xm l x) l i (by rw [xm_length]; omega) (xm_length l x), xm_get l x i (by omega), hy]
  simp [bv8, List.map_set]
theorem begun_sk {W : World} {b : Nat} {l : List Nat} (h : At 68 W b (bv8 l)) (hl : l.length = 64) : SK .u8 W (.slice (some ⟨b, 0, none⟩) 64 64) l := by
  refine ⟨some ⟨b, 0, none⟩, 64, by rw [hl], by omega, fun e => by simp at e, fun j hj => ⟨b, 0, rfl, h.lt, ?_⟩⟩
  rw [Nat.zero_add, h.cell j, bv8_get l j hj]

set_option maxRecDepth 100000 in
set_option maxHeartbeats 1000000 in
theorem begun_any (l : List Nat) (hl : l.length = 64) (hb : Bb l) (x : Nat) (hx : x < 256) (w : World) (hg : Gl5 w) :
    Calls Tryd.prog 59 #[.agg (bv8 l).toArray, .int .u8 (x : Int)] w fun e w' => ∃ b, e = .returned (.pointer (some ⟨b, 0, none⟩)) ∧ w.heap.size ≤ b ∧ HH w' b (xm l x) ∧ Below w.heap.size w w' := by
  have HL : Hid (l.length = 64) := hl
  have HB : Hid (Bb l) := hb
  have HX : Hid (Bb (xm l x)) := xm_bb l x hb hx
  have HG : Hid (Gl5 w) := hg
  obtain ⟨Z, hZ⟩ : ∃ Z, Hid (bv8 l = Z) := ⟨_, rfl⟩
  rw [hZ.out]
  have HA : Hid (At 68 (w.alloc (.cells Z.toArray 68)) w.heap.size Z) := at_new _ _ _
  have HB0 : Hid (Below w.heap.size w (w.alloc (.cells Z.toArray 68))) := (Below.refl _ _).alloc (Nat.le_refl _) _
  clear hl hb hg
  go_enter Tryd.func59, Tryd.ntmps59
  go_wp2_with fail
  have hT : Hid (mixL (xm l x) l 0 = l) := by unfold Hid mixL; simp
  have hE : Hid (mixL (xm l x) l 64 = xm l x) := by
    unfold Hid mixL
    have h1 := HL.out
    rw [List.take_of_length_le (by rw [xm_length]; omega), List.drop_eq_nil_of_le (by omega), List.append_nil]
  have HA0 : Hid (At 68 (w.alloc (.cells Z.toArray 68)) w.heap.size (bv8 (mixL (xm l x) l 0))) := by
    unfold Hid; rw [hT.out, hZ.out]; exact HA.out
  clear hT HA
  go_loopw [7] (fun y W => ∃ i : Nat, i ≤ 64 ∧ y = .int .i64 i ∧ At 68 W w.heap.size (bv8 (mixL (xm l x) l i)) ∧ Below w.heap.size w W) (fun y _ => 64 - (intOf y).toNat)
  case atStart => exact ⟨0, by omega, rfl, HA0.out, HB0.out⟩
  case round =>
    clear HA0 HB0
    obtain ⟨i, hi, rfl, hA, hB⟩ := hrel
    have HA : Hid (At 68 wr w.heap.size (bv8 (mixL (xm l x) l i))) := hA
    have BW : Hid (Below w.heap.size w wr) := hB
    by_cases hlt : i < 64
    · have hlt' : (i : Int) < 64 := by omega
      have c := hA.cell i
      have f := hA.free i
      have hlm : (mixL (xm l x) l i).length = 64 := by
        rw [mixL_length _ _ _ (by rw [xm_length, HL.out]; omega) (xm_length l x), xm_length, HL.out]
      rw [bv8_get _ _ (by omega), mixL_get _ _ _ (by rw [xm_length, HL.out]; omega) (xm_length l x)] at c
      have q := HB.out i
      have hset := fun y => begun_set l HL.out x i y hlt
      obtain ⟨z, hz⟩ : ∃ z, l.getD i 0 = z := ⟨_, rfl⟩
      rw [hz] at c q hset
      have hX := u8_xor_nat z x q hx
      obtain ⟨y, hy⟩ : ∃ y, z ^^^ x = y := ⟨_, rfl⟩
      rw [hy] at hX hset
      have hs1 : Hid ((bv8 (mixL (xm l x) l i)).set i (.int .u8 (y : Int)) = bv8 (mixL (xm l x) l (i + 1))) := hset y rfl
      have hw0 : Hid (w.heap.size ≤ w.heap.size) := Nat.le_refl _
      clear hA hB hlm q hset hz hy
      go_wp2_with fail
      go_roundw
      case rel => exact ⟨i + 1, by omega, by go_num, by rw [← hs1.out]; exact HA.out.set i _, BW.out.setCell hw0.out _⟩
      case measure => simp [intOf]; omega
    · obtain rfl : i = 64 := by omega
      rw [hE.out] at HA
      have kN : Hid (Calls Tryd.prog 71 #[] wr fun e w' => ∃ b, e = .returned (.pointer (some ⟨b, 0, none⟩)) ∧ wr.heap.size ≤ b ∧ HH w' b [] ∧ Below wr.heap.size wr w') := new_any wr (HG.out.grown hB)
      clear hA hB
      go_wp2_with fail
      refine kN.out.mono ?_
      rintro e W1 ⟨b1, rfl, hb1, hH1, g1⟩
      have HA1 : Hid (At 68 W1 w.heap.size (bv8 (xm l x))) := HA.out.below g1
      have B1 : Hid (Below w.heap.size w W1) := BW.out.trans (g1.mono BW.out.size)
      have hs : SK .u8 W1 (.slice (some ⟨w.heap.size, 0, none⟩) 64 64) (xm l x) := begun_sk HA1.out (by rw [xm_length, HL.out])
      have hne : w.heap.size ≠ b1 := by have := HA.out.lt; omega
      have hwb : Hid (w.heap.size ≤ b1) := Nat.le_trans BW.out.size hb1
      have kW : Hid (Calls Tryd.prog 60 #[.pointer (some ⟨b1, 0, none⟩), .slice (some ⟨w.heap.size, 0, none⟩) 64 64] W1 fun e w' => e = .returned (.tuple #[]) ∧ HH w' b1 ([] ++ xm l x) ∧ Oth b1 W1 w') :=
        write_any [] (xm l x) Bb.nil HX.out (by rw [xm_length, HL.out]; simp) _ W1 (HG.out.grown B1.out) b1 (by have := HG.out.lt; have := hwb.out; omega) hH1 hs (by
          intro a n c e _ y hy
          cases e
          cases hy
          exact hne)
      clear hH1 g1 kN HA BW hs hne HA1
      go_wp2_with fail
      refine kW.out.mono ?_
      rintro e W2 ⟨rfl, hH2, hO2⟩
      rw [List.nil_append] at hH2
      have H2 : Hid (HH W2 b1 (xm l x)) := hH2
      have B2 : Hid (Below w.heap.size w W2) := Oth.bel B1.out hO2 hwb.out
      clear hH2 hO2 kW B1
      go_wp2_with fail
      go_ret
      exact ⟨b1, rfl, hwb.out, H2.out, B2.out⟩
end Go.Proofs.YtlpmbhneffdcfaaDoor

/-
  The contract of the mac's Sum: the sum of parts under a key. Conditions: as the theorem says.
-/
namespace Go.Proofs.YtlpmbhneffdcfaaDoor
open Go.RowKit
set_option linter.unusedVariables false
set_option linter.unusedSimpArgs false

theorem cat_le (ls : List (List Nat)) : ∀ j d, (cat ls j).length ≤ (cat ls (j + d)).length
  | j, 0 => Nat.le_refl _
  | j, d + 1 => Nat.le_trans (cat_le ls j d) (by show _ ≤ (cat ls (j + d) ++ _).length; simp)

set_option maxRecDepth 100000 in
set_option maxHeartbeats 2000000 in
theorem mac_own (key : List Nat) (hbk : Bb key) (hk : key.length ≤ 100000000) (v1 : Value) (ls : List (List Nat)) (hn : ls.length ≤ 1000000) (hl : (cat ls ls.length).length ≤ 99999000) (v2 : Value) (w : World) (hg : Gl5 w) (h1 : SK .u8 w v1 key) (h2 : LL w v2 ls) :
    Calls Tryd.prog 41 #[v1, v2] w fun e w' => ∃ v, e = .returned v ∧ Own8 w.heap.size w' v (macB key (cat ls ls.length)) ∧ Below w.heap.size w w' := by
  have kB : Hid (Calls Tryd.prog 58 #[v1] w fun e w' => e = .returned (.agg (bv8 (kb key)).toArray) ∧ Below w.heap.size w w') := blockOf_any key hbk hk v1 w hg h1
  obtain ⟨a1, c1, e1⟩ := h1.shape
  subst e1
  obtain ⟨a2, c2, rfl, hc2, K2⟩ := h2
  have HK : Hid (∀ j, j < ls.length → ∃ b o u, a2 = some ⟨b, o, none⟩ ∧ b < w.heap.size ∧ w.cell? ⟨b, o + j, none⟩ = some u ∧ SK .u8 w u (ls.getD j []) ∧ Bb (ls.getD j [])) := K2
  have HBB : Hid (∀ j, j ≤ ls.length → Bb (cat ls j)) := cat_bb ls (fun j hj => by obtain ⟨b, o, u, _, _, _, _, h⟩ := K2 j hj; exact h)
  have HLE : Hid (∀ j, j ≤ ls.length → (cat ls j).length ≤ 99999000) := fun j hj => by
    have := cat_le ls j (ls.length - j)
    rw [show j + (ls.length - j) = ls.length by omega] at this
    omega
  have hkl := kb_length key
  have hkb := kb_bb key hbk
  have hmac : Hid (macB key (cat ls ls.length) = sumB (xm (kb key) 92 ++ sumB (xm (kb key) 54 ++ cat ls ls.length))) := rfl
  obtain ⟨k, hk⟩ : ∃ k, kb key = k := ⟨_, rfl⟩
  rw [hk] at hkl hkb hmac kB
  have kI : Hid (∀ W : World, Gl5 W → Calls Tryd.prog 59 #[.agg (bv8 k).toArray, .int .u8 54] W fun e w' => ∃ b, e = .returned (.pointer (some ⟨b, 0, none⟩)) ∧ W.heap.size ≤ b ∧ HH w' b (xm k 54) ∧ Below W.heap.size W w') := fun W h => begun_any k hkl hkb 54 (by omega) W h
  have kO : Hid (∀ W : World, Gl5 W → Calls Tryd.prog 59 #[.agg (bv8 k).toArray, .int .u8 92] W fun e w' => ∃ b, e = .returned (.pointer (some ⟨b, 0, none⟩)) ∧ W.heap.size ≤ b ∧ HH w' b (xm k 92) ∧ Below W.heap.size W w') := fun W h => begun_any k hkl hkb 92 (by omega) W h
  have hBI : Hid (Bb (xm k 54)) := xm_bb _ _ hkb (by omega)
  have hBO : Hid (Bb (xm k 92)) := xm_bb _ _ hkb (by omega)
  have hLI : Hid ((xm k 54).length = 64) := by unfold Hid; rw [xm_length, hkl]
  have hLO : Hid ((xm k 92).length = 64) := by unfold Hid; rw [xm_length, hkl]
  obtain ⟨U, hU⟩ : ∃ U, Hid (bv8 k = U) := ⟨_, rfl⟩
  have hKl : Hid ((Tryd.prog.info? 68).map (·.size) = some U.length) := by
    unfold Hid; rw [← hU.out, bv8_length, hkl]; exact info_64
  have hKl2 : Hid ((Tryd.prog.info? 68).map (·.size) = some U.toArray.size) := hKl
  have hone : Hid (U.toArray.all (·.oneCell') = true) := by rw [← hU.out]; exact all_oneCell_toArray (fun v hv => bv8_one hv)
  have hzv := zero_64
  obtain ⟨Z, hZ⟩ : ∃ Z, Hid (bv8 (List.replicate 64 0) = Z) := ⟨_, rfl⟩
  rw [hZ.out] at hzv
  have hZl : Hid (U.length = Z.length) := by rw [← hZ.out, ← hU.out]; unfold Hid; rw [bv8_length, bv8_length, hkl]; simp
  obtain ⟨I, hI⟩ : ∃ I, xm k 54 = I := ⟨_, rfl⟩
  obtain ⟨O, hO⟩ : ∃ O, xm k 92 = O := ⟨_, rfl⟩
  rw [hU.out] at kB kI kO
  rw [hI] at kI hBI hLI hmac
  rw [hO] at kO hBO hLO hmac
  rw [hmac.out]
  have HG : Hid (Gl5 w) := hg
  have hw1 : Hid (2 < w.heap.size) := hg.lt
  obtain ⟨N, hN⟩ : ∃ n, Hid (ls.length = n) := ⟨_, rfl⟩
  rw [hN.out] at hc2 hl hn HK HBB HLE ⊢
  clear hk hkl hkb hmac hI hO hg h1 K2 hbk
  go_enter Tryd.func41, Tryd.ntmps41
  go_wp2_with fail
  refine kB.out.mono ?_
  rintro e W1 ⟨rfl, hB1⟩
  have B1 : Hid (Below w.heap.size w W1) := hB1
  clear hB1 kB
  have HA : Hid (At 68 (W1.alloc (.cells Z.toArray 68)) W1.heap.size Z) := at_new _ _ _
  have ht : Hid ((W1.alloc (.cells Z.toArray 68)).there W1.heap.size 0 U.toArray.size) := HA.out.there (by have := hZl.out; simp; omega)
  go_upto_region 2 with (refine wpList_store_mid rfl 68 _ _ rfl W1.heap.size 0 U.toArray rfl rfl ht.out hKl2.out hone.out ?_)
  obtain ⟨g, hgq⟩ : ∃ g, W1.heap.size = g := ⟨_, rfl⟩
  have hgw : Hid (w.heap.size ≤ g) := by unfold Hid; rw [← hgq]; exact B1.out.size
  rw [hgq] at HA ht ⊢
  refine wp_cut (fun W => At 68 W g U ∧ Below w.heap.size w W) ⟨HA.out.filled U hZl.out, below_setCells (B1.out.alloc (Nat.le_trans hgw.out (Nat.le_of_eq hgq.symm)) _) hgw.out _ _⟩ ?_
  rintro W2 ⟨hA2, hB2⟩
  have A2 : Hid (At 68 W2 g U) := hA2
  have B2 : Hid (Below w.heap.size w W2) := hB2
  have hrg : Hid (W2.rangeAt g 0 U) := hA2.range
  clear hA2 hB2 HA ht B1 hgq
  go_wp2_with (refine wpList_load_mid rfl 68 _ rfl g 0 rfl U _ hrg.out Tryd.underlying68 rfl hKl.out ?_)
  refine (kI.out W2 (HG.out.grown B2.out)).mono ?_
  rintro e W3 ⟨b1, rfl, hb1, hH1, g3⟩
  have H3 : Hid (HH W3 b1 I) := hH1
  have A3 : Hid (At 68 W3 g U) := A2.out.below g3
  have B3 : Hid (Below w.heap.size w W3) := B2.out.trans (g3.mono B2.out.size)
  have hb1w : Hid (w.heap.size ≤ b1) := Nat.le_trans B2.out.size hb1
  have hgb1 : Hid (g ≠ b1) := by have := A2.out.lt; unfold Hid; omega
  clear hH1 g3 kI hb1 hrg A2 B2
  go_wp2_with fail
  go_loopw [16] (fun y W => ∃ j : Nat, j ≤ N ∧ y = .int .i64 j ∧ HH W b1 (I ++ cat ls j) ∧ At 68 W g U ∧ Below w.heap.size w W) (fun y _ => N - (intOf y).toNat)
  case atStart => exact ⟨0, by omega, rfl, by show HH _ _ (I ++ []); rw [List.append_nil]; exact H3.out, A3.out, B3.out⟩
  case round =>
    clear H3 A3 B3
    obtain ⟨j, hj, rfl, hH, hA, hB⟩ := hrel
    have HW : Hid (HH wr b1 (I ++ cat ls j)) := hH
    have AW : Hid (At 68 wr g U) := hA
    have BW : Hid (Below w.heap.size w wr) := hB
    clear hH hA hB
    by_cases hlt : j < N
    · have hlt' : (j : Int) < N := by omega
      have hj6 : (j : Int) < 1000000 := by omega
      obtain ⟨b0, o0, u, rfl, hb0, hcell, hsu, hbu⟩ := HK.out j hlt
      have hcell' := (BW.out.cell (p := ⟨b0, o0 + j, none⟩) hb0).trans hcell
      have ecat : Hid (cat ls (j + 1) = cat ls j ++ ls.getD j []) := rfl
      have hL1 := HLE.out (j + 1) (by omega)
      obtain ⟨p, hp⟩ : ∃ p, Hid (ls.getD j [] = p) := ⟨_, rfl⟩
      rw [hp.out] at hsu hbu ecat
      rw [ecat.out, List.length_append] at hL1
      obtain ⟨ua, uc, hue⟩ := hsu.shape
      subst hue
      have kWr : Hid (Calls Tryd.prog 60 #[.pointer (some ⟨b1, 0, none⟩), .slice ua p.length uc] wr fun e w' => e = .returned (.tuple #[]) ∧ HH w' b1 (I ++ cat ls j ++ p) ∧ Oth b1 wr w') :=
        write_any (I ++ cat ls j) p (hBI.out.app (HBB.out j (by omega))) hbu (by rw [List.length_append, hLI.out]; omega) _ wr (HG.out.grown BW.out) b1 (by have := hw1.out; have := hb1w.out; omega) HW.out (hsu.below BW.out) (hsu.off hb1w.out)
      clear hcell hsu hbu hL1 HW
      go_wp2_with fail
      refine kWr.out.mono ?_
      rintro e V1 ⟨rfl, hH, hO⟩
      have BV1 : Hid (Below w.heap.size w V1) := Oth.bel BW.out hO hb1w.out
      have HV1 : Hid (HH V1 b1 (I ++ cat ls (j + 1))) := by rw [ecat.out, ← List.append_assoc]; exact hH
      have AV1 : Hid (At 68 V1 g U) := hO.at AW.out hgb1.out
      clear hH hO kWr BW AW hcell'
      go_wp2_with fail
      go_roundw
      case rel => exact ⟨j + 1, by omega, by go_num, HV1.out, AV1.out, BV1.out⟩
      case measure => simp [intOf]; omega
    · obtain rfl : j = N := by omega
      have hrg : Hid (wr.rangeAt g 0 U) := AW.out.range
      have hL1 := HLE.out j (by omega)
      have hBc : Hid (Bb (I ++ cat ls j)) := hBI.out.app (HBB.out j (by omega))
      have hLc : Hid ((I ++ cat ls j).length ≤ 100000000) := by unfold Hid; rw [List.length_append, hLI.out]; omega
      obtain ⟨M, hM⟩ : ∃ M, Hid (I ++ cat ls j = M) := ⟨_, rfl⟩
      rw [hM.out] at HW hBc hLc
      clear AW hL1
      go_wp2_with (refine wpList_load_mid rfl 68 _ rfl g 0 rfl U _ hrg.out Tryd.underlying68 rfl hKl.out ?_)
      refine (kO.out wr (HG.out.grown BW.out)).mono ?_
      rintro e W4 ⟨b2, rfl, hb2, hH2, g4⟩
      have H2 : Hid (HH W4 b2 O) := hH2
      have H1 : Hid (HH W4 b1 M) := HW.out.below g4
      have B4 : Hid (Below w.heap.size w W4) := BW.out.trans (g4.mono BW.out.size)
      have hb2w : Hid (w.heap.size ≤ b2) := Nat.le_trans BW.out.size hb2
      clear hH2 g4 kO hb2 hrg HW BW
      have kS : Hid (Calls Tryd.prog 61 #[.pointer (some ⟨b1, 0, none⟩)] W4 fun e w' => ∃ v', e = .returned v' ∧ Own8 W4.heap.size w' v' (sumB M) ∧ Below W4.heap.size W4 w') :=
        hsum_own M hBc.out hLc.out W4 (HG.out.grown B4.out) b1 (by have := hw1.out; have := hb1w.out; omega) H1.out
      go_wp2_with fail
      refine kS.out.mono ?_
      rintro e W5 ⟨v5, rfl, ho5, g5⟩
      have H25 : Hid (HH W5 b2 O) := H2.out.below g5
      have B5 : Hid (Below w.heap.size w W5) := B4.out.trans (g5.mono B4.out.size)
      have hoff : Hid (Off b2 v5) := ho5.off H2.out.lt
      have hsk : Hid (SK .u8 W5 v5 (sumB M)) := ho5.sk
      obtain ⟨a5, c5, e5⟩ := ho5.sk.shape
      subst e5
      have kWr : Hid (Calls Tryd.prog 60 #[.pointer (some ⟨b2, 0, none⟩), .slice a5 (sumB M).length c5] W5 fun e w' => e = .returned (.tuple #[]) ∧ HH w' b2 (O ++ sumB M) ∧ Oth b2 W5 w') :=
        write_any O (sumB M) hBO.out (sumB_bb M) (by rw [hLO.out, sumB_length]; omega) _ W5 (HG.out.grown B5.out) b2 (by have := hw1.out; have := hb2w.out; omega) H25.out hsk.out hoff.out
      clear ho5 g5 kS H2 H1 B4 hoff hsk
      go_wp2_with fail
      refine kWr.out.mono ?_
      rintro e W6 ⟨rfl, hH6, hO6⟩
      have B6 : Hid (Below w.heap.size w W6) := Oth.bel B5.out hO6 hb2w.out
      have H6 : Hid (HH W6 b2 (O ++ sumB M)) := hH6
      have kT : Hid (Calls Tryd.prog 61 #[.pointer (some ⟨b2, 0, none⟩)] W6 fun e w' => ∃ v', e = .returned v' ∧ Own8 W6.heap.size w' v' (sumB (O ++ sumB M)) ∧ Below W6.heap.size W6 w') :=
        hsum_own (O ++ sumB M) (hBO.out.app (sumB_bb M)) (by rw [List.length_append, hLO.out, sumB_length]; omega) W6 (HG.out.grown B6.out) b2 (by have := hw1.out; have := hb2w.out; omega) hH6
      clear hH6 hO6 kWr H25 B5
      go_wp2_with fail
      refine kT.out.mono ?_
      rintro e W7 ⟨v7, rfl, ho7, g7⟩
      have B7 : Hid (Below w.heap.size w W7) := B6.out.trans (g7.mono B6.out.size)
      have O7 : Hid (Own8 w.heap.size W7 v7 (sumB (O ++ sumB M))) := ho7.wider B6.out.size
      obtain ⟨a7, c7, e7⟩ := ho7.sk.shape
      subst e7
      clear ho7 g7 kT B6 H6
      go_wp2_with fail
      go_ret
      exact ⟨_, rfl, by rw [hM.out]; exact O7.out, B7.out⟩
theorem mac_any (key : List Nat) (hbk : Bb key) (hk : key.length ≤ 100000000) (v1 : Value) (ls : List (List Nat)) (hn : ls.length ≤ 1000000) (hl : (cat ls ls.length).length ≤ 99999000) (v2 : Value) (w : World) (hg : Gl5 w) (h1 : SK .u8 w v1 key) (h2 : LL w v2 ls) :
    Calls Tryd.prog 41 #[v1, v2] w fun e w' => ∃ v, e = .returned v ∧ SK .u8 w' v (macB key (cat ls ls.length)) ∧ Below w.heap.size w w' :=
  (mac_own key hbk hk v1 ls hn hl v2 w hg h1 h2).mono fun e w' ⟨v, h1, h2, h3⟩ => ⟨v, h1, h2.sk, h3⟩
end Go.Proofs.YtlpmbhneffdcfaaDoor

/-
  The contracts of the law's bytes and awake of layer 7; slices of slices that a call has just made. Conditions: as each theorem says.
-/
namespace Go.Proofs.YtlpmbhneffdcfaaDoor
open Go.RowKit
set_option linter.unusedVariables false
set_option linter.unusedSimpArgs false

theorem ll_new (W : World) (vs : List Value) (ls : List (List Nat)) (cs : Array Value) (T : TypeId) (n : Nat) (hcs : cs = vs.toArray) (hv : vs.length = n) (hl : ls.length = n)
    (h : ∀ j, j < n → ∃ u, vs[j]? = some u ∧ SK .u8 W u (ls.getD j []) ∧ Bb (ls.getD j [])) : LL (W.alloc (.cells cs T)) (.slice (some ⟨W.heap.size, 0, none⟩) n n) ls := by
  subst hcs
  subst hl
  refine ⟨some ⟨W.heap.size, 0, none⟩, ls.length, rfl, Nat.le_refl _, fun j hj => ?_⟩
  obtain ⟨u, h1, h2, h3⟩ := h j hj
  refine ⟨W.heap.size, 0, u, rfl, by simp, ?_, h2.below ((Below.refl _ _).alloc (Nat.le_refl _) _), h3⟩
  rw [Nat.zero_add, (at_new T W vs).cell j, h1]
theorem bb_dec (l : List Nat) (h : l.all (fun x => decide (x < 256)) = true) : Bb l := fun j => by
  by_cases hj : j < l.length
  · have := List.all_eq_true.1 h l[j] (List.getElem_mem hj)
    simp [List.getD_eq_getElem?_getD, hj]
    simpa using this
  · rw [List.getD_eq_getElem?_getD, List.getElem?_eq_none (by omega)]; decide
def jefe : List Nat := [74, 101, 102, 101]
def want1 : List Nat := [119, 104, 97, 116, 32, 100, 111, 32, 121, 97, 32, 119, 97, 110, 116, 32]
def want2 : List Nat := [102, 111, 114, 32, 110, 111, 116, 104, 105, 110, 103, 63]
set_option maxRecDepth 100000 in
theorem jefe_sum : macB jefe (want1 ++ want2) = [91, 220, 193, 70, 191, 96, 117, 78, 106, 4, 36, 38, 8, 149, 117, 199, 90, 0, 63, 8, 157, 39, 57, 131, 157, 236, 88, 185, 100, 236, 56, 67] := by decide +kernel

end Go.Proofs.YtlpmbhneffdcfaaDoor
