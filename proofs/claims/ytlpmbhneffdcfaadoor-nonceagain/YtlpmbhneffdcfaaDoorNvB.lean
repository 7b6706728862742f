/-
  A source of layer 8 in memory; slices of slices that are a call's own; the contract of draw. Conditions: as each theorem says.
-/
import Derived.Test.YtlpmbhneffdcfaaDoorNvV
import Derived.Test.YtlpmbhneffdcfaaDoorLate
import Derived.Laws.OwnMore
import Derived.WalkMore
namespace Go.Proofs.YtlpmbhneffdcfaaDoor
open Go.RowKit
set_option linter.unusedVariables false
set_option linter.unusedSimpArgs false

/-- The four words of a number. -/
def fw (x : Nat) : List Value := [.int .u64 ((x % 18446744073709551616 : Nat) : Int), .int .u64 ((x / 18446744073709551616 % 18446744073709551616 : Nat) : Int),
  .int .u64 ((x / 340282366920938463463374607431768211456 % 18446744073709551616 : Nat) : Int), .int .u64 ((x / 6277101735386680763835789423207666416102355444464034512896 % 18446744073709551616 : Nat) : Int)]
theorem four_fw (x : Nat) : four x = .agg (fw x).toArray := rfl
/-- In block b stands a source whose pair is s, of the order q. -/
def Sr (W : World) (b : Nat) (s : KV) (q : Nat) : Prop :=
  ∃ ka kc va vc, At 46 W b (.slice ka 32 kc :: .slice va 32 vc :: fw q) ∧ SK .u8 W (.slice ka 32 kc) s.k ∧ SK .u8 W (.slice va 32 vc) s.v ∧ Off b (.slice ka 32 kc) ∧ Off b (.slice va 32 vc)
theorem Sr.lt {W : World} {b : Nat} {s : KV} {q : Nat} (h : Sr W b s q) : b < W.heap.size := by obtain ⟨_, _, _, _, h, _⟩ := h; exact h.lt
theorem Sr.below {W W' : World} {b : Nat} {s : KV} {q : Nat} (h : Sr W b s q) (hb : Below W.heap.size W W') : Sr W' b s q := by
  obtain ⟨ka, kc, va, vc, h1, h2, h3, h4, h5⟩ := h
  exact ⟨ka, kc, va, vc, h1.below hb, h2.below hb, h3.below hb, h4, h5⟩
/-- Neither of the two slices of the source in block b lies in block c. -/
def Avoid (W : World) (b c : Nat) : Prop := ∀ u, (W.cell? ⟨b, 0, none⟩ = some u ∨ W.cell? ⟨b, 1, none⟩ = some u) → Off c u
theorem Avoid.oth {W W' : World} {b c d : Nat} (h : Avoid W b c) (hb : b < W.heap.size) (ho : Oth d W W') (hd : b ≠ d) : Avoid W' b c := by
  intro u hu
  rw [ho.cell ⟨b, 0, none⟩ hb hd, ho.cell ⟨b, 1, none⟩ hb hd] at hu
  exact h u hu
theorem Avoid.below {W W' : World} {b c : Nat} (h : Avoid W b c) (hb : b < W.heap.size) (ho : Below W.heap.size W W') : Avoid W' b c := by
  intro u hu
  rw [ho.cell (p := ⟨b, 0, none⟩) hb, ho.cell (p := ⟨b, 1, none⟩) hb] at hu
  exact h u hu
theorem avoid_at {W : World} {b c : Nat} {T : TypeId} {x y : Value} {r : List Value} (hA : At T W b (x :: y :: r)) (hx : Off c x) (hy : Off c y) : Avoid W b c := by
  intro u hu
  have c0 := hA.cell 0
  have c1 := hA.cell 1
  simp only [List.getElem?_cons_zero, List.getElem?_cons_succ] at c0 c1
  rcases hu with h | h
  · rw [c0] at h; obtain rfl := Option.some.inj h; exact hx
  · rw [c1] at h; obtain rfl := Option.some.inj h; exact hy
theorem Avoid.parts {W : World} {b c : Nat} (h : Avoid W b c) {T : TypeId} {x y : Value} {r : List Value} (hA : At T W b (x :: y :: r)) : Off c x ∧ Off c y := by
  have c0 := hA.cell 0
  have c1 := hA.cell 1
  simp only [List.getElem?_cons_zero, List.getElem?_cons_succ] at c0 c1
  exact ⟨h x (Or.inl c0), h y (Or.inr c1)⟩
theorem Sr.oth {W W' : World} {b c : Nat} {s : KV} {q : Nat} (h : Sr W b s q) (ho : Oth c W W') (hc : b ≠ c) (ha : Avoid W b c) : Sr W' b s q := by
  obtain ⟨ka, kc, va, vc, h1, h2, h3, h4, h5⟩ := h
  obtain ⟨o1, o2⟩ := ha.parts h1
  exact ⟨ka, kc, va, vc, ho.at h1 hc, h2.oth ho o1, h3.oth ho o2, h4, h5⟩
/-- The source in block b has gone on to the pair t; nothing else that was there has changed; its slices lie in new blocks, or where they lay. -/
structure Went (w W : World) (b : Nat) (t : KV) (q : Nat) : Prop where
  sr : Sr W b t q
  oth : Oth b w W
  av : ∀ c, c < w.heap.size → Avoid w b c → Avoid W b c
theorem Went.trans {w W V : World} {b : Nat} {t u : KV} {q : Nat} (h : Went w W b t q) (k : Went W V b u q) : Went w V b u q :=
  ⟨k.sr, h.oth.trans k.oth, fun c hc ha => k.av c (Nat.lt_of_lt_of_le hc h.oth.size) (h.av c hc ha)⟩
theorem ll_one (W : World) (u : Value) (l : List Nat) (hs : SK .u8 W u l) (hb : Bb l) (T : TypeId) : LL (W.alloc (.cells #[u] T)) (.slice (some ⟨W.heap.size, 0, none⟩) 1 1) [l] :=
  ll_new W [u] [l] _ _ 1 rfl rfl rfl (fun j hj => by
    match j, hj with
    | 0, _ => exact ⟨_, rfl, hs, hb⟩)
theorem cat1 (l : List Nat) : cat [l] [l].length = l := by simp [cat]
theorem At.set0 {T : TypeId} {W : World} {b : Nat} {x y : Value} {r : List Value} (h : At T W b (x :: r)) : At T (W.setCell ⟨b, 0, none⟩ y) b (y :: r) := h.set 0 y
theorem At.set1 {T : TypeId} {W : World} {b : Nat} {x y z : Value} {r : List Value} (h : At T W b (x :: z :: r)) : At T (W.setCell ⟨b, 1, none⟩ y) b (x :: y :: r) := h.set 1 y
theorem Oth.far {b c : Nat} {w W V : World} (h : Oth b w W) (k : Oth c W V) (hc : w.heap.size ≤ c) : Oth b w V :=
  ⟨k.os.trans h.os, k.tape.trans h.tape, k.output.trans h.output, Nat.le_trans h.size k.size, fun j hj hb => (k.other j (Nat.lt_of_lt_of_le hj h.size) (by omega)).trans (h.other j hj hb)⟩
theorem SK.len {k : IntKind} {w : World} {a : Option Addr} {n c : Nat} {l : List Nat} (h : SK k w (.slice a n c) l) : n = l.length := by
  obtain ⟨a', c', e⟩ := h.shape
  simp only [Value.slice.injEq] at e
  exact e.2.1

set_option maxHeartbeats 2000000 in
theorem draw_any (s : KV) (hs : s.ok) (q : Nat) (w : World) (hg : Gl5 w) (b : Nat) (hb : 2 < b) (hS : Sr w b s q) :
    Calls Tryd.prog 24 #[.pointer (some ⟨b, 0, none⟩)] w fun e w' => e = .returned (four s.num) ∧ Went w w' b s.draw q := by
  obtain ⟨ka, kc, va, vc, hA, hK, hV, oK, oV⟩ := hS
  have c0 := hA.cell 0
  have c1 := hA.cell 1
  simp only [List.getElem?_cons_zero, List.getElem?_cons_succ] at c0 c1
  have kM : Hid (∀ W : World, Below w.heap.size w W → Calls Tryd.prog 41 #[.slice ka 32 kc, .slice (some ⟨W.heap.size, 0, none⟩) 1 1] (W.alloc (.cells #[.slice va 32 vc] 25)) fun e w' => ∃ v, e = .returned v ∧ Own8 W.heap.size w' v (macB s.k s.v) ∧ Below w.heap.size w w' ∧ Below W.heap.size W w') := by
    intro W hW
    have g1 : Below w.heap.size w (W.alloc (.cells #[.slice va 32 vc] 25)) := hW.alloc hW.size _
    have g2 : Below W.heap.size W (W.alloc (.cells #[.slice va 32 vc] 25)) := (Below.refl _ _).alloc (Nat.le_refl _) _
    have h := mac_own s.k hs.kb (by rw [hs.kl]; omega) (.slice ka 32 kc) [s.v] (by simp) (by rw [cat1, hs.vl]; omega) (.slice (some ⟨W.heap.size, 0, none⟩) 1 1) _ (hg.grown g1) (hK.below g1) (ll_one W _ _ (hV.below hW) hs.vb 25)
    rw [cat1] at h
    exact h.mono fun e w' ⟨v, h1, h2, h3⟩ => ⟨v, h1, h2.wider g2.size, g1.trans (h3.mono g1.size), g2.trans (h3.mono g2.size)⟩
  have HA : Hid (At 46 w b (.slice ka 32 kc :: .slice va 32 vc :: fw q)) := hA
  have HK : Hid (SK .u8 w (.slice ka 32 kc) s.k) := hK
  have HO : Hid (Off b (.slice ka 32 kc)) := oK
  have HG : Hid (Gl5 w) := hg
  have hbl : b < w.heap.size := hA.lt
  have hKo : Hid (Off w.heap.size (.slice ka 32 kc)) := hK.off (Nat.le_refl _)
  have kO : Hid (∀ (W : World) (v : Value), SK .u8 W v (macB s.k s.v) → Calls Tryd.prog 14 #[v, .bool true] W fun e w' => e = .returned (.tuple #[four s.num, .int .i64 0]) ∧ Below W.heap.size W w') := fun W v h => of_sk (macB s.k s.v) (macB_length _ _) (macB_bb _ _) v W h
  have hn4 : s.num < M4 := KV.num_lt s
  have hml : (macB s.k s.v).length = 32 := macB_length _ _
  clear hA hK oK hV oV hg hs
  go_enter Tryd.func24, Tryd.ntmps24
  go_wp2_with fail
  refine wp_cut (fun W => Below w.heap.size w W ∧ At 24 W w.heap.size [.int .u64 0, .int .u64 0, .int .u64 0, .int .u64 0]) ⟨(Below.refl _ _).alloc (Nat.le_refl _) _, at_new _ _ _⟩ ?_
  rintro W0 ⟨hB0, hX0⟩
  have B0 : Hid (Below w.heap.size w W0) := hB0
  have X0 : Hid (At 24 W0 w.heap.size [.int .u64 0, .int .u64 0, .int .u64 0, .int .u64 0]) := hX0
  clear hB0 hX0
  have K0 : W0.drew.cell? ⟨b, 0, none⟩ = some (.slice ka 32 kc) ∧ W0.drew.cell? ⟨b, 1, none⟩ = some (.slice va 32 vc) := ⟨(HA.out.below B0.out).drew.cell 0, (HA.out.below B0.out).drew.cell 1⟩
  have K1 : (W0.alloc (.cells #[.slice va 32 vc] 25)).drew.cell? ⟨b, 0, none⟩ = some (.slice ka 32 kc) ∧ (W0.alloc (.cells #[.slice va 32 vc] 25)).drew.cell? ⟨b, 1, none⟩ = some (.slice va 32 vc) := ⟨(HA.out.below (B0.out.alloc B0.out.size _)).cell 0, (HA.out.below (B0.out.alloc B0.out.size _)).cell 1⟩
  refine wp_region_late (L := 13) (S := fun w' => w'.cell? ⟨b, 0, none⟩ = some (.slice ka 32 kc) ∧ w'.cell? ⟨b, 1, none⟩ = some (.slice va 32 vc)) (by kernel_rfl) K0 (fun hHeld => ?_)
  refine l_take 0 (v := ?v0) rfl (by kernel_rfl) (by kernel_rfl) (by kernel_rfl) (by kernel_rfl) (fun _ _ _ h => h) (by rfl) ?hy0 (by assumption) ?_
  case hy0 =>
    intro w' hSw
    try dsimp only at hSw
    go_simp
    try with_reducible rfl
  try simp only [Act.put, List.setIfInBounds_toArray, List.set_cons_zero, List.set_cons_succ]
  refine l_take 1 (v := ?v1) rfl (by kernel_rfl) (by kernel_rfl) (by kernel_rfl) (by kernel_rfl) (fun _ _ _ h => h) (by rfl) ?hy1 (by assumption) ?_
  case hy1 =>
    intro w' hSw
    try dsimp only at hSw
    go_simp
    try with_reducible rfl
  try simp only [Act.put, List.setIfInBounds_toArray, List.set_cons_zero, List.set_cons_succ]
  refine l_take 2 (v := ?v2) rfl (by kernel_rfl) (by kernel_rfl) (by kernel_rfl) (by kernel_rfl) (fun _ _ _ h => h) (by rfl) ?hy2 (by assumption) ?_
  case hy2 =>
    intro w' hSw
    try dsimp only at hSw
    go_simp
    try with_reducible rfl
  try simp only [Act.put, List.setIfInBounds_toArray, List.set_cons_zero, List.set_cons_succ]
  refine l_take 3 (v := ?v3) rfl (by kernel_rfl) (by kernel_rfl) (by kernel_rfl) (by kernel_rfl) (fun _ _ _ h => h) (by rfl) ?hy3 (by assumption) ?_
  case hy3 =>
    intro w' hSw
    try dsimp only at hSw
    go_simp
    try with_reducible rfl
  try simp only [Act.put, List.setIfInBounds_toArray, List.set_cons_zero, List.set_cons_succ]
  refine l_take 4 (v := ?v4) rfl (by kernel_rfl) (by kernel_rfl) (by kernel_rfl) (by kernel_rfl) (fun _ _ _ h => h) (by rfl) ?hy4 (by assumption) ?_
  case hy4 =>
    intro w' hSw
    try dsimp only at hSw
    go_simp
    try with_reducible rfl
  try simp only [Act.put, List.setIfInBounds_toArray, List.set_cons_zero, List.set_cons_succ]
  refine l_take 5 (v := ?v5) rfl (by kernel_rfl) (by kernel_rfl) (by kernel_rfl) (by kernel_rfl) (fun _ _ _ h => h) (by rfl) ?hy5 (by assumption) ?_
  case hy5 =>
    intro w' hSw
    try dsimp only at hSw
    go_simp
    try with_reducible rfl
  try simp only [Act.put, List.setIfInBounds_toArray, List.set_cons_zero, List.set_cons_succ]
  refine l_take 6 (v := ?v6) rfl (by kernel_rfl) (by kernel_rfl) (by kernel_rfl) (by kernel_rfl) (fun _ _ _ h => h) (by rfl) ?hy6 (by assumption) ?_
  case hy6 =>
    intro w' hSw
    try dsimp only at hSw
    go_simp
    try with_reducible rfl
  try simp only [Act.put, List.setIfInBounds_toArray, List.set_cons_zero, List.set_cons_succ]
  refine l_take 7 (v := ?v7) rfl (by kernel_rfl) (by kernel_rfl) (by kernel_rfl) (by kernel_rfl) (fun _ _ _ h => h) (by rfl) ?hy7 (by assumption) ?_
  case hy7 =>
    intro w' hSw
    try dsimp only at hSw
    go_simp
    try with_reducible rfl
  try simp only [Act.put, List.setIfInBounds_toArray, List.set_cons_zero, List.set_cons_succ]
  refine l_take 8 (v := ?v8) rfl (by kernel_rfl) (by kernel_rfl) (by kernel_rfl) (by kernel_rfl) (fun _ _ _ h => h) (by rfl) ?hy8 (by assumption) ?_
  case hy8 =>
    intro w' hSw
    try dsimp only at hSw
    go_simp
    try with_reducible rfl
  try simp only [Act.put, List.setIfInBounds_toArray, List.set_cons_zero, List.set_cons_succ]
  refine l_call 9 rfl (by kernel_rfl) (by rfl) (fun Kk hK => ?_)
  go_simp
  clear hHeld
  refine hK.out _ _ (Or.inr K1) ?_
  have hHeld := K1
  clear hK Kk
  try simp only [Act.put, List.setIfInBounds_toArray, List.set_cons_zero, List.set_cons_succ]
  refine l_call 10 rfl (by kernel_rfl) (by rfl) (fun Kk hK => ?_)
  go_simp
  refine (kM.out W0.drew B0.out.drew).mono ?_
  rintro e W1 ⟨v1, rfl, hO1, hB1, hX1⟩
  obtain ⟨va1, vc1, ev1⟩ := hO1.sk.shape
  rw [hml] at ev1
  subst ev1
  have HA1 : Hid (At 46 W1 b (.slice ka 32 kc :: .slice va 32 vc :: fw q)) := HA.out.below hB1
  have K2 : W1.cell? ⟨b, 0, none⟩ = some (.slice ka 32 kc) ∧ W1.cell? ⟨b, 1, none⟩ = some (.slice va 32 vc) := ⟨HA1.out.cell 0, HA1.out.cell 1⟩
  have O1 : Hid (Own8 W0.heap.size W1 (.slice va1 32 vc1) (macB s.k s.v)) := hO1
  have B1 : Hid (Below w.heap.size w W1) := hB1
  have X1 : Hid (At 24 W1 w.heap.size [.int .u64 0, .int .u64 0, .int .u64 0, .int .u64 0]) := X0.out.drew.below hX1
  have d1 := K2.1
  have d2 := K2.2
  have d3 : W1.frozen? ⟨b, 1, none⟩ = false := HA1.out.free 1
  clear hO1 hB1 hX1 K0 K1 kM
  go_simp
  clear hHeld
  refine hK.out _ _ (Or.inr K2) ?_
  have hHeld := K2
  clear hK Kk
  try simp only [Act.put, List.setIfInBounds_toArray, List.set_cons_zero, List.set_cons_succ]
  refine l_call 11 rfl (by kernel_rfl) (by rfl) (fun Kk hK => ?_)
  go_simp
  clear hHeld
  refine hK.out _ _ (Or.inr K2) ?_
  have hHeld := K2
  clear hK Kk
  try simp only [Act.put, List.setIfInBounds_toArray, List.set_cons_zero, List.set_cons_succ]
  refine l_call 12 rfl (by kernel_rfl) (by rfl) (fun Kk hK => ?_)
  go_simp
  clear hHeld
  refine hK.out _ _ (Or.inr K2) ?_
  have hHeld := K2
  clear hK Kk
  try simp only [Act.put, List.setIfInBounds_toArray, List.set_cons_zero, List.set_cons_succ]
  refine l_call 13 rfl (by kernel_rfl) (by rfl) (fun Kk hK => ?_)
  go_simp
  refine hK.out _ _ (Or.inl rfl) ?_
  clear hK Kk
  try simp only [Act.put, List.setIfInBounds_toArray, List.set_cons_zero, List.set_cons_succ]
  refine l_done (by kernel_rfl) ?_ _
  have hcut : At 46 (W1.setCell ⟨b, 1, none⟩ (.slice va1 32 vc1)) b (.slice ka 32 kc :: .slice va1 32 vc1 :: fw q) ∧ At 24 (W1.setCell ⟨b, 1, none⟩ (.slice va1 32 vc1)) w.heap.size [.int .u64 0, .int .u64 0, .int .u64 0, .int .u64 0] ∧ SK .u8 (W1.setCell ⟨b, 1, none⟩ (.slice va1 32 vc1)) (.slice ka 32 kc) s.k ∧ SK .u8 (W1.setCell ⟨b, 1, none⟩ (.slice va1 32 vc1)) (.slice va1 32 vc1) (macB s.k s.v) ∧ Oth b w (W1.setCell ⟨b, 1, none⟩ (.slice va1 32 vc1)) :=
    ⟨HA1.out.set1, ((Oth.refl b W1).set 1 _).at X1.out (by omega), (HK.out.below B1.out).oth ((Oth.refl b W1).set 1 _) HO.out, O1.out.sk.oth ((Oth.refl b W1).set 1 _) (O1.out.off (Nat.lt_trans hbl X0.out.lt)), (oth_of B1.out b).set 1 _⟩
  have HO1 : Hid (Off b (.slice va1 32 vc1)) := O1.out.off (Nat.lt_trans hbl X0.out.lt)
  have hVo : Hid (Off w.heap.size (.slice va1 32 vc1)) := O1.out.off X0.out.lt
  have hAV : Hid (∀ c, c < w.heap.size → Avoid w b c → Off c (.slice ka 32 kc) ∧ Off c (.slice va1 32 vc1)) := fun c hc ha => ⟨(ha.parts HA.out).1, O1.out.off (Nat.lt_trans hc X0.out.lt)⟩
  clear HA1 X1 O1 B1 d1 d2 d3 K2 HA HK X0 B0 c0 c1 hml hHeld
  obtain ⟨V, hV⟩ : ∃ V, W1.setCell ⟨b, 1, none⟩ (.slice va1 32 vc1) = V := ⟨_, rfl⟩
  rw [hV] at hcut ⊢
  clear hV
  obtain ⟨hA1, hX1, hK1, hV1, hO1⟩ := hcut
  have e1 := hA1.cell 1
  simp only [List.getElem?_cons_zero, List.getElem?_cons_succ] at e1
  have x0 := hX1.cell 0
  have x1 := hX1.cell 1
  have x2 := hX1.cell 2
  have x3 := hX1.cell 3
  have A1 : Hid (At 46 V b (.slice ka 32 kc :: .slice va1 32 vc1 :: fw q)) := hA1
  have X1 : Hid (At 24 V w.heap.size [.int .u64 0, .int .u64 0, .int .u64 0, .int .u64 0]) := hX1
  have HK1 : Hid (SK .u8 V (.slice ka 32 kc) s.k) := hK1
  have HV1 : Hid (SK .u8 V (.slice va1 32 vc1) (macB s.k s.v)) := hV1
  have HO2 : Hid (Oth b w V) := hO1
  clear hA1 hX1 hK1 hV1 hO1
  obtain ⟨n0, n1, n2, n3, -, -, -, -, en, -⟩ := four_open s.num hn4
  rw [en] at kO
  go_wp2_with fail
  refine (kO.out V _ HV1.out).mono ?_
  rintro e W2 ⟨rfl, hB2⟩
  have A2 : Hid (At 46 W2 b (.slice ka 32 kc :: .slice va1 32 vc1 :: fw q)) := A1.out.below hB2
  have X2 : Hid (At 24 W2 w.heap.size [.int .u64 0, .int .u64 0, .int .u64 0, .int .u64 0]) := X1.out.below hB2
  have HK2 : Hid (SK .u8 W2 (.slice ka 32 kc) s.k) := HK1.out.below hB2
  have HV2 : Hid (SK .u8 W2 (.slice va1 32 vc1) (macB s.k s.v)) := HV1.out.below hB2
  have HO3 : Hid (Oth b w W2) := HO2.out.trans (oth_of hB2 b)
  clear hB2 A1 X1 HK1 HV1 HO2 kO e1 x0 x1 x2 x3
  have X3 : Hid (At 24 (W2.alloc (.cells #[.int .u64 n0, .int .u64 n1, .int .u64 n2, .int .u64 n3] 24)) w.heap.size [.int .u64 0, .int .u64 0, .int .u64 0, .int .u64 0]) := X2.out.below ((Below.refl _ _).alloc (Nat.le_refl _) _)
  have x0 := X3.out.cell 0
  have x1 := X3.out.cell 1
  have x2 := X3.out.cell 2
  have x3 := X3.out.cell 3
  simp only [List.getElem?_cons_zero, List.getElem?_cons_succ] at x0 x1 x2 x3
  have y0 := X3.out.free 0
  have y1 := X3.out.free 1
  have y2 := X3.out.free 2
  have y3 := X3.out.free 3
  go_wp2_with fail
  clear x0 x1 x2 x3 y0 y1 y2 y3
  have g3 : Below W2.heap.size W2 (W2.alloc (.cells #[.int .u64 n0, .int .u64 n1, .int .u64 n2, .int .u64 n3] 24)) := (Below.refl _ _).alloc (Nat.le_refl _) _
  have hF := (((((Oth.refl w.heap.size (W2.alloc (.cells #[.int .u64 n0, .int .u64 n1, .int .u64 n2, .int .u64 n3] 24))).set 0 (.int .u64 n0)).set 1 (.int .u64 n1)).set 2 (.int .u64 n2)).set 3 (.int .u64 n3))
  refine body_cut' (fun F => At 24 F w.heap.size [.int .u64 n0, .int .u64 n1, .int .u64 n2, .int .u64 n3] ∧ Went w F b s.draw q)
    ⟨(((X3.out.set 0 _).set 1 _).set 2 _).set 3 _,
      ⟨⟨ka, kc, va1, vc1, hF.at (A2.out.below g3) (by omega), (HK2.out.below g3).oth hF hKo.out, (HV2.out.below g3).oth hF hVo.out, HO.out, HO1.out⟩,
      (HO3.out.trans (oth_of g3 b)).far hF (Nat.le_refl _), fun c hc ha => avoid_at (hF.at (A2.out.below g3) (by omega)) (hAV.out c hc ha).1 (hAV.out c hc ha).2⟩⟩ ?_
  rintro F ⟨hX, hS⟩
  exact bodyPost_ret (v := .agg #[.int .u64 n0, .int .u64 n1, .int .u64 n2, .int .u64 n3]) (results_mid (Tryd.results24) _ F w.heap.size 0 [.int .u64 n0, .int .u64 n1, .int .u64 n2, .int .u64 n3] _ rfl hX.range Tryd.underlying24 rfl (by kernel_rfl)) rfl ⟨by rw [en], hS⟩
end Go.Proofs.YtlpmbhneffdcfaaDoor

/-
  The contract of mix of layer 8. Conditions: as the theorem says.
-/
namespace Go.Proofs.YtlpmbhneffdcfaaDoor
open Go.RowKit
set_option linter.unusedVariables false
set_option linter.unusedSimpArgs false

theorem cat_flat (ls : List (List Nat)) : ∀ j, cat ls j = (ls.take j).flatten
  | 0 => by simp [cat]
  | j + 1 => by
    have h := cat_flat ls j
    show cat ls j ++ ls.getD j [] = _
    rw [h]
    by_cases hj : j < ls.length
    · rw [List.take_succ_eq_append_getElem hj, List.flatten_append]
      congr 1
      simp [List.getD_eq_getElem?_getD, hj]
    · rw [List.take_of_length_le (by omega), List.take_of_length_le (by omega)]
      simp [List.getD_eq_getElem?_getD, List.getElem?_eq_none (show ls.length ≤ j by omega)]
theorem cat_all (ls : List (List Nat)) : cat ls ls.length = ls.flatten := by rw [cat_flat, List.take_length]
/-- Slices that lie in a row, and the bytes that they lead to. -/
structure Rows8 (W : World) (us : List Value) (ls : List (List Nat)) : Prop where
  len : us.length = ls.length
  get : ∀ j, j < ls.length → ∃ u, us[j]? = some u ∧ SK .u8 W u (ls.getD j []) ∧ Bb (ls.getD j [])
theorem Rows8.below {W W' : World} {us : List Value} {ls : List (List Nat)} (h : Rows8 W us ls) (hb : Below W.heap.size W W') : Rows8 W' us ls :=
  ⟨h.len, fun j hj => by obtain ⟨u, h1, h2, h3⟩ := h.get j hj; exact ⟨u, h1, h2.below hb, h3⟩⟩
theorem Rows8.nil (W : World) : Rows8 W [] [] := ⟨rfl, fun j hj => by simp at hj⟩
theorem Rows8.cons {W : World} {us : List Value} {ls : List (List Nat)} {u : Value} {l : List Nat} (h : Rows8 W us ls) (h1 : SK .u8 W u l) (h2 : Bb l) : Rows8 W (u :: us) (l :: ls) := by
  refine ⟨by simp [h.len], fun j hj => ?_⟩
  cases j with
  | zero => exact ⟨u, rfl, h1, h2⟩
  | succ j =>
    obtain ⟨x, k1, k2, k3⟩ := h.get j (by simpa using hj)
    exact ⟨x, by simpa using k1, by simpa using k2, by simpa using k3⟩
theorem Rows8.one {W : World} {us : List Value} {ls : List (List Nat)} (h : Rows8 W us ls) : ∀ u ∈ us, u.oneCell' = true := by
  intro u hu
  obtain ⟨j, hj, rfl⟩ := List.getElem_of_mem hu
  obtain ⟨x, k1, k2, -⟩ := h.get j (by rw [← h.len]; exact hj)
  rw [List.getElem?_eq_getElem hj] at k1
  obtain rfl := Option.some.inj k1
  obtain ⟨a, c, e⟩ := k2.shape
  rw [e]; rfl
theorem Rows8.ll {W : World} {us : List Value} {ls : List (List Nat)} (h : Rows8 W us ls) {base : Nat} {v : Value} (hn : 0 < ls.length) (hown : W.ownsRow base 25 1 v us.length us) : LL W v ls := by
  obtain ⟨h1, h2⟩ := hown
  rcases h2 with ⟨-, e0⟩ | ⟨g, cap, cur, e, hg, hh, hc, hm, hs, ht⟩
  · rw [h.len] at e0; omega
  · refine ⟨some ⟨g, 0, none⟩, cap, by rw [e, h.len], by rw [← h.len]; exact hc, fun j hj => ?_⟩
    obtain ⟨u, k1, k2, k3⟩ := h.get j hj
    refine ⟨g, 0, u, rfl, (Array.getElem?_eq_some_iff.1 hh).1, ?_, k2, k3⟩
    have k4 : cur.toList[j]? = some u := by
      rw [← ht, List.getElem?_take] at k1
      split at k1
      · exact k1
      · cases k1
    simp only [World.cell?, hh, Nat.zero_add]
    simpa using k4
/-- What may stand for the last parameter: no slice, or one of a row of its own length. -/
def Parts (W : World) (v : Value) (us : List Value) : Prop :=
  (v = .slice none 0 0 ∧ us = []) ∨ ∃ g o, v = .slice (some ⟨g, o, none⟩) us.length us.length ∧ g < W.heap.size ∧ ∀ j u, us[j]? = some u → W.cell? ⟨g, o + j, none⟩ = some u
theorem Parts.below {W W' : World} {v : Value} {us : List Value} (h : Parts W v us) (hb : Below W.heap.size W W') : Parts W' v us := by
  rcases h with h | ⟨g, o, h1, h2, h3⟩
  · exact Or.inl h
  · exact Or.inr ⟨g, o, h1, Nat.lt_of_lt_of_le h2 hb.size, fun j u hj => (hb.cell (p := ⟨g, o + j, none⟩) h2).trans (h3 j u hj)⟩
theorem info_rows : (Tryd.prog.info? 25).map (fun i => (i.zero, i.size, i.bytes)) = some (some (.slice none 0 0), 1, 24) := by kernel_rfl
/-- 'append(own, parts...)' of slices. -/
theorem wp_rows {o : Oper} {a : Act} {K : Act → World → Prop} {Q : Exit → Act → World → Prop} {wr : World} (s x : Operand)
    (ho : o.op = .call { callee := .builtin .append, args := #[s, x], argTypes := #[84, 84] })
    (base : Nat) (v : Value) (vs : List Value) (hs : a.eval s = v) (hown : wr.ownsRow base 25 1 v vs.length vs)
    (vx : Value) (us : List Value) (hx : a.eval x = vx) (hX : Parts wr vx us) (h1 : ∀ u ∈ us, u.oneCell' = true) (hlen : vs.length + us.length ≤ 1000) (hbase : base ≤ wr.heap.size)
    (h : ∀ v' w', w'.ownsRow base 25 1 v' (vs ++ us).length (vs ++ us) → Below base wr w' → K (a.put o.dst v') w') : Oper.wp Tryd.prog o a wr K Q := by
  obtain ⟨i0, hi, hz0, hz1, hz2⟩ := info_parts info_rows
  rcases hX with ⟨e, rfl⟩ | ⟨g, off, e, hg, hc⟩
  · have hrun := run_append_owned_none (P := Tryd.prog) (w := wr) base 84 o.type 25 i0 1 Tryd.underlying84 hi v vs.length vs hown
    unfold Oper.wp
    simp [execOp, ho, resolve, invoke, builtin, hs, hx, e, hrun, Result.andThen]
    exact h v wr (by rw [List.append_nil]; exact hown) (Below.refl _ _)
  · refine wp_append_own wr s x 84 ho base 25 i0 (.slice none 0 0) 1 24 Tryd.underlying84 hi hz0 hz1 hz2 rfl (by decide) v vs.length vs hs hown ⟨g, off, none⟩ us.length us.length us (by rw [hx, e]) (by simp) ?_ h1 (by unfold maxLen; omega) (by omega) hbase ?_
    · intro j u hj
      rw [Addr.add_mid]; exact hc j u hj
    · intro v' w' k1 k2 _
      refine h v' w' (by rw [List.length_append]; exact k1) ?_
      refine Below.grown (Below.refl _ _) k2 hbase ?_
      intro k hk
      rcases hown.2 with ⟨e', _⟩ | ⟨g', cap, cur, e', hg', _⟩
      · rw [e'] at hk; simp [Value.ownBlock] at hk
      · rw [e'] at hk; simp [Value.ownBlock] at hk; omega

set_option maxRecDepth 100000 in
set_option maxHeartbeats 4000000 in
theorem mix_any (s : KV) (hs : s.ok) (q : Nat) (w : World) (hg : Gl5 w) (b : Nat) (hb : 2 < b) (hS : Sr w b s q) (m : Nat) (hm : m < 256) (v2 : Value) (us : List Value) (ls : List (List Nat)) (hP : Parts w v2 us) (hR : Rows8 w us ls) (hl : ls.length ≤ 100) (hf : ls.flatten.length ≤ 10000) :
    Calls Tryd.prog 17 #[.pointer (some ⟨b, 0, none⟩), .int .u8 (m : Int), v2] w fun e w' => e = .returned (.tuple #[]) ∧ Went w w' b (s.mix (m :: ls.flatten)) q := by
  obtain ⟨ka, kc, va, vc, hA, hK, hV, oK, oV⟩ := hS
  have HA : Hid (At 46 w b (.slice ka 32 kc :: .slice va 32 vc :: fw q)) := hA
  have HK : Hid (SK .u8 w (.slice ka 32 kc) s.k) := hK
  have HV : Hid (SK .u8 w (.slice va 32 vc) s.v) := hV
  have HO : Hid (Off b (.slice ka 32 kc)) := oK
  have HOV : Hid (Off b (.slice va 32 vc)) := oV
  have HG : Hid (Gl5 w) := hg
  have hbl : b < w.heap.size := hA.lt
  have HP : Hid (Parts w v2 us) := hP
  have HR : Hid (Rows8 w us ls) := hR
  have hmb : Bb [m] := fun j => by
    match j with
    | 0 => exact hm
    | n + 1 => exact (by decide : (0 : Nat) < 256)
  have hsum : Hid (([s.v, [m]] ++ ls).flatten = s.v ++ (m :: ls.flatten)) := by unfold Hid; simp
  have hk2 : Hid ((macB s.k (s.v ++ (m :: ls.flatten))).length = 32) := macB_length _ _
  obtain ⟨k2, hk2e⟩ : ∃ k, macB s.k (s.v ++ (m :: ls.flatten)) = k := ⟨_, rfl⟩
  have hk2b : Hid (Bb k2) := by rw [← hk2e]; exact macB_bb _ _
  -- the sum under K of what lies in the appended row
  have kM : Hid (∀ (W : World) (v : Value), Below w.heap.size w W → LL W v ([s.v, [m]] ++ ls) → Calls Tryd.prog 41 #[.slice ka 32 kc, v] W fun e w' => ∃ v, e = .returned v ∧ Own8 W.heap.size w' v k2 ∧ Below W.heap.size W w') := by
    intro W v h1 h2
    have h := mac_own s.k hs.kb (by rw [hs.kl]; omega) (.slice ka 32 kc) ([s.v, [m]] ++ ls) (by simp; omega) (by rw [cat_all, hsum.out, List.length_append, List.length_cons, hs.vl]; omega) v W (hg.grown h1) (hK.below h1) h2
    rw [cat_all, hsum.out, hk2e] at h
    exact h
  have kN : Hid (∀ W : World, Gl5 W → ∀ a c a' c', SK .u8 W (.slice a 32 c) k2 → SK .u8 W (.slice a' 32 c') s.v → Calls Tryd.prog 41 #[.slice a 32 c, .slice (some ⟨W.heap.size, 0, none⟩) 1 1] (W.alloc (.cells #[.slice a' 32 c'] 25)) fun e w' => ∃ v, e = .returned v ∧ Own8 W.heap.size w' v (macB k2 s.v) ∧ Below W.heap.size W w') := by
    intro W hW a c a' c' h1 h2
    have g2 : Below W.heap.size W (W.alloc (.cells #[.slice a' 32 c'] 25)) := (Below.refl _ _).alloc (Nat.le_refl _) _
    have h := mac_own k2 hk2b.out (by rw [← hk2e, hk2.out]; omega) (.slice a 32 c) [s.v] (by simp) (by rw [cat1, hs.vl]; omega) (.slice (some ⟨W.heap.size, 0, none⟩) 1 1) _ (hW.grown g2) (h1.below g2) (ll_one W _ _ h2 hs.vb 25)
    rw [cat1] at h
    exact h.mono fun e w' ⟨v, h1, h2, h3⟩ => ⟨v, h1, h2.wider g2.size, g2.trans (h3.mono g2.size)⟩
  have hmix : Hid (s.mix (m :: ls.flatten) = ⟨k2, macB k2 s.v⟩) := by rw [← hk2e]; rfl
  rw [hk2e] at hk2
  rw [hmix.out]
  have g1 : Below w.heap.size w (w.alloc (.cells #[.int .u8 (m : Int)] 5)) := (Below.refl _ _).alloc (Nat.le_refl _) _
  have g2 : Below w.heap.size w (((w.alloc (.cells #[.int .u8 (m : Int)] 5)).alloc (.cells #[.slice va 32 vc, .slice (some ⟨w.heap.size, 0, none⟩) 1 1] 25)).drew) := (g1.alloc g1.size _).drew
  have hR2 : Hid ((((w.alloc (.cells #[.int .u8 (m : Int)] 5)).alloc (.cells #[.slice va 32 vc, .slice (some ⟨w.heap.size, 0, none⟩) 1 1] 25)).drew).ownsRow (w.heap.size + 1) 25 1 (.slice (some ⟨w.heap.size + 1, 0, none⟩) 2 2) ([.slice va 32 vc, (.slice (some ⟨w.heap.size, 0, none⟩) 1 1)] : List Value).length [.slice va 32 vc, (.slice (some ⟨w.heap.size, 0, none⟩) 1 1)]) := by
    have h := World.ownsRow_lit (base := w.heap.size + 1) (e := 25) (size := 1) (w.alloc (.cells #[.int .u8 (m : Int)] 5)) #[.slice va 32 vc, (.slice (some ⟨w.heap.size, 0, none⟩) 1 1)] 2 (by simp) (by unfold maxLen; omega) (by simp)
    have e : (w.alloc (.cells #[.int .u8 (m : Int)] 5)).heap.size = w.heap.size + 1 := by simp
    rw [e] at h
    exact h
  have hM1 : Hid (SK .u8 (w.alloc (.cells #[.int .u8 (m : Int)] 5)) (.slice (some ⟨w.heap.size, 0, none⟩) 1 1) [m]) := (Row.newA (k := .u8) w #[.int .u8 (m : Int)] [m] 5 rfl).sk
  have hVB : Hid (Below (w.alloc (.cells #[.int .u8 (m : Int)] 5)).heap.size (w.alloc (.cells #[.int .u8 (m : Int)] 5)) (((w.alloc (.cells #[.int .u8 (m : Int)] 5)).alloc (.cells #[.slice va 32 vc, .slice (some ⟨w.heap.size, 0, none⟩) 1 1] 25)).drew)) := ((Below.refl _ _).alloc (Nat.le_refl _) _).drew
  have hVs : (w.alloc (.cells #[.int .u8 (m : Int)] 5)).heap.size = w.heap.size + 1 := by simp
  have K0 : w.drew.cell? ⟨b, 0, none⟩ = some (.slice ka 32 kc) ∧ w.drew.cell? ⟨b, 1, none⟩ = some (.slice va 32 vc) := ⟨hA.drew.cell 0, hA.drew.cell 1⟩
  have K1 : (w.alloc (.cells #[.int .u8 (m : Int)] 5)).drew.cell? ⟨b, 0, none⟩ = some (.slice ka 32 kc) ∧ (w.alloc (.cells #[.int .u8 (m : Int)] 5)).drew.cell? ⟨b, 1, none⟩ = some (.slice va 32 vc) := ⟨(hA.below g1).cell 0, (hA.below g1).cell 1⟩
  have K2 : (((w.alloc (.cells #[.int .u8 (m : Int)] 5)).alloc (.cells #[.slice va 32 vc, .slice (some ⟨w.heap.size, 0, none⟩) 1 1] 25)).drew).cell? ⟨b, 0, none⟩ = some (.slice ka 32 kc) ∧ (((w.alloc (.cells #[.int .u8 (m : Int)] 5)).alloc (.cells #[.slice va 32 vc, .slice (some ⟨w.heap.size, 0, none⟩) 1 1] 25)).drew).cell? ⟨b, 1, none⟩ = some (.slice va 32 vc) := ⟨(hA.below g2).cell 0, (hA.below g2).cell 1⟩
  have HB2 : Hid (Below w.heap.size w (((w.alloc (.cells #[.int .u8 (m : Int)] 5)).alloc (.cells #[.slice va 32 vc, .slice (some ⟨w.heap.size, 0, none⟩) 1 1] 25)).drew)) := g2
  have hmb' : Hid (Bb [m]) := hmb
  have hvb : Hid (Bb s.v) := hs.vb
  have hll : Hid (ls.length ≤ 100) := hl
  clear hA hK hV oK oV hg hP hR hmb g1 g2 hs hl hf hm hk2e hmix hsum
  go_enter Tryd.func17, Tryd.ntmps17
  go_wp2_with fail
  refine wp_region_late (L := 17) (S := fun w' => w'.cell? ⟨b, 0, none⟩ = some (.slice ka 32 kc) ∧ w'.cell? ⟨b, 1, none⟩ = some (.slice va 32 vc)) (by kernel_rfl) K0 (fun hHeld => ?_)
  refine l_take 0 (v := ?v0) rfl (by kernel_rfl) (by kernel_rfl) (by kernel_rfl) (by kernel_rfl) (fun _ _ _ h => h) (by rfl) ?hy0 (by assumption) ?_
  case hy0 =>
    intro w' hSw
    try dsimp only at hSw
    go_simp
    try with_reducible rfl
  try simp only [Act.put, List.setIfInBounds_toArray, List.set_cons_zero, List.set_cons_succ]
  refine l_take 1 (v := ?v1) rfl (by kernel_rfl) (by kernel_rfl) (by kernel_rfl) (by kernel_rfl) (fun _ _ _ h => h) (by rfl) ?hy1 (by assumption) ?_
  case hy1 =>
    intro w' hSw
    try dsimp only at hSw
    go_simp
    try with_reducible rfl
  try simp only [Act.put, List.setIfInBounds_toArray, List.set_cons_zero, List.set_cons_succ]
  refine l_take 2 (v := ?v2) rfl (by kernel_rfl) (by kernel_rfl) (by kernel_rfl) (by kernel_rfl) (fun _ _ _ h => h) (by rfl) ?hy2 (by assumption) ?_
  case hy2 =>
    intro w' hSw
    try dsimp only at hSw
    go_simp
    try with_reducible rfl
  try simp only [Act.put, List.setIfInBounds_toArray, List.set_cons_zero, List.set_cons_succ]
  refine l_take 3 (v := ?v3) rfl (by kernel_rfl) (by kernel_rfl) (by kernel_rfl) (by kernel_rfl) (fun _ _ _ h => h) (by rfl) ?hy3 (by assumption) ?_
  case hy3 =>
    intro w' hSw
    try dsimp only at hSw
    go_simp
    try with_reducible rfl
  try simp only [Act.put, List.setIfInBounds_toArray, List.set_cons_zero, List.set_cons_succ]
  refine l_take 4 (v := ?v4) rfl (by kernel_rfl) (by kernel_rfl) (by kernel_rfl) (by kernel_rfl) (fun _ _ _ h => h) (by rfl) ?hy4 (by assumption) ?_
  case hy4 =>
    intro w' hSw
    try dsimp only at hSw
    go_simp
    try with_reducible rfl
  try simp only [Act.put, List.setIfInBounds_toArray, List.set_cons_zero, List.set_cons_succ]
  refine l_take 5 (v := ?v5) rfl (by kernel_rfl) (by kernel_rfl) (by kernel_rfl) (by kernel_rfl) (fun _ _ _ h => h) (by rfl) ?hy5 (by assumption) ?_
  case hy5 =>
    intro w' hSw
    try dsimp only at hSw
    go_simp
    try with_reducible rfl
  try simp only [Act.put, List.setIfInBounds_toArray, List.set_cons_zero, List.set_cons_succ]
  refine l_take 6 (v := ?v6) rfl (by kernel_rfl) (by kernel_rfl) (by kernel_rfl) (by kernel_rfl) (fun _ _ _ h => h) (by rfl) ?hy6 (by assumption) ?_
  case hy6 =>
    intro w' hSw
    try dsimp only at hSw
    go_simp
    try with_reducible rfl
  try simp only [Act.put, List.setIfInBounds_toArray, List.set_cons_zero, List.set_cons_succ]
  refine l_take 7 (v := ?v7) rfl (by kernel_rfl) (by kernel_rfl) (by kernel_rfl) (by kernel_rfl) (fun _ _ _ h => h) (by rfl) ?hy7 (by assumption) ?_
  case hy7 =>
    intro w' hSw
    try dsimp only at hSw
    go_simp
    try with_reducible rfl
  try simp only [Act.put, List.setIfInBounds_toArray, List.set_cons_zero, List.set_cons_succ]
  refine l_take 8 (v := ?v8) rfl (by kernel_rfl) (by kernel_rfl) (by kernel_rfl) (by kernel_rfl) (fun _ _ _ h => h) (by rfl) ?hy8 (by assumption) ?_
  case hy8 =>
    intro w' hSw
    try dsimp only at hSw
    go_simp
    try with_reducible rfl
  try simp only [Act.put, List.setIfInBounds_toArray, List.set_cons_zero, List.set_cons_succ]
  refine l_take 9 (v := ?v9) rfl (by kernel_rfl) (by kernel_rfl) (by kernel_rfl) (by kernel_rfl) (fun _ _ _ h => h) (by rfl) ?hy9 (by assumption) ?_
  case hy9 =>
    intro w' hSw
    try dsimp only at hSw
    go_simp
    try with_reducible rfl
  try simp only [Act.put, List.setIfInBounds_toArray, List.set_cons_zero, List.set_cons_succ]
  refine l_take 12 (v := ?v12) rfl (by kernel_rfl) (by kernel_rfl) (by kernel_rfl) (by kernel_rfl) (fun _ _ _ h => h) (by rfl) ?hy12 (by assumption) ?_
  case hy12 =>
    intro w' hSw
    try dsimp only at hSw
    go_simp
    try with_reducible rfl
  try simp only [Act.put, List.setIfInBounds_toArray, List.set_cons_zero, List.set_cons_succ]
  refine l_call 10 rfl (by kernel_rfl) (by rfl) (fun Kk hK => ?_)
  go_simp
  clear hHeld
  refine hK.out _ _ (Or.inr K1) ?_
  have hHeld := K1
  clear hK Kk
  try simp only [Act.put, List.setIfInBounds_toArray, List.set_cons_zero, List.set_cons_succ]
  refine l_call 11 rfl (by kernel_rfl) (by rfl) (fun Kk hK => ?_)
  go_simp
  clear hHeld
  refine hK.out _ _ (Or.inr K2) ?_
  have hHeld := K2
  clear hK Kk
  try simp only [Act.put, List.setIfInBounds_toArray, List.set_cons_zero, List.set_cons_succ]
  refine l_call 13 rfl (by kernel_rfl) (by rfl) (fun Kk hK => ?_)
  refine wp_rows _ _ (by rfl) (w.heap.size + 1) _ [.slice va 32 vc, (.slice (some ⟨w.heap.size, 0, none⟩) 1 1)] (by rfl) hR2.out _ us (by rfl) (HP.out.below HB2.out) HR.out.one (by have := HR.out.len; have := hll.out; simp; omega) (Nat.le_trans (Nat.le_of_eq hVs.symm) hVB.out.size) ?_
  intro v3 W3 hown3 hb3
  have B3 : Hid (Below w.heap.size w W3) := HB2.out.trans (hb3.mono (Nat.le_succ _))
  have R3 : Hid (LL W3 v3 ([s.v, [m]] ++ ls)) := (((HR.out.below B3.out).cons (hM1.out.below (hVB.out.trans (hb3.mono (Nat.le_of_eq hVs)))) hmb'.out).cons (HV.out.below B3.out) hvb.out).ll (by simp) hown3
  have K3 : W3.cell? ⟨b, 0, none⟩ = some (.slice ka 32 kc) ∧ W3.cell? ⟨b, 1, none⟩ = some (.slice va 32 vc) := ⟨(HA.out.below B3.out).cell 0, (HA.out.below B3.out).cell 1⟩
  clear hown3 hb3
  clear hHeld
  refine hK.out _ _ (Or.inr K3) ?_
  have hHeld := K3
  clear hK Kk
  try simp only [Act.put, List.setIfInBounds_toArray, List.set_cons_zero, List.set_cons_succ]
  refine l_call 14 rfl (by kernel_rfl) (by rfl) (fun Kk hK => ?_)
  go_simp
  refine (kM.out W3 v3 B3.out R3.out).mono ?_
  rintro e W4 ⟨v4, rfl, hO4, hB4⟩
  obtain ⟨a4, c4, e4⟩ := hO4.sk.shape
  rw [hk2.out] at e4
  subst e4
  have B4 : Hid (Below w.heap.size w W4) := B3.out.trans (hB4.mono B3.out.size)
  have A4 : Hid (At 46 W4 b (.slice ka 32 kc :: .slice va 32 vc :: fw q)) := HA.out.below B4.out
  have K4 : W4.cell? ⟨b, 0, none⟩ = some (.slice ka 32 kc) ∧ W4.cell? ⟨b, 1, none⟩ = some (.slice va 32 vc) := ⟨A4.out.cell 0, A4.out.cell 1⟩
  have d1 := K4.1
  have d2 := K4.2
  have d3 : W4.frozen? ⟨b, 0, none⟩ = false := A4.out.free 0
  have O4 : Hid (Own8 W3.heap.size W4 (.slice a4 32 c4) k2) := hO4
  have hbW : b < W3.heap.size := Nat.lt_of_lt_of_le hbl B3.out.size
  clear hO4 hB4 K0 K1 K2 K3 kM R3
  go_simp
  clear hHeld
  refine hK.out _ _ (Or.inr K4) ?_
  have hHeld := K4
  clear hK Kk
  try simp only [Act.put, List.setIfInBounds_toArray, List.set_cons_zero, List.set_cons_succ]
  refine l_call 15 rfl (by kernel_rfl) (by rfl) (fun Kk hK => ?_)
  go_simp
  clear hHeld
  refine hK.out _ _ (Or.inr K4) ?_
  have hHeld := K4
  clear hK Kk
  try simp only [Act.put, List.setIfInBounds_toArray, List.set_cons_zero, List.set_cons_succ]
  refine l_call 16 rfl (by kernel_rfl) (by rfl) (fun Kk hK => ?_)
  go_simp
  clear hHeld
  refine hK.out _ _ (Or.inr K4) ?_
  have hHeld := K4
  clear hK Kk
  try simp only [Act.put, List.setIfInBounds_toArray, List.set_cons_zero, List.set_cons_succ]
  refine l_call 17 rfl (by kernel_rfl) (by rfl) (fun Kk hK => ?_)
  go_simp
  refine hK.out _ _ (Or.inl rfl) ?_
  clear hK Kk
  try simp only [Act.put, List.setIfInBounds_toArray, List.set_cons_zero, List.set_cons_succ]
  refine l_done (by kernel_rfl) ?_ _
  have hcut : At 46 (W4.setCell ⟨b, 0, none⟩ (.slice a4 32 c4)) b (.slice a4 32 c4 :: .slice va 32 vc :: fw q) ∧ SK .u8 (W4.setCell ⟨b, 0, none⟩ (.slice a4 32 c4)) (.slice a4 32 c4) k2 ∧ SK .u8 (W4.setCell ⟨b, 0, none⟩ (.slice a4 32 c4)) (.slice va 32 vc) s.v ∧ Oth b w (W4.setCell ⟨b, 0, none⟩ (.slice a4 32 c4)) :=
    ⟨A4.out.set0, O4.out.sk.oth ((Oth.refl b W4).set 0 _) (O4.out.off hbW), (HV.out.below B4.out).oth ((Oth.refl b W4).set 0 _) HOV.out, (oth_of B4.out b).set 0 _⟩
  have HO4 : Hid (Off b (.slice a4 32 c4)) := O4.out.off hbW
  have hAV : Hid (∀ c, c < w.heap.size → Off c (.slice a4 32 c4)) := fun c hc => O4.out.off (Nat.lt_of_lt_of_le hc B3.out.size)
  clear A4 O4 B4 B3 d1 d2 d3 K4 hHeld HA HK HV HP HR hR2 hM1 hVB hVs HB2 hmb' hvb hll hbW HO HOV
  obtain ⟨V, hV⟩ : ∃ V, W4.setCell ⟨b, 0, none⟩ (.slice a4 32 c4) = V := ⟨_, rfl⟩
  rw [hV] at hcut ⊢
  clear hV
  obtain ⟨hA, hK, hV, hO⟩ := hcut
  have HG' : Hid (Gl5 V) := hO.gl HG.out hb
  have hbV : b < V.heap.size := hA.lt
  have K0 : V.drew.cell? ⟨b, 0, none⟩ = some (.slice a4 32 c4) ∧ V.drew.cell? ⟨b, 1, none⟩ = some (.slice va 32 vc) := ⟨hA.drew.cell 0, hA.drew.cell 1⟩
  have g1 : Below V.heap.size V ((V.alloc (.cells #[.slice va 32 vc] 25)).drew) := ((Below.refl _ _).alloc (Nat.le_refl _) _).drew
  have K1 : (V.alloc (.cells #[.slice va 32 vc] 25)).drew.cell? ⟨b, 0, none⟩ = some (.slice a4 32 c4) ∧ (V.alloc (.cells #[.slice va 32 vc] 25)).drew.cell? ⟨b, 1, none⟩ = some (.slice va 32 vc) := ⟨(hA.below g1).cell 0, (hA.below g1).cell 1⟩
  have kS := kN.out V.drew (HG'.out.grown (Below.refl _ _).drew) a4 c4 va vc (hK.below (Below.refl _ _).drew) (hV.below (Below.refl _ _).drew)
  have KS : Hid (Calls Tryd.prog 41 #[.slice a4 32 c4, .slice (some ⟨V.heap.size, 0, none⟩) 1 1] (V.drew.alloc (.cells #[.slice va 32 vc] 25)) fun e w' => ∃ v, e = .returned v ∧ Own8 V.heap.size w' v (macB k2 s.v) ∧ Below V.heap.size V w') := kS.mono fun e w' ⟨v, h1, h2, h3⟩ => ⟨v, h1, h2, (Below.refl _ _).drew.trans h3⟩
  have HA : Hid (At 46 V b (.slice a4 32 c4 :: .slice va 32 vc :: fw q)) := hA
  have HK : Hid (SK .u8 V (.slice a4 32 c4) k2) := hK
  have HOV : Hid (Oth b w V) := hO
  have hml : Hid ((macB k2 s.v).length = 32) := macB_length _ _
  clear hA hK hV hO kN kS g1 HG' HG
  go_wp2_with fail
  refine wp_region_late (L := 13) (S := fun w' => w'.cell? ⟨b, 0, none⟩ = some (.slice a4 32 c4) ∧ w'.cell? ⟨b, 1, none⟩ = some (.slice va 32 vc)) (by kernel_rfl) K0 (fun hHeld => ?_)
  refine l_take 0 (v := ?vq0) rfl (by kernel_rfl) (by kernel_rfl) (by kernel_rfl) (by kernel_rfl) l_body (by rfl) ?hyq0 (by assumption) ?_
  case hyq0 =>
    intro w' hSw
    try dsimp only at hSw
    go_simp
    try with_reducible rfl
  try simp only [Act.put, List.setIfInBounds_toArray, List.set_cons_zero, List.set_cons_succ]
  refine l_take 1 (v := ?vq1) rfl (by kernel_rfl) (by kernel_rfl) (by kernel_rfl) (by kernel_rfl) l_body (by rfl) ?hyq1 (by assumption) ?_
  case hyq1 =>
    intro w' hSw
    try dsimp only at hSw
    go_simp
    try with_reducible rfl
  try simp only [Act.put, List.setIfInBounds_toArray, List.set_cons_zero, List.set_cons_succ]
  refine l_take 2 (v := ?vq2) rfl (by kernel_rfl) (by kernel_rfl) (by kernel_rfl) (by kernel_rfl) l_body (by rfl) ?hyq2 (by assumption) ?_
  case hyq2 =>
    intro w' hSw
    try dsimp only at hSw
    go_simp
    try with_reducible rfl
  try simp only [Act.put, List.setIfInBounds_toArray, List.set_cons_zero, List.set_cons_succ]
  refine l_take 3 (v := ?vq3) rfl (by kernel_rfl) (by kernel_rfl) (by kernel_rfl) (by kernel_rfl) l_body (by rfl) ?hyq3 (by assumption) ?_
  case hyq3 =>
    intro w' hSw
    try dsimp only at hSw
    go_simp
    try with_reducible rfl
  try simp only [Act.put, List.setIfInBounds_toArray, List.set_cons_zero, List.set_cons_succ]
  refine l_take 4 (v := ?vq4) rfl (by kernel_rfl) (by kernel_rfl) (by kernel_rfl) (by kernel_rfl) l_body (by rfl) ?hyq4 (by assumption) ?_
  case hyq4 =>
    intro w' hSw
    try dsimp only at hSw
    go_simp
    try with_reducible rfl
  try simp only [Act.put, List.setIfInBounds_toArray, List.set_cons_zero, List.set_cons_succ]
  refine l_take 5 (v := ?vq5) rfl (by kernel_rfl) (by kernel_rfl) (by kernel_rfl) (by kernel_rfl) l_body (by rfl) ?hyq5 (by assumption) ?_
  case hyq5 =>
    intro w' hSw
    try dsimp only at hSw
    go_simp
    try with_reducible rfl
  try simp only [Act.put, List.setIfInBounds_toArray, List.set_cons_zero, List.set_cons_succ]
  refine l_take 6 (v := ?vq6) rfl (by kernel_rfl) (by kernel_rfl) (by kernel_rfl) (by kernel_rfl) l_body (by rfl) ?hyq6 (by assumption) ?_
  case hyq6 =>
    intro w' hSw
    try dsimp only at hSw
    go_simp
    try with_reducible rfl
  try simp only [Act.put, List.setIfInBounds_toArray, List.set_cons_zero, List.set_cons_succ]
  refine l_take 7 (v := ?vq7) rfl (by kernel_rfl) (by kernel_rfl) (by kernel_rfl) (by kernel_rfl) l_body (by rfl) ?hyq7 (by assumption) ?_
  case hyq7 =>
    intro w' hSw
    try dsimp only at hSw
    go_simp
    try with_reducible rfl
  try simp only [Act.put, List.setIfInBounds_toArray, List.set_cons_zero, List.set_cons_succ]
  refine l_take 8 (v := ?vq8) rfl (by kernel_rfl) (by kernel_rfl) (by kernel_rfl) (by kernel_rfl) l_body (by rfl) ?hyq8 (by assumption) ?_
  case hyq8 =>
    intro w' hSw
    try dsimp only at hSw
    go_simp
    try with_reducible rfl
  try simp only [Act.put, List.setIfInBounds_toArray, List.set_cons_zero, List.set_cons_succ]
  refine l_call 9 rfl (by kernel_rfl) (by rfl) (fun Kk hK => ?_)
  go_simp
  clear hHeld
  refine hK.out _ _ (Or.inr K1) ?_
  have hHeld := K1
  clear hK Kk
  try simp only [Act.put, List.setIfInBounds_toArray, List.set_cons_zero, List.set_cons_succ]
  refine l_call 10 rfl (by kernel_rfl) (by rfl) (fun Kk hK => ?_)
  go_simp
  refine KS.out.mono ?_
  rintro e W1 ⟨v1, rfl, hO1, hB1⟩
  obtain ⟨a1, c1, e1⟩ := hO1.sk.shape
  rw [hml.out] at e1
  subst e1
  have B1 : Hid (Below V.heap.size V W1) := hB1
  have A1 : Hid (At 46 W1 b (.slice a4 32 c4 :: .slice va 32 vc :: fw q)) := HA.out.below hB1
  have K2 : W1.cell? ⟨b, 0, none⟩ = some (.slice a4 32 c4) ∧ W1.cell? ⟨b, 1, none⟩ = some (.slice va 32 vc) := ⟨A1.out.cell 0, A1.out.cell 1⟩
  have d1 := K2.1
  have d2 := K2.2
  have d3 : W1.frozen? ⟨b, 1, none⟩ = false := A1.out.free 1
  have O1 : Hid (Own8 V.heap.size W1 (.slice a1 32 c1) (macB k2 s.v)) := hO1
  clear hO1 hB1 K0 K1 KS
  go_simp
  clear hHeld
  refine hK.out _ _ (Or.inr K2) ?_
  have hHeld := K2
  clear hK Kk
  try simp only [Act.put, List.setIfInBounds_toArray, List.set_cons_zero, List.set_cons_succ]
  refine l_call 11 rfl (by kernel_rfl) (by rfl) (fun Kk hK => ?_)
  go_simp
  clear hHeld
  refine hK.out _ _ (Or.inr K2) ?_
  have hHeld := K2
  clear hK Kk
  try simp only [Act.put, List.setIfInBounds_toArray, List.set_cons_zero, List.set_cons_succ]
  refine l_call 12 rfl (by kernel_rfl) (by rfl) (fun Kk hK => ?_)
  go_simp
  clear hHeld
  refine hK.out _ _ (Or.inr K2) ?_
  have hHeld := K2
  clear hK Kk
  try simp only [Act.put, List.setIfInBounds_toArray, List.set_cons_zero, List.set_cons_succ]
  refine l_call 13 rfl (by kernel_rfl) (by rfl) (fun Kk hK => ?_)
  go_simp
  refine hK.out _ _ (Or.inl rfl) ?_
  clear hK Kk
  try simp only [Act.put, List.setIfInBounds_toArray, List.set_cons_zero, List.set_cons_succ]
  refine l_done (by kernel_rfl) ?_ _
  have hcut : Went w (W1.setCell ⟨b, 1, none⟩ (.slice a1 32 c1)) b ⟨k2, macB k2 s.v⟩ q :=
    ⟨⟨a4, c4, a1, c1, A1.out.set1, (HK.out.below B1.out).oth ((Oth.refl b W1).set 1 _) HO4.out, O1.out.sk.oth ((Oth.refl b W1).set 1 _) (O1.out.off hbV), HO4.out, O1.out.off hbV⟩, (HOV.out.trans (oth_of B1.out b)).set 1 _, fun c hc ha => avoid_at A1.out.set1 (hAV.out c hc) (O1.out.off (Nat.lt_of_lt_of_le hc HOV.out.size))⟩
  clear A1 O1 B1 d1 d2 d3 K2 hHeld HA HK HOV HO4
  obtain ⟨F, hF⟩ : ∃ V, W1.setCell ⟨b, 1, none⟩ (.slice a1 32 c1) = V := ⟨_, rfl⟩
  rw [hF] at hcut ⊢
  clear hF
  have HC : Hid (Went w F b ⟨k2, macB k2 s.v⟩ q) := hcut
  clear hcut
  exact ⟨rfl, .tuple #[], by simp [results, Tryd.results17, go_sem], rfl, HC.out⟩
end Go.Proofs.YtlpmbhneffdcfaaDoor

/-
  The contracts of fits and Next of layer 8. Conditions: as the theorems say.
-/
namespace Go.Proofs.YtlpmbhneffdcfaaDoor
open Go.RowKit
set_option linter.unusedVariables false
set_option linter.unusedSimpArgs false

theorem fw_of {q : Nat} {q0 q1 q2 q3 : Int} (h : four q = .agg #[.int .u64 q0, .int .u64 q1, .int .u64 q2, .int .u64 q3]) : fw q = [.int .u64 q0, .int .u64 q1, .int .u64 q2, .int .u64 q3] := by
  rw [four_fw] at h
  simp only [Value.agg.injEq] at h
  have := congrArg Array.toList h
  simpa using this
theorem fw_zero : four 0 = .agg #[.int .u64 0, .int .u64 0, .int .u64 0, .int .u64 0] := by unfold four; simp
theorem ord_neg (x y : Nat) : decide (ord (x : Int) (y : Int) < 0) = decide (x < y) := by
  unfold ord
  by_cases h : x < y
  · simp [h]
  · by_cases e : x = y <;> simp [h, e] <;> omega

set_option maxHeartbeats 2000000 in
theorem fits_any (n q : Nat) (hn : n < M4) (hq : q < M4) (s : KV) (w : World) (b : Nat) (hS : Sr w b s q) :
    Calls Tryd.prog 25 #[.pointer (some ⟨b, 0, none⟩), four n] w fun e w' => e = .returned (.bool (decide (fit q n))) ∧ Below w.heap.size w w' := by
  obtain ⟨ka, kc, va, vc, hA, -, -, -, -⟩ := hS
  have kC : Hid (∀ W : World, Calls Tryd.prog 11 #[four n, four q] W fun e w' => e = .returned (.int .i64 (ord n q)) ∧ Below W.heap.size W w') := fun W => cmp_any n q hn hq W
  have hne : ∀ W : World, (binOp .neq 24 (four n) (four 0)).run Tryd.prog W = .ok (.bool (decide (n ≠ 0))) W := fun W => q_neq n 0 hn (by unfold M4; omega) W
  obtain ⟨n0, n1, n2, n3, -, -, -, -, en, -⟩ := four_open n hn
  obtain ⟨q0, q1, q2, q3, -, -, -, -, eq, -⟩ := four_open q hq
  rw [fw_of eq] at hA
  rw [en, eq] at kC
  rw [en, fw_zero] at hne
  rw [en]
  have ho := ord_neg n q
  obtain ⟨o, hoe⟩ : ∃ o, ord (n : Int) (q : Int) = o := ⟨_, rfl⟩
  rw [hoe] at kC ho
  have HA : Hid (At 46 (w.alloc (.cells #[.int .u64 n0, .int .u64 n1, .int .u64 n2, .int .u64 n3] 24)) b [.slice ka 32 kc, .slice va 32 vc, .int .u64 q0, .int .u64 q1, .int .u64 q2, .int .u64 q3]) := hA.below ((Below.refl _ _).alloc (Nat.le_refl _) _)
  have B0 : Hid (Below w.heap.size w (w.alloc (.cells #[.int .u64 n0, .int .u64 n1, .int .u64 n2, .int .u64 n3] 24))) := (Below.refl _ _).alloc (Nat.le_refl _) _
  have XA : Hid (At 24 (w.alloc (.cells #[.int .u64 n0, .int .u64 n1, .int .u64 n2, .int .u64 n3] 24)) w.heap.size [.int .u64 n0, .int .u64 n1, .int .u64 n2, .int .u64 n3]) := at_new _ _ _
  obtain ⟨V, hV⟩ : ∃ V, Hid (w.alloc (.cells #[.int .u64 n0, .int .u64 n1, .int .u64 n2, .int .u64 n3] 24) = V) := ⟨_, rfl⟩
  rw [hV.out] at HA XA B0
  have K0 : V.drew.cell? ⟨w.heap.size, 0, none⟩ = some (.int .u64 n0) ∧ V.drew.cell? ⟨w.heap.size, 1, none⟩ = some (.int .u64 n1) ∧ V.drew.cell? ⟨w.heap.size, 2, none⟩ = some (.int .u64 n2) ∧ V.drew.cell? ⟨w.heap.size, 3, none⟩ = some (.int .u64 n3) ∧ V.drew.cell? ⟨b, 2, none⟩ = some (.int .u64 q0) ∧ V.drew.cell? ⟨b, 3, none⟩ = some (.int .u64 q1) ∧ V.drew.cell? ⟨b, 4, none⟩ = some (.int .u64 q2) ∧ V.drew.cell? ⟨b, 5, none⟩ = some (.int .u64 q3) := ⟨XA.out.drew.cell 0, XA.out.drew.cell 1, XA.out.drew.cell 2, XA.out.drew.cell 3, HA.out.drew.cell 2, HA.out.drew.cell 3, HA.out.drew.cell 4, HA.out.drew.cell 5⟩
  clear hA en eq hoe hn hq
  by_cases h0 : n = 0
  · have hf : decide (fit q n) = false := by unfold fit; simp [h0]
    have h0' : (decide (n ≠ 0)) = false := by simp [h0]
    rw [h0'] at hne
    rw [hf]
    clear h0 h0' hf ho kC
    go_enter Tryd.func25, Tryd.ntmps25
    go_wp2_with fail
    rw [hV.out]
    refine wp_region_held_drew (S := fun w' => w'.cell? ⟨w.heap.size, 0, none⟩ = some (.int .u64 n0) ∧ w'.cell? ⟨w.heap.size, 1, none⟩ = some (.int .u64 n1) ∧ w'.cell? ⟨w.heap.size, 2, none⟩ = some (.int .u64 n2) ∧ w'.cell? ⟨w.heap.size, 3, none⟩ = some (.int .u64 n3) ∧ w'.cell? ⟨b, 2, none⟩ = some (.int .u64 q0) ∧ w'.cell? ⟨b, 3, none⟩ = some (.int .u64 q1) ∧ w'.cell? ⟨b, 4, none⟩ = some (.int .u64 q2) ∧ w'.cell? ⟨b, 5, none⟩ = some (.int .u64 q3)) (by kernel_rfl) K0 (fun hHeld => ?_)
    refine h_take 0 (v := ?v0) rfl (by kernel_rfl) (by kernel_rfl) (by kernel_rfl) (fun _ _ _ h => h) (by rfl) ?hy0 (by assumption) ?_
    case hy0 =>
      intro w' hSw
      try dsimp only at hSw
      go_simp
      try with_reducible rfl
    try simp only [Act.put, List.setIfInBounds_toArray, List.set_cons_zero, List.set_cons_succ]
    refine h_take 1 (v := ?v1) rfl (by kernel_rfl) (by kernel_rfl) (by kernel_rfl) (fun _ _ _ h => h) (by rfl) ?hy1 (by assumption) ?_
    case hy1 =>
      intro w' hSw
      try dsimp only at hSw
      go_simp
      try with_reducible rfl
    try simp only [Act.put, List.setIfInBounds_toArray, List.set_cons_zero, List.set_cons_succ]
    refine h_take 2 (v := ?v2) rfl (by kernel_rfl) (by kernel_rfl) (by kernel_rfl) (fun _ _ _ h => h) (by rfl) ?hy2 (by assumption) ?_
    case hy2 =>
      intro w' hSw
      try dsimp only at hSw
      go_simp
      try with_reducible rfl
    try simp only [Act.put, List.setIfInBounds_toArray, List.set_cons_zero, List.set_cons_succ]
    refine h_take 3 (v := ?v3) rfl (by kernel_rfl) (by kernel_rfl) (by kernel_rfl) (fun _ _ _ h => h) (by rfl) ?hy3 (by assumption) ?_
    case hy3 =>
      intro w' hSw
      try dsimp only at hSw
      go_simp
      try with_reducible rfl
    try simp only [Act.put, List.setIfInBounds_toArray, List.set_cons_zero, List.set_cons_succ]
    refine h_skip 4 rfl (by kernel_rfl) (by kernel_rfl) (by kernel_rfl) (fun _ _ _ h => h) (by rfl) (by assumption) ?_
    try simp only [Act.put, List.setIfInBounds_toArray, List.set_cons_zero, List.set_cons_succ]
    refine h_skip 5 rfl (by kernel_rfl) (by kernel_rfl) (by kernel_rfl) (fun _ _ _ h => h) (by rfl) (by assumption) ?_
    try simp only [Act.put, List.setIfInBounds_toArray, List.set_cons_zero, List.set_cons_succ]
    refine h_skip 6 rfl (by kernel_rfl) (by kernel_rfl) (by kernel_rfl) (fun _ _ _ h => h) (by rfl) (by assumption) ?_
    try simp only [Act.put, List.setIfInBounds_toArray, List.set_cons_zero, List.set_cons_succ]
    refine h_skip 7 rfl (by kernel_rfl) (by kernel_rfl) (by kernel_rfl) (fun _ _ _ h => h) (by rfl) (by assumption) ?_
    try simp only [Act.put, List.setIfInBounds_toArray, List.set_cons_zero, List.set_cons_succ]
    refine h_skip 8 rfl (by kernel_rfl) (by kernel_rfl) (by kernel_rfl) (fun _ _ _ h => h) (by rfl) (by assumption) ?_
    try simp only [Act.put, List.setIfInBounds_toArray, List.set_cons_zero, List.set_cons_succ]
    refine h_skip 9 rfl (by kernel_rfl) (by kernel_rfl) (by kernel_rfl) (fun _ _ _ h => h) (by rfl) (by assumption) ?_
    try simp only [Act.put, List.setIfInBounds_toArray, List.set_cons_zero, List.set_cons_succ]
    refine h_skip 10 rfl (by kernel_rfl) (by kernel_rfl) (by kernel_rfl) (fun _ _ _ h => h) (by rfl) (by assumption) ?_
    try simp only [Act.put, List.setIfInBounds_toArray, List.set_cons_zero, List.set_cons_succ]
    refine h_take 11 (v := ?v11) rfl (by kernel_rfl) (by kernel_rfl) (by kernel_rfl) (fun _ _ _ h => h) (by rfl) ?hy11 (by assumption) ?_
    case hy11 =>
      intro w' hSw
      try dsimp only at hSw
      go_simp
      try with_reducible rfl
    try simp only [Act.put, List.setIfInBounds_toArray, List.set_cons_zero, List.set_cons_succ]
    refine h_take 12 (v := ?v12) rfl (by kernel_rfl) (by kernel_rfl) (by kernel_rfl) (fun _ _ _ h => h) (by rfl) ?hy12 (by assumption) ?_
    case hy12 =>
      intro w' hSw
      try dsimp only at hSw
      go_simp
      try with_reducible rfl
    try simp only [Act.put, List.setIfInBounds_toArray, List.set_cons_zero, List.set_cons_succ]
    refine wpAnyH_done (by kernel_rfl) ?_ _
    clear K0 hHeld
    go_wp2_with fail
    go_ret
    exact ⟨rfl, B0.out.drew⟩
  · have hf : decide (fit q n) = decide (o < 0) := by rw [ho]; unfold fit; simp [h0]
    have h0' : (decide (n ≠ 0)) = true := by simp [h0]
    rw [h0'] at hne
    rw [hf]
    clear h0 h0' hf ho
    go_enter Tryd.func25, Tryd.ntmps25
    go_wp2_with fail
    rw [hV.out]
    refine wp_region_held_drew (S := fun w' => w'.cell? ⟨w.heap.size, 0, none⟩ = some (.int .u64 n0) ∧ w'.cell? ⟨w.heap.size, 1, none⟩ = some (.int .u64 n1) ∧ w'.cell? ⟨w.heap.size, 2, none⟩ = some (.int .u64 n2) ∧ w'.cell? ⟨w.heap.size, 3, none⟩ = some (.int .u64 n3) ∧ w'.cell? ⟨b, 2, none⟩ = some (.int .u64 q0) ∧ w'.cell? ⟨b, 3, none⟩ = some (.int .u64 q1) ∧ w'.cell? ⟨b, 4, none⟩ = some (.int .u64 q2) ∧ w'.cell? ⟨b, 5, none⟩ = some (.int .u64 q3)) (by kernel_rfl) K0 (fun hHeld => ?_)
    refine h_take 0 (v := ?vq0) rfl (by kernel_rfl) (by kernel_rfl) (by kernel_rfl) (fun _ _ _ h => h) (by rfl) ?hyq0 (by assumption) ?_
    case hyq0 =>
      intro w' hSw
      try dsimp only at hSw
      go_simp
      try with_reducible rfl
    try simp only [Act.put, List.setIfInBounds_toArray, List.set_cons_zero, List.set_cons_succ]
    refine h_take 1 (v := ?vq1) rfl (by kernel_rfl) (by kernel_rfl) (by kernel_rfl) (fun _ _ _ h => h) (by rfl) ?hyq1 (by assumption) ?_
    case hyq1 =>
      intro w' hSw
      try dsimp only at hSw
      go_simp
      try with_reducible rfl
    try simp only [Act.put, List.setIfInBounds_toArray, List.set_cons_zero, List.set_cons_succ]
    refine h_take 2 (v := ?vq2) rfl (by kernel_rfl) (by kernel_rfl) (by kernel_rfl) (fun _ _ _ h => h) (by rfl) ?hyq2 (by assumption) ?_
    case hyq2 =>
      intro w' hSw
      try dsimp only at hSw
      go_simp
      try with_reducible rfl
    try simp only [Act.put, List.setIfInBounds_toArray, List.set_cons_zero, List.set_cons_succ]
    refine h_take 3 (v := ?vq3) rfl (by kernel_rfl) (by kernel_rfl) (by kernel_rfl) (fun _ _ _ h => h) (by rfl) ?hyq3 (by assumption) ?_
    case hyq3 =>
      intro w' hSw
      try dsimp only at hSw
      go_simp
      try with_reducible rfl
    try simp only [Act.put, List.setIfInBounds_toArray, List.set_cons_zero, List.set_cons_succ]
    refine h_take 4 (v := ?vq4) rfl (by kernel_rfl) (by kernel_rfl) (by kernel_rfl) (fun _ _ _ h => h) (by rfl) ?hyq4 (by assumption) ?_
    case hyq4 =>
      intro w' hSw
      try dsimp only at hSw
      go_simp
      try with_reducible rfl
    try simp only [Act.put, List.setIfInBounds_toArray, List.set_cons_zero, List.set_cons_succ]
    refine h_take 5 (v := ?vq5) rfl (by kernel_rfl) (by kernel_rfl) (by kernel_rfl) (fun _ _ _ h => h) (by rfl) ?hyq5 (by assumption) ?_
    case hyq5 =>
      intro w' hSw
      try dsimp only at hSw
      go_simp
      try with_reducible rfl
    try simp only [Act.put, List.setIfInBounds_toArray, List.set_cons_zero, List.set_cons_succ]
    refine h_take 6 (v := ?vq6) rfl (by kernel_rfl) (by kernel_rfl) (by kernel_rfl) (fun _ _ _ h => h) (by rfl) ?hyq6 (by assumption) ?_
    case hyq6 =>
      intro w' hSw
      try dsimp only at hSw
      go_simp
      try with_reducible rfl
    try simp only [Act.put, List.setIfInBounds_toArray, List.set_cons_zero, List.set_cons_succ]
    refine h_take 7 (v := ?vq7) rfl (by kernel_rfl) (by kernel_rfl) (by kernel_rfl) (fun _ _ _ h => h) (by rfl) ?hyq7 (by assumption) ?_
    case hyq7 =>
      intro w' hSw
      try dsimp only at hSw
      go_simp
      try with_reducible rfl
    try simp only [Act.put, List.setIfInBounds_toArray, List.set_cons_zero, List.set_cons_succ]
    refine h_take 8 (v := ?vq8) rfl (by kernel_rfl) (by kernel_rfl) (by kernel_rfl) (fun _ _ _ h => h) (by rfl) ?hyq8 (by assumption) ?_
    case hyq8 =>
      intro w' hSw
      try dsimp only at hSw
      go_simp
      try with_reducible rfl
    try simp only [Act.put, List.setIfInBounds_toArray, List.set_cons_zero, List.set_cons_succ]
    refine h_call 9 rfl (by kernel_rfl) (by rfl) (fun Kk hK => ?_)
    go_simp
    refine (kC.out _).mono ?_
    rintro e W1 ⟨rfl, g1⟩
    have B1 : Hid (Below w.heap.size w W1) := B0.out.drew.trans (g1.mono B0.out.size)
    have HA1 : Hid (At 46 W1 b [.slice ka 32 kc, .slice va 32 vc, .int .u64 q0, .int .u64 q1, .int .u64 q2, .int .u64 q3]) := HA.out.drew.below g1
    have XA1 : Hid (At 24 W1 w.heap.size [.int .u64 n0, .int .u64 n1, .int .u64 n2, .int .u64 n3]) := XA.out.drew.below g1
    have K1 : W1.cell? ⟨w.heap.size, 0, none⟩ = some (.int .u64 n0) ∧ W1.cell? ⟨w.heap.size, 1, none⟩ = some (.int .u64 n1) ∧ W1.cell? ⟨w.heap.size, 2, none⟩ = some (.int .u64 n2) ∧ W1.cell? ⟨w.heap.size, 3, none⟩ = some (.int .u64 n3) ∧ W1.cell? ⟨b, 2, none⟩ = some (.int .u64 q0) ∧ W1.cell? ⟨b, 3, none⟩ = some (.int .u64 q1) ∧ W1.cell? ⟨b, 4, none⟩ = some (.int .u64 q2) ∧ W1.cell? ⟨b, 5, none⟩ = some (.int .u64 q3) := ⟨XA1.out.cell 0, XA1.out.cell 1, XA1.out.cell 2, XA1.out.cell 3, HA1.out.cell 2, HA1.out.cell 3, HA1.out.cell 4, HA1.out.cell 5⟩
    clear g1 HA1 XA1 kC K0
    go_wp2_with fail
    clear hHeld
    refine hK.out _ _ K1 (fun hHeld => ?_)
    clear hK Kk
    try simp only [Act.put, List.setIfInBounds_toArray, List.set_cons_zero, List.set_cons_succ]
    refine h_take 10 (v := ?vq10) rfl (by kernel_rfl) (by kernel_rfl) (by kernel_rfl) (fun _ _ _ h => h) (by rfl) ?hyq10 (by assumption) ?_
    case hyq10 =>
      intro w' hSw
      try dsimp only at hSw
      go_simp
      try with_reducible rfl
    try simp only [Act.put, List.setIfInBounds_toArray, List.set_cons_zero, List.set_cons_succ]
    refine h_take 11 (v := ?vq11) rfl (by kernel_rfl) (by kernel_rfl) (by kernel_rfl) (fun _ _ _ h => h) (by rfl) ?hyq11 (by assumption) ?_
    case hyq11 =>
      intro w' hSw
      try dsimp only at hSw
      go_simp
      try with_reducible rfl
    try simp only [Act.put, List.setIfInBounds_toArray, List.set_cons_zero, List.set_cons_succ]
    refine h_take 12 (v := ?vq12) rfl (by kernel_rfl) (by kernel_rfl) (by kernel_rfl) (fun _ _ _ h => h) (by rfl) ?hyq12 (by assumption) ?_
    case hyq12 =>
      intro w' hSw
      try dsimp only at hSw
      go_simp
      try with_reducible rfl
    try simp only [Act.put, List.setIfInBounds_toArray, List.set_cons_zero, List.set_cons_succ]
    refine wpAnyH_done (by kernel_rfl) ?_ _
    clear K1 hHeld
    go_wp2_with fail
    go_ret
    exact ⟨rfl, B1.out⟩
end Go.Proofs.YtlpmbhneffdcfaaDoor

/-
  The contract of Next of layer 8. Conditions: as the theorems say.
-/
namespace Go.Proofs.YtlpmbhneffdcfaaDoor
open Go.RowKit
set_option linter.unusedVariables false
set_option linter.unusedSimpArgs false

theorem next_nil (w : World) :
    Calls Tryd.prog 9 #[.pointer none] w fun e w' => e = .returned (.tuple #[four 0, .bool false]) ∧ Below w.heap.size w w' := by
  rw [fw_zero]
  go_enter Tryd.func9, Tryd.ntmps9
  go_wp2_with fail
  go_step3
  go_wp2_with fail
  rw [Exit.noGoto_ret]
  exact bodyPost_ret (v := .tuple #[.agg #[.int .u64 0, .int .u64 0, .int .u64 0, .int .u64 0], .bool false]) (by simp [results, Tryd.results9, go_sem]) rfl ⟨rfl, (Below.refl _ _).alloc (Nat.le_refl _) _⟩

theorem Tells.found {s : KV} {q n : Nat} {f : Bool} {t : KV} (h : Tells s q n f t) {i : Nat} (hi : i < 1000) (hno : ∀ j, j < i → ¬ fit q (s.at j).num) (hf : fit q (s.at i).num) : n = (s.at i).num ∧ f = true ∧ t = s.at (i + 1) := by
  rcases h with ⟨k, h1, h2, h3, h4, h5, h6⟩ | ⟨h1, -, -, -⟩
  · obtain rfl : k = i := by
      rcases Nat.lt_trichotomy k i with c | c | c
      · exact absurd h3 (hno k c)
      · exact c
      · exact absurd hf (h2 i c)
    exact ⟨h4, h5, h6⟩
  · exact absurd hf (h1 i hi)
theorem Tells.none {s : KV} {q n : Nat} {f : Bool} {t : KV} (h : Tells s q n f t) (hno : ∀ j, j < 1000 → ¬ fit q (s.at j).num) : n = 0 ∧ f = false ∧ t = s := by
  rcases h with ⟨k, h1, h2, h3, -⟩ | ⟨-, h2, h3, h4⟩
  · exact absurd h3 (hno k h1)
  · exact ⟨h2, h3, h4⟩

theorem hid_calls {f : FuncId} {args : Array Value} {w : World} {E : Ending → World → Prop} (h : Calls Tryd.prog f args w E) : Hid (Calls Tryd.prog f args w E) := h
theorem Went.far {w W V : World} {b c : Nat} {t : KV} {q : Nat} (h : Went w W b t q) (k : Oth c W V) (hc : w.heap.size ≤ c) (hb : b ≠ c) (ha : Avoid W b c) : Went w V b t q :=
  ⟨h.sr.oth k hb ha, h.oth.far k hc, fun d hd hx => (h.av d hd hx).oth h.sr.lt k hb⟩
theorem oth4 (c : Nat) (W : World) (x0 x1 x2 x3 : Value) : Oth c W ((((W.setCell ⟨c, 0, none⟩ x0).setCell ⟨c, 1, none⟩ x1).setCell ⟨c, 2, none⟩ x2).setCell ⟨c, 3, none⟩ x3) :=
  ((((Oth.refl c W).set 0 _).set 1 _).set 2 _).set 3 _
theorem at4 {T : TypeId} {c : Nat} {W : World} {y0 y1 y2 y3 : Value} (h : At T W c [y0, y1, y2, y3]) (x0 x1 x2 x3 : Value) : At T ((((W.setCell ⟨c, 0, none⟩ x0).setCell ⟨c, 1, none⟩ x1).setCell ⟨c, 2, none⟩ x2).setCell ⟨c, 3, none⟩ x3) c [x0, x1, x2, x3] :=
  (((h.set 0 _).set 1 _).set 2 _).set 3 _

set_option maxRecDepth 100000 in
set_option maxHeartbeats 4000000 in
theorem next_any (s : KV) (hs : s.ok) (q : Nat) (hq : q < M4) (h2 : M4 ≤ 2 * q) (n : Nat) (f : Bool) (t : KV) (hT : Tells s q n f t) (w : World) (hg : Gl5 w) (b : Nat) (hb : 2 < b) (hS : Sr w b s q) :
    Calls Tryd.prog 9 #[.pointer (some ⟨b, 0, none⟩)] w fun e w' => e = .returned (.tuple #[four n, .bool f]) ∧ Went w w' b t q := by
  obtain ⟨ka, kc, va, vc, hA, hK, hV, oK, oV⟩ := hS
  have hq0 : q ≠ 0 := by unfold M4 at h2; omega
  have hne : ∀ W : World, (binOp .eql 24 (four q) (four 0)).run Tryd.prog W = .ok (.bool (decide (q = 0))) W := fun W => q_eql q 0 hq (by unfold M4; omega) W
  rw [show decide (q = 0) = false by simp [hq0]] at hne
  obtain ⟨q0, q1, q2, q3, -, -, -, -, eq, -⟩ := four_open q hq
  rw [eq, fw_zero] at hne
  have hfq := fw_of eq
  have HA : Hid (At 46 w b (.slice ka 32 kc :: .slice va 32 vc :: fw q)) := hA
  have HK : Hid (SK .u8 w (.slice ka 32 kc) s.k) := hK
  have HV : Hid (SK .u8 w (.slice va 32 vc) s.v) := hV
  have HO : Hid (Off b (.slice ka 32 kc)) := oK
  have HOV : Hid (Off b (.slice va 32 vc)) := oV
  have HG : Hid (Gl5 w) := hg
  have HT : Hid (Tells s q n f t) := hT
  have HS : Hid s.ok := hs
  have hbl : b < w.heap.size := hA.lt
  have HFQ : Hid (fw q = [.int .u64 q0, .int .u64 q1, .int .u64 q2, .int .u64 q3]) := hfq
  have hq2 : Hid (M4 ≤ 2 * q) := h2
  have hq3 : Hid (q < M4) := hq
  clear hA hK hV oK oV hg hT hs hfq eq hq0 h2 hq
  go_enter Tryd.func9, Tryd.ntmps9
  go_wp2_with fail
  refine wp_cut (fun W => Below w.heap.size w W ∧ At 24 W w.heap.size [.int .u64 0, .int .u64 0, .int .u64 0, .int .u64 0]) ⟨(Below.refl _ _).alloc (Nat.le_refl _) _, at_new _ _ _⟩ ?_
  rintro W0 ⟨hB0, hX0⟩
  have B0 : Hid (Below w.heap.size w W0) := hB0
  have X0 : Hid (At 24 W0 w.heap.size [.int .u64 0, .int .u64 0, .int .u64 0, .int .u64 0]) := hX0
  have A0 : Hid (At 46 W0 b [.slice ka 32 kc, .slice va 32 vc, .int .u64 q0, .int .u64 q1, .int .u64 q2, .int .u64 q3]) := by
    have h := HA.out.below hB0
    rw [HFQ.out] at h
    exact h
  clear hB0 hX0
  have c0 := A0.out.cell 0
  have c1 := A0.out.cell 1
  have c2 := A0.out.cell 2
  have c3 := A0.out.cell 3
  have c4 := A0.out.cell 4
  have c5 := A0.out.cell 5
  simp only [List.getElem?_cons_zero, List.getElem?_cons_succ] at c0 c1 c2 c3 c4 c5
  go_step3
  go_wp2_with fail
  have hpl : W0.heap.size < (W0.alloc (.cells #[.slice ka 32 kc, .slice va 32 vc] 44)).heap.size := by simp
  have hcut : At 46 ((W0.alloc (.cells #[.slice ka 32 kc, .slice va 32 vc] 44)).alloc (.cells #[.int .u64 0, .int .u64 0, .int .u64 0, .int .u64 0] 24)) b [.slice ka 32 kc, .slice va 32 vc, .int .u64 q0, .int .u64 q1, .int .u64 q2, .int .u64 q3] ∧ At 24 ((W0.alloc (.cells #[.slice ka 32 kc, .slice va 32 vc] 44)).alloc (.cells #[.int .u64 0, .int .u64 0, .int .u64 0, .int .u64 0] 24)) w.heap.size [.int .u64 0, .int .u64 0, .int .u64 0, .int .u64 0] ∧ At 44 ((W0.alloc (.cells #[.slice ka 32 kc, .slice va 32 vc] 44)).alloc (.cells #[.int .u64 0, .int .u64 0, .int .u64 0, .int .u64 0] 24)) W0.heap.size [.slice ka 32 kc, .slice va 32 vc] ∧ At 24 ((W0.alloc (.cells #[.slice ka 32 kc, .slice va 32 vc] 44)).alloc (.cells #[.int .u64 0, .int .u64 0, .int .u64 0, .int .u64 0] 24)) (W0.heap.size + 1) [.int .u64 0, .int .u64 0, .int .u64 0, .int .u64 0] ∧ Below W0.heap.size W0 ((W0.alloc (.cells #[.slice ka 32 kc, .slice va 32 vc] 44)).alloc (.cells #[.int .u64 0, .int .u64 0, .int .u64 0, .int .u64 0] 24)) := by
    have g1 : Below W0.heap.size W0 (W0.alloc (.cells #[.slice ka 32 kc, .slice va 32 vc] 44)) := (Below.refl _ _).alloc (Nat.le_refl _) _
    have g2 : Below (W0.alloc (.cells #[.slice ka 32 kc, .slice va 32 vc] 44)).heap.size (W0.alloc (.cells #[.slice ka 32 kc, .slice va 32 vc] 44)) ((W0.alloc (.cells #[.slice ka 32 kc, .slice va 32 vc] 44)).alloc (.cells #[.int .u64 0, .int .u64 0, .int .u64 0, .int .u64 0] 24)) := (Below.refl _ _).alloc (Nat.le_refl _) _
    have e : (W0.alloc (.cells #[.slice ka 32 kc, .slice va 32 vc] 44)).heap.size = W0.heap.size + 1 := by simp
    have hn := at_new 24 (W0.alloc (.cells #[.slice ka 32 kc, .slice va 32 vc] 44)) [.int .u64 0, .int .u64 0, .int .u64 0, .int .u64 0]
    rw [e] at hn
    have hp := at_new 44 W0 [.slice ka 32 kc, .slice va 32 vc]
    have hp' : At 44 (W0.alloc (.cells #[.slice ka 32 kc, .slice va 32 vc] 44)) W0.heap.size [.slice ka 32 kc, .slice va 32 vc] := hp
    exact ⟨A0.out.below (g1.trans (g2.mono g1.size)), X0.out.below (g1.trans (g2.mono g1.size)), hp'.below g2, hn, g1.trans (g2.mono g1.size)⟩
  obtain ⟨V, hV⟩ : ∃ V, (W0.alloc (.cells #[.slice ka 32 kc, .slice va 32 vc] 44)).alloc (.cells #[.int .u64 0, .int .u64 0, .int .u64 0, .int .u64 0] 24) = V := ⟨_, rfl⟩
  rw [hV] at hcut ⊢
  clear hV hpl c0 c1 c2 c3 c4 c5
  obtain ⟨hA1, hX1, hP1, hN1, hB1⟩ := hcut
  have hgb : w.heap.size < W0.heap.size := X0.out.lt
  obtain ⟨gb, hgbe⟩ : ∃ g, W0.heap.size = g := ⟨_, rfl⟩
  have BV : Hid (Below w.heap.size w V) := B0.out.trans (hB1.mono B0.out.size)
  rw [hgbe] at hP1 hN1 hgb ⊢
  obtain ⟨gn, hgn⟩ : ∃ g, gb + 1 = g := ⟨_, rfl⟩
  rw [hgn] at hN1 ⊢
  obtain ⟨g0, hg0⟩ : ∃ g, Hid (w.heap.size = g) := ⟨_, rfl⟩
  rw [hg0.out] at hX1 hgb ⊢
  have hbg : b < g0 := by rw [← hg0.out]; exact hbl
  have hgbn : gb < gn := by omega
  have SV : Hid (Sr V b s q) := ⟨ka, kc, va, vc, by rw [HFQ.out]; exact hA1, HK.out.below BV.out, HV.out.below BV.out, HO.out, HOV.out⟩
  have XV : Hid (At 24 V g0 [.int .u64 0, .int .u64 0, .int .u64 0, .int .u64 0]) := hX1
  have PV : Hid (At 44 V gb [.slice ka 32 kc, .slice va 32 vc]) := hP1
  have NV : Hid (At 24 V gn [.int .u64 0, .int .u64 0, .int .u64 0, .int .u64 0]) := hN1
  have hgs : w.heap.size ≤ g0 := by rw [hg0.out]; exact Nat.le_refl _
  have WV : Hid (Went w V b s q) := ⟨SV.out, oth_of BV.out b, fun c hc ha => ha.below hbl BV.out⟩
  have AV : Hid (∀ c, g0 ≤ c → Avoid V b c) := fun c hc => avoid_at hA1 (HK.out.off (Nat.le_trans hgs hc)) (HV.out.off (Nat.le_trans hgs hc))
  have kD : Hid (∀ (s' : KV), s'.ok → ∀ W : World, Gl5 W → Sr W b s' q → Calls Tryd.prog 24 #[.pointer (some ⟨b, 0, none⟩)] W fun e w' => e = .returned (four s'.num) ∧ Went W w' b s'.draw q) := fun s' h W h1 h2 => draw_any s' h q W h1 b hb h2
  have kX : Hid (∀ (s' : KV), s'.ok → ∀ W : World, Gl5 W → Sr W b s' q → Calls Tryd.prog 17 #[.pointer (some ⟨b, 0, none⟩), .int .u8 0, .slice none 0 0] W fun e w' => e = .returned (.tuple #[]) ∧ Went W w' b (s'.mix [0]) q) :=
    fun s' h W h1 h2 => mix_any s' h q W h1 b hb h2 0 (by omega) (.slice none 0 0) [] [] (Or.inl ⟨rfl, rfl⟩) (Rows8.nil _) (by simp) (by simp)
  have kF : Hid (∀ (m : Nat), m < M4 → ∀ (s' : KV) (W : World), Sr W b s' q → Calls Tryd.prog 25 #[.pointer (some ⟨b, 0, none⟩), four m] W fun e w' => e = .returned (.bool (decide (fit q m))) ∧ Below W.heap.size W w') := fun m hm s' W h => fits_any m q hm hq3.out s' W b h
  have hGw : Hid (∀ (W : World) (u : KV), Went w W b u q → Gl5 W) := fun W u h => h.oth.gl HG.out hb
  have hP0 : Hid (SK .u8 w (.slice ka 32 kc) s.k ∧ SK .u8 w (.slice va 32 vc) s.v ∧ Off b (.slice ka 32 kc) ∧ Off b (.slice va 32 vc) ∧ At 46 w b (.slice ka 32 kc :: .slice va 32 vc :: fw q)) := ⟨HK.out, HV.out, HO.out, HOV.out, HA.out⟩
  clear hA1 hX1 hP1 hN1 hB1 hgbe hgn B0 X0 A0 hne W0 BV SV HK HV HO HOV HA HG
  go_step3
  go_wp2_with fail
  go_loopw [6, 23] (fun x y W => ∃ i : Nat, i ≤ 1000 ∧ x = .bool false ∧ y = .int .i64 i ∧ Went w W b (s.at i) q ∧ At 24 W g0 [.int .u64 0, .int .u64 0, .int .u64 0, .int .u64 0] ∧ At 44 W gb [.slice ka 32 kc, .slice va 32 vc] ∧ (∃ m0 m1 m2 m3 : Int, At 24 W gn [.int .u64 m0, .int .u64 m1, .int .u64 m2, .int .u64 m3]) ∧ Hid (∀ c, g0 ≤ c → c ≤ gn → Avoid W b c) ∧ Hid (∀ j, j < i → ¬ fit q (s.at j).num)) (fun _ y _ => 1000 - (intOf y).toNat)
  case atStart => exact ⟨0, by omega, rfl, rfl, WV.out, XV.out, PV.out, ⟨0, 0, 0, 0, NV.out⟩, fun c h _ => AV.out c h, fun j hj => by omega⟩
  case round =>
    clear WV XV PV NV AV
    obtain ⟨i, hi, rfl, rfl, hW, hX, hP, ⟨m0, m1, m2, m3, hN⟩, hAv, hno⟩ := hrel
    have WW : Hid (Went w wr b (s.at i) q) := hW
    have XW : Hid (At 24 wr g0 [.int .u64 0, .int .u64 0, .int .u64 0, .int .u64 0]) := hX
    have PW : Hid (At 44 wr gb [.slice ka 32 kc, .slice va 32 vc]) := hP
    have NW : Hid (At 24 wr gn [.int .u64 m0, .int .u64 m1, .int .u64 m2, .int .u64 m3]) := hN
    clear hW hX hP hN
    by_cases hlt : i < 1000
    · have hlt' : (i : Int) < 1000 := by omega
      have hok : Hid ((s.at i).ok) := HS.out.at i
      have hnx : Hid ((s.at i).draw.mix [0] = s.at (i + 1)) := rfl
      have hnum : (s.at i).num < M4 := KV.num_lt _
      have hfd : Hid (fit q (s.at i).num → n = (s.at i).num ∧ f = true ∧ t = s.at (i + 1)) := fun h => HT.out.found hlt hno.out h
      obtain ⟨u, hu⟩ : ∃ u, s.at i = u := ⟨_, rfl⟩
      rw [hu] at WW hok hnx hnum hfd
      obtain ⟨N, hN⟩ : ∃ N, Hid (u.num = N) := ⟨_, rfl⟩
      rw [hN.out] at hnum hfd
      obtain ⟨n0, n1, n2, n3, -, -, -, -, en, -⟩ := four_open N hnum
      have hno1 : Hid (¬ fit q N → ∀ j, j < i + 1 → ¬ fit q (s.at j).num) := by
        intro h j hj
        by_cases e : j = i
        · subst e; rw [hu, hN.out]; exact h
        · exact hno.out j (by omega)
      have k1 : Hid (Calls Tryd.prog 24 #[.pointer (some ⟨b, 0, none⟩)] wr fun e w' => e = .returned (.agg #[.int .u64 n0, .int .u64 n1, .int .u64 n2, .int .u64 n3]) ∧ Went wr w' b u.draw q) := by
        have h := kD.out u hok.out wr (hGw.out _ _ WW.out) WW.out.sr
        rw [hN.out, en] at h
        exact h
      have k3 : Hid (∀ (s' : KV) (W : World), Sr W b s' q → Calls Tryd.prog 25 #[.pointer (some ⟨b, 0, none⟩), .agg #[.int .u64 n0, .int .u64 n1, .int .u64 n2, .int .u64 n3]] W fun e w' => e = .returned (.bool (decide (fit q N))) ∧ Below W.heap.size W w') := by
        have h := kF.out N hnum
        rw [en] at h
        exact h
      clear hu hno
      go_wp2_with fail
      refine k1.out.mono ?_
      rintro e W1 ⟨rfl, hW1⟩
      have hgl : gn < wr.heap.size := NW.out.lt
      have X1 : Hid (At 24 W1 g0 [.int .u64 0, .int .u64 0, .int .u64 0, .int .u64 0]) := hW1.oth.at XW.out (by omega)
      have P1 : Hid (At 44 W1 gb [.slice ka 32 kc, .slice va 32 vc]) := hW1.oth.at PW.out (by omega)
      have N1 : Hid (At 24 W1 gn [.int .u64 m0, .int .u64 m1, .int .u64 m2, .int .u64 m3]) := hW1.oth.at NW.out (by omega)
      have A1 : Hid (∀ c, g0 ≤ c → c ≤ gn → Avoid W1 b c) := fun c h1 h2 => hW1.av c (by omega) (hAv.out c h1 h2)
      have S1 : Hid (Went w W1 b u.draw q) := WW.out.trans hW1
      have G1 : Hid (Oth b w W1) := S1.out.oth
      clear hW1 WW XW PW NW hAv k1
      have x0 := N1.out.cell 0
      have x1 := N1.out.cell 1
      have x2 := N1.out.cell 2
      have x3 := N1.out.cell 3
      simp only [List.getElem?_cons_zero, List.getElem?_cons_succ] at x0 x1 x2 x3
      have y0 := N1.out.free 0
      have y1 := N1.out.free 1
      have y2 := N1.out.free 2
      have y3 := N1.out.free 3
      have hF := oth4 gn W1 (.int .u64 n0) (.int .u64 n1) (.int .u64 n2) (.int .u64 n3)
      have hN2 := at4 N1.out (.int .u64 n0) (.int .u64 n1) (.int .u64 n2) (.int .u64 n3)
      have hbn : b ≠ gn := by omega
      have hS2 := S1.out.far hF (Nat.le_trans hgs (by omega)) hbn (A1.out gn (by omega) (Nat.le_refl _))
      have kM := kX.out u.draw hok.out.draw _ (hGw.out _ _ hS2) hS2.sr
      have hX2 := hF.at X1.out (show g0 ≠ gn by omega)
      have hP2 := hF.at P1.out (show gb ≠ gn by omega)
      have hA2 : ∀ c, g0 ≤ c → c ≤ gn → Avoid ((((W1.setCell ⟨gn, 0, none⟩ (.int .u64 n0)).setCell ⟨gn, 1, none⟩ (.int .u64 n1)).setCell ⟨gn, 2, none⟩ (.int .u64 n2)).setCell ⟨gn, 3, none⟩ (.int .u64 n3)) b c := fun c h1 h2 => (A1.out c h1 h2).oth S1.out.sr.lt hF hbn
      have H2 : Hid (Went w ((((W1.setCell ⟨gn, 0, none⟩ (.int .u64 n0)).setCell ⟨gn, 1, none⟩ (.int .u64 n1)).setCell ⟨gn, 2, none⟩ (.int .u64 n2)).setCell ⟨gn, 3, none⟩ (.int .u64 n3)) b u.draw q ∧ At 24 ((((W1.setCell ⟨gn, 0, none⟩ (.int .u64 n0)).setCell ⟨gn, 1, none⟩ (.int .u64 n1)).setCell ⟨gn, 2, none⟩ (.int .u64 n2)).setCell ⟨gn, 3, none⟩ (.int .u64 n3)) g0 [.int .u64 0, .int .u64 0, .int .u64 0, .int .u64 0] ∧ At 44 ((((W1.setCell ⟨gn, 0, none⟩ (.int .u64 n0)).setCell ⟨gn, 1, none⟩ (.int .u64 n1)).setCell ⟨gn, 2, none⟩ (.int .u64 n2)).setCell ⟨gn, 3, none⟩ (.int .u64 n3)) gb [.slice ka 32 kc, .slice va 32 vc] ∧ At 24 ((((W1.setCell ⟨gn, 0, none⟩ (.int .u64 n0)).setCell ⟨gn, 1, none⟩ (.int .u64 n1)).setCell ⟨gn, 2, none⟩ (.int .u64 n2)).setCell ⟨gn, 3, none⟩ (.int .u64 n3)) gn [.int .u64 n0, .int .u64 n1, .int .u64 n2, .int .u64 n3] ∧ ∀ c, g0 ≤ c → c ≤ gn → Avoid ((((W1.setCell ⟨gn, 0, none⟩ (.int .u64 n0)).setCell ⟨gn, 1, none⟩ (.int .u64 n1)).setCell ⟨gn, 2, none⟩ (.int .u64 n2)).setCell ⟨gn, 3, none⟩ (.int .u64 n3)) b c) := ⟨hS2, hX2, hP2, hN2, hA2⟩
      have KM := hid_calls kM
      clear hF hN2 hS2 hX2 hP2 hA2 kM X1 P1 N1 A1 S1 G1 hgl
      go_wp2_with fail
      refine KM.out.mono ?_
      clear x0 x1 x2 x3 y0 y1 y2 y3 KM
      obtain ⟨F, hF⟩ : ∃ F, (((W1.setCell ⟨gn, 0, none⟩ (.int .u64 n0)).setCell ⟨gn, 1, none⟩ (.int .u64 n1)).setCell ⟨gn, 2, none⟩ (.int .u64 n2)).setCell ⟨gn, 3, none⟩ (.int .u64 n3) = F := ⟨_, rfl⟩
      rw [hF] at H2 ⊢
      clear hF W1
      rintro e W2 ⟨rfl, hW2⟩
      rw [hnx.out] at hW2
      obtain ⟨hS2, hX2, hP2, hN2, hA2⟩ := H2.out
      have hgl : gn < F.heap.size := hN2.lt
      have S2 : Hid (Went w W2 b (s.at (i + 1)) q) := hS2.trans hW2
      have X2 : Hid (At 24 W2 g0 [.int .u64 0, .int .u64 0, .int .u64 0, .int .u64 0]) := hW2.oth.at hX2 (by omega)
      have P2 : Hid (At 44 W2 gb [.slice ka 32 kc, .slice va 32 vc]) := hW2.oth.at hP2 (by omega)
      have N2 : Hid (At 24 W2 gn [.int .u64 n0, .int .u64 n1, .int .u64 n2, .int .u64 n3]) := hW2.oth.at hN2 (by omega)
      have A2 : Hid (∀ c, g0 ≤ c → c ≤ gn → Avoid W2 b c) := fun c h1 h2 => hW2.av c (by omega) (hA2 c h1 h2)
      clear hW2 hS2 hX2 hP2 hN2 hA2 H2 hgl
      have x0 := N2.out.cell 0
      have x1 := N2.out.cell 1
      have x2 := N2.out.cell 2
      have x3 := N2.out.cell 3
      simp only [List.getElem?_cons_zero, List.getElem?_cons_succ] at x0 x1 x2 x3
      have k4 := k3.out _ W2 S2.out.sr
      have K4 := hid_calls k4
      clear k4
      go_wp2_with fail
      refine K4.out.mono ?_
      rintro e W3 ⟨rfl, hB3⟩
      have S3 : Hid (Went w W3 b (s.at (i + 1)) q) := S2.out.trans ⟨S2.out.sr.below hB3, oth_of hB3 b, fun c hc ha => ha.below S2.out.sr.lt hB3⟩
      have X3 : Hid (At 24 W3 g0 [.int .u64 0, .int .u64 0, .int .u64 0, .int .u64 0]) := X2.out.below hB3
      have P3 : Hid (At 44 W3 gb [.slice ka 32 kc, .slice va 32 vc]) := P2.out.below hB3
      have N3 : Hid (At 24 W3 gn [.int .u64 n0, .int .u64 n1, .int .u64 n2, .int .u64 n3]) := N2.out.below hB3
      have A3 : Hid (∀ c, g0 ≤ c → c ≤ gn → Avoid W3 b c) := fun c h1 h2 => (A2.out c h1 h2).below S2.out.sr.lt hB3
      clear hB3 S2 X2 P2 N2 A2 K4 x0 x1 x2 x3
      by_cases hfit : fit q N
      · rw [show decide (fit q N) = true by simp [hfit]]
        obtain ⟨hn1, hf1, ht1⟩ := hfd.out hfit
        have x0 := N3.out.cell 0
        have x1 := N3.out.cell 1
        have x2 := N3.out.cell 2
        have x3 := N3.out.cell 3
        have z0 := X3.out.cell 0
        have z1 := X3.out.cell 1
        have z2 := X3.out.cell 2
        have z3 := X3.out.cell 3
        simp only [List.getElem?_cons_zero, List.getElem?_cons_succ] at x0 x1 x2 x3 z0 z1 z2 z3
        have y0 := X3.out.free 0
        have y1 := X3.out.free 1
        have y2 := X3.out.free 2
        have y3 := X3.out.free 3
        have HN1 : Hid (n = N) := hn1
        have HF1 : Hid (f = true) := hf1
        have HT1 : Hid (t = s.at (i + 1)) := ht1
        clear hn1 hf1 ht1 hfd hno1 k3
        go_wp2_with fail
        rw [Exit.noGoto_ret]
        refine body_cut' (fun F => At 24 F g0 [.int .u64 n0, .int .u64 n1, .int .u64 n2, .int .u64 n3] ∧ Went w F b (s.at (i + 1)) q) ⟨at4 X3.out _ _ _ _, S3.out.far (oth4 g0 W3 _ _ _ _) hgs (by omega) (A3.out g0 (Nat.le_refl _) (by omega))⟩ ?_
        rintro F ⟨hX, hW⟩
        have r0 := hX.cell 0
        have r1 := hX.cell 1
        have r2 := hX.cell 2
        have r3 := hX.cell 3
        simp only [List.getElem?_cons_zero, List.getElem?_cons_succ] at r0 r1 r2 r3
        refine bodyPost_ret (v := .tuple #[.agg #[.int .u64 n0, .int .u64 n1, .int .u64 n2, .int .u64 n3], .bool true]) (by simp [results, Tryd.results9, go_sem, r0, r1, r2, r3]) rfl ⟨?_, ?_⟩
        · rw [HN1.out, HF1.out, en]
        · rw [HT1.out]; exact hW
      · rw [show decide (fit q N) = false by simp [hfit]]
        have hno2 : Hid (∀ j, j < i + 1 → ¬ fit q (s.at j).num) := hno1.out hfit
        clear hfit hfd hno1 k3
        go_wp2_with fail
        go_roundw
        case rel => exact ⟨i + 1, by omega, rfl, by go_num, S3.out, X3.out, P3.out, ⟨n0, n1, n2, n3, N3.out⟩, A3.out, hno2.out⟩
        case measure => simp [intOf]; omega
    · obtain rfl : i = 1000 := by omega
      obtain ⟨hn1, hf1, ht1⟩ := HT.out.none hno.out
      obtain ⟨hK0, hV0, hO0, hOV0, hA0⟩ := hP0.out
      have hS := WW.out
      obtain ⟨ka', kc', va', vc', hA, -, -, -, -⟩ := WW.out.sr
      have hOw : Hid (Oth b w wr) := WW.out.oth
      have AA : Hid (At 46 wr b (.slice ka' 32 kc' :: .slice va' 32 vc' :: fw q)) := hA
      have c0 := hA.cell 0
      have c1 := hA.cell 1
      have f0 := hA.free 0
      have f1 := hA.free 1
      have p0 := PW.out.cell 0
      have p1 := PW.out.cell 1
      simp only [List.getElem?_cons_zero, List.getElem?_cons_succ] at c0 c1 p0 p1
      have hbg0 : ¬ b = g0 := by omega
      have hF2 : Oth b wr ((wr.setCell ⟨b, 0, none⟩ (.slice ka 32 kc)).setCell ⟨b, 1, none⟩ (.slice va 32 vc)) := ((Oth.refl b wr).set 0 _).set 1 _
      have hX2 := hF2.at XW.out (show g0 ≠ b by omega)
      have hA2 : At 46 ((wr.setCell ⟨b, 0, none⟩ (.slice ka 32 kc)).setCell ⟨b, 1, none⟩ (.slice va 32 vc)) b (.slice ka 32 kc :: .slice va 32 vc :: fw q) := (hA.set0).set1
      have hW2 : Went w ((wr.setCell ⟨b, 0, none⟩ (.slice ka 32 kc)).setCell ⟨b, 1, none⟩ (.slice va 32 vc)) b s q :=
        ⟨⟨ka, kc, va, vc, hA2, hK0.oth (hOw.out.trans hF2) hO0, hV0.oth (hOw.out.trans hF2) hOV0, hO0, hOV0⟩, hOw.out.trans hF2, fun c hc ha => avoid_at hA2 (ha.parts hA0).1 (ha.parts hA0).2⟩
      have z0 := hX2.cell 0
      have z1 := hX2.cell 1
      have z2 := hX2.cell 2
      have z3 := hX2.cell 3
      simp only [List.getElem?_cons_zero, List.getElem?_cons_succ] at z0 z1 z2 z3
      have y0 := hX2.free 0
      have y1 := hX2.free 1
      have y2 := hX2.free 2
      have y3 := hX2.free 3
      have HX2 : Hid (At 24 ((wr.setCell ⟨b, 0, none⟩ (.slice ka 32 kc)).setCell ⟨b, 1, none⟩ (.slice va 32 vc)) g0 [.int .u64 0, .int .u64 0, .int .u64 0, .int .u64 0]) := hX2
      have HW2 : Hid (Went w ((wr.setCell ⟨b, 0, none⟩ (.slice ka 32 kc)).setCell ⟨b, 1, none⟩ (.slice va 32 vc)) b s q) := hW2
      have HAg : Hid (Avoid ((wr.setCell ⟨b, 0, none⟩ (.slice ka 32 kc)).setCell ⟨b, 1, none⟩ (.slice va 32 vc)) b g0) := avoid_at hA2 (hK0.off hgs) (hV0.off hgs)
      have HN1 : Hid (n = 0) := hn1
      have HF1 : Hid (f = false) := hf1
      have HT1 : Hid (t = s) := ht1
      clear hn1 hf1 ht1 hK0 hV0 hO0 hOV0 hA0 hS hA hOw AA hF2 hX2 hA2 hW2 hno hAv WW XW PW NW kD kX kF hGw HT HS
      go_wp2_with fail
      rw [Exit.noGoto_ret]
      refine body_cut' (fun F => At 24 F g0 [.int .u64 0, .int .u64 0, .int .u64 0, .int .u64 0] ∧ Went w F b (s) q) ⟨at4 HX2.out _ _ _ _, HW2.out.far (oth4 g0 _ _ _ _ _) hgs (by omega) HAg.out⟩ ?_
      rintro F ⟨hX, hW⟩
      have r0 := hX.cell 0
      have r1 := hX.cell 1
      have r2 := hX.cell 2
      have r3 := hX.cell 3
      simp only [List.getElem?_cons_zero, List.getElem?_cons_succ] at r0 r1 r2 r3
      refine bodyPost_ret (v := .tuple #[.agg #[.int .u64 0, .int .u64 0, .int .u64 0, .int .u64 0], .bool false]) (by simp [results, Tryd.results9, go_sem, r0, r1, r2, r3]) rfl ⟨?_, ?_⟩
      · rw [HN1.out, HF1.out, fw_zero]
      · rw [HT1.out]; exact hW
end Go.Proofs.YtlpmbhneffdcfaaDoor
