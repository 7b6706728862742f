/-
  The contracts of the program's Bytes, Of and From of layer 10, of points of the curve. Conditions: as each theorem says.
-/
import Derived.Test.YtkbiiolkekpkiaaDoorEgG
import Derived.Test.YtkbiiolkekpkiaaDoorEgH
import Derived.Test.YtkbiiolkekpkiaaDoorDA
namespace Go.Proofs.YtkbiiolkekpkiaaDoor.Ed
open Go.RowKit
set_option linter.unusedVariables false
set_option linter.unusedSimpArgs false

theorem nn_k (x : L5) (a : K) (h : kx x = a) : x.nn = a.val := by rw [← h, kx_nn]
theorem neg_bit (x : L5) (tx : x.Tm) (b : Bool) (hb : b = true ↔ x.nn % 2 = 1) (w : World) : Calls Tryd.prog 37 #[.agg #[.int .u64 x.l0, .int .u64 x.l1, .int .u64 x.l2, .int .u64 x.l3, .int .u64 x.l4]] w fun e w' => e = .returned (.bool b) ∧ Below w.heap.size w w' := by
  refine negative_fe x tx b ?_ w
  have e := x.nn_eq
  rw [← e]
  by_cases h : x.nn % 2 = 1
  · rw [hb.2 h, decide_eq_true (by omega)]
  · rw [decide_eq_false (by omega)]
    cases b
    · rfl
    · exact absurd (hb.1 rfl) h
theorem bytes_p (p : P4) (P : Pt) (hp : p.Is P) : ∀ w : World, Calls Tryd.prog 14 #[.agg #[.int .u64 p.x.l0, .int .u64 p.x.l1, .int .u64 p.x.l2, .int .u64 p.x.l3, .int .u64 p.x.l4, .int .u64 p.y.l0, .int .u64 p.y.l1, .int .u64 p.y.l2, .int .u64 p.y.l3, .int .u64 p.y.l4, .int .u64 p.z.l0, .int .u64 p.z.l1, .int .u64 p.z.l2, .int .u64 p.z.l3, .int .u64 p.z.l4, .int .u64 p.t.l0, .int .u64 p.t.l1, .int .u64 p.t.l2, .int .u64 p.t.l3, .int .u64 p.t.l4]] w fun e w' => ∃ g, e = .returned (.slice (some ⟨g, 0, none⟩) 32 32) ∧ SK .u8 w' (.slice (some ⟨g, 0, none⟩) 32 32) (bytesOf P) ∧ w.heap.size ≤ g ∧ Below w.heap.size w w' := by
  intro w
  obtain ⟨x, y, tx, ty, ex, ey, qp⟩ := pair_p p P hp
  have nx := nn_k x _ ex
  have ny := nn_k y _ ey
  have ly : P.y.val < 2 ^ 255 := Nat.lt_trans (val_lt _) P25_top
  have qb : ∀ w : World, Calls Tryd.prog 56 #[.agg #[.int .u64 y.l0, .int .u64 y.l1, .int .u64 y.l2, .int .u64 y.l3, .int .u64 y.l4]] w fun e w' => ∃ g, e = .returned (.slice (some ⟨g, 0, none⟩) 32 32) ∧ Fil P.y.val g 32 w' ∧ w.heap.size ≤ g ∧ Below w.heap.size w w' := fun w => by
    have h := bytes_fe y ty w
    rwa [ny] at h
  by_cases hx : P.x.val % 2 = 1
  · refine (bytes_yes_w p.x p.y p.z p.t x y P.y.val ly qp (neg_bit x tx true (by rw [nx]; exact ⟨fun _ => hx, fun _ => rfl⟩)) qb w).mono fun e w' h => ?_
    obtain ⟨g, e1, e2, e3, e4⟩ := h
    refine ⟨g, e1, ?_, e3, e4⟩
    unfold bytesOf
    rw [if_pos hx]
    exact fil_sk _ _ _ e2
  · refine (bytes_no_w p.x p.y p.z p.t x y P.y.val ly qp (neg_bit x tx false (by rw [nx]; exact ⟨fun h => Bool.noConfusion h, fun h => absurd h hx⟩)) qb w).mono fun e w' h => ?_
    obtain ⟨g, e1, e2, e3, e4⟩ := h
    refine ⟨g, e1, ?_, e3, e4⟩
    unfold bytesOf
    rw [if_neg hx, Nat.add_zero]
    exact fil_sk _ _ _ e2
/-- The x of a y, as the document has it. -/
theorem across_p (y : L5) (ty : y.Tm) (U V : Nat) (hU : (y.nn * y.nn % P25 + P25 - 1) % P25 = U) (hV : (D25 * (y.nn * y.nn % P25) % P25 + 1) % P25 = V) : ∃ z : L5, z.Tm ∧ z.nn = ratN U V ∧ ∀ w : World, Gd w → Gl w → Calls Tryd.prog 35 #[.agg #[.int .u64 y.l0, .int .u64 y.l1, .int .u64 y.l2, .int .u64 y.l3, .int .u64 y.l4]] w fun e w' => e = .returned (.tuple #[.agg #[.int .u64 z.l0, .int .u64 z.l1, .int .u64 z.l2, .int .u64 z.l3, .int .u64 z.l4], .bool (ratOk U V)]) ∧ Below w.heap.size w w' := by
  obtain ⟨s, ts, es, qs⟩ := square_fe y 1 ty (by omega) 1 (Or.inr (Or.inl ⟨by omega, by omega, rfl⟩))
  have ns : s.nn = y.nn * y.nn % P25 := nn_mul y y s (by
    have e := es.out
    rw [show (2 : Nat) ^ 1 = 1 + 1 from rfl, Int.pow_succ, Int.pow_succ, Int.pow_zero, Int.one_mul] at e
    exact e)
  have n1 : L5.nn ⟨1, 0, 0, 0, 0⟩ = 1 := nn_small 1 (by decide +kernel)
  have nd : d_.nn = D25 := nn_low (by decide +kernel) (by decide +kernel)
  obtain ⟨u, tu, eu, qu⟩ := sub_fe s ⟨1, 0, 0, 0, 0⟩ ts one_tm
  have nu := nn_sub _ _ _ eu.out
  obtain ⟨m, tm, em, qm⟩ := mul_fe d_ s d_tm ts
  have nm := nn_mul _ _ _ em.out
  obtain ⟨v, tv, ev, qv⟩ := add_fe m ⟨1, 0, 0, 0, 0⟩ tm one_tm
  have nv := nn_add _ _ _ ev.out
  obtain ⟨z, lz, ez, qz⟩ := root_fe u v tu tv
  rw [n1, ns, hU] at nu
  rw [nd, ns] at nm
  rw [n1, nm, hV] at nv
  obtain ⟨c1, c2⟩ := code_rat u.nn_lt v.nn_lt
  have nz : z.nn = codeN u.nn v.nn := nn_low ez (by rw [c2]; exact rat_lt _ _)
  rw [c2, nu, nv] at nz
  refine ⟨z, lz.tm, nz, fun w hD hZ => ?_⟩
  rw [← nu, ← nv, ← c1]
  exact across_w y s u m v z (codeOk u.nn v.nn) (fun w => small_fe 1 (by omega) w) qs qu qm qv qz w hD hZ
theorem ld_nn (n : Nat) (h : n < P25) : (ld n).nn = n := nn_low (ld_num n) h
theorem bs_byte (n : Nat) : ∀ j, 0 ≤ byteAt n j ∧ byteAt n j ≤ 255 := fun j => byteAt_rng n j
theorem vb_low (y : Nat) (h : y < 2 ^ 255) : vb (byteAt y) 32 = y := by
  rw [vb_byteAt]
  exact Nat.mod_eq_of_lt (Nat.lt_trans h (by decide +kernel))
theorem bit_low (N : Nat) (h : N < 2 ^ 255) : bits .and .u8 (byteAt N 31) 128 = 0 := by
  show bits .and .u8 ((N / 2 ^ 248 % 256 : Nat) : Int) 128 = 0
  rw [and128 _ (by omega), show N / 2 ^ 248 % 256 / 128 * 128 = 0 by omega]
  rfl
theorem bit_high (N : Nat) (h : 2 ^ 255 ≤ N) (h2 : N < 2 ^ 256) : bits .and .u8 (byteAt N 31) 128 = 128 := by
  show bits .and .u8 ((N / 2 ^ 248 % 256 : Nat) : Int) 128 = 128
  rw [and128 _ (by omega), show N / 2 ^ 248 % 256 / 128 * 128 = 128 by omega]
  rfl
theorem ko_yes (y : Nat) (h : y < P25) (w : World) (g c : Nat) (hg : g < w.heap.size) (hc : ∀ j, j < 32 → w.cell? ⟨g, 0 + j, none⟩ = some (.int .u8 (byteAt y j))) :
    Calls Tryd.prog 34 #[.slice (some ⟨g, 0, none⟩) 32 c] w fun e w' => e = .returned (.tuple #[.agg #[.int .u64 (ld y).l0, .int .u64 (ld y).l1, .int .u64 (ld y).l2, .int .u64 (ld y).l3, .int .u64 (ld y).l4], .bool true]) ∧ Below w.heap.size w w' := by
  have hv := vb_low y (Nat.lt_trans h P25_top)
  have h2 := Go.Proofs.YtkbiiolkekpkiaaDoor.of_yes (byteAt y) (bs_byte y) g 0 c w hg hc (by rw [hv]; exact h)
  rwa [hv] at h2
theorem ko_no (y : Nat) (h : ¬ y < P25) (h2 : y < 2 ^ 255) (w : World) (g c : Nat) (hg : g < w.heap.size) (hc : ∀ j, j < 32 → w.cell? ⟨g, 0 + j, none⟩ = some (.int .u8 (byteAt y j))) :
    Calls Tryd.prog 34 #[.slice (some ⟨g, 0, none⟩) 32 c] w fun e w' => e = .returned (.tuple #[.agg #[.int .u64 0, .int .u64 0, .int .u64 0, .int .u64 0, .int .u64 0], .bool false]) ∧ Below w.heap.size w w' := by
  have hv := vb_low y h2
  exact Go.Proofs.YtkbiiolkekpkiaaDoor.of_no (byteAt y) (bs_byte y) g 0 c w hg hc (by rw [hv]; exact h)
theorem kc_clone (N b o c : Nat) (w : World) (hs : SK .u8 w (.slice (some ⟨b, o, none⟩) 32 c) (leB N 32)) (W : World) (hW : Below w.heap.size w W) :
    Calls Tryd.prog 33 #[.slice (some ⟨b, o, none⟩) 32 c] W fun e w' => ∃ v', e = .returned v' ∧ Own8 W.heap.size w' v' (leB N 32) ∧ Below W.heap.size W w' :=
  clone_own (leB N 32) (by rw [leB_length]; omega) ⟨b, o, none⟩ c 32 (leB_length _ _) W (hs.below hW)
theorem hc_bytes (N b o c : Nat) (w : World) (hs : SK .u8 w (.slice (some ⟨b, o, none⟩) 32 c) (leB N 32)) : b < w.heap.size ∧ ∀ j, j < 32 → w.cell? ⟨b, o + j, none⟩ = some (.int .u8 (byteAt N j)) := by
  refine ⟨hs.blk (leB_length _ _) (by omega), fun j hj => ?_⟩
  rw [hs.cells (leB_length _ _) (by omega) j hj, leB_byte N j hj]
theorem of_yes_p (P : Pt) : ∃ c : P4, c.Is P ∧ ∀ (v : Value) (w : World), SK .u8 w v (bytesOf P) → Gd w → Gl w → Calls Tryd.prog 8 #[v] w fun e w' => e = .returned (.tuple #[.agg #[.int .u64 c.x.l0, .int .u64 c.x.l1, .int .u64 c.x.l2, .int .u64 c.x.l3, .int .u64 c.x.l4, .int .u64 c.y.l0, .int .u64 c.y.l1, .int .u64 c.y.l2, .int .u64 c.y.l3, .int .u64 c.y.l4, .int .u64 c.z.l0, .int .u64 c.z.l1, .int .u64 c.z.l2, .int .u64 c.z.l3, .int .u64 c.z.l4, .int .u64 c.t.l0, .int .u64 c.t.l1, .int .u64 c.t.l2, .int .u64 c.t.l3, .int .u64 c.t.l4], .bool true]) ∧ Below w.heap.size w w' := by
  have hy := val_lt P.y
  have ht := P25_top
  have ty : (ld P.y.val).Tm := ld_tame _ (by omega)
  have ny := ld_nn P.y.val hy
  have ky : kx (ld P.y.val) = P.y := by unfold kx; rw [ny, k_of]
  have hpt := of_point P _ _ _ _ rfl rfl rfl rfl
  obtain ⟨U, hU⟩ : ∃ U, (P.y.val * P.y.val % P25 + P25 - 1) % P25 = U := ⟨_, rfl⟩
  obtain ⟨V, hV⟩ : ∃ V, (D25 * (P.y.val * P.y.val % P25) % P25 + 1) % P25 = V := ⟨_, rfl⟩
  rw [hU, hV] at hpt
  obtain ⟨o1, o2, o3⟩ := hpt
  obtain ⟨s0, s1⟩ := of_sign (ratN U V) P.x.val (val_lt _) o2 o3
  obtain ⟨z, tz, nz, qz⟩ := across_p (ld P.y.val) ty U V (by rw [ny]; exact hU) (by rw [ny]; exact hV)
  rw [o1] at qz
  by_cases hx : P.x.val % 2 = 1
  · obtain ⟨xn, tn, en, qn⟩ := neg_fe z tz
    have nn : xn.nn = P.x.val := by
      rw [nn_neg z xn en.out, nz, (s1 hx).2]
      exact Nat.mod_eq_of_lt (val_lt _)
    have kn : kx xn = P.x := by unfold kx; rw [nn, k_of]
    obtain ⟨c, hc, qc⟩ := of_is xn (ld P.y.val) tn ty P kn ky
    refine ⟨c, hc, fun v w hs hD hZ => ?_⟩
    unfold bytesOf at hs
    rw [if_pos hx] at hs
    obtain ⟨b, o, cc, rfl, -⟩ := hs.words (leB_length _ _) (by omega)
    obtain ⟨hb, hcl⟩ := hc_bytes _ _ _ _ _ hs
    exact ofP_yes_neg_w (ld P.y.val) z xn c.x c.y c.z c.t (P.y.val + 2 ^ 255) P.y.val b o cc (by omega) (show P.y.val = (P.y.val + 2 ^ 255) % 2 ^ 255 by omega) (bit_high _ (by omega) (by omega)) w hb hcl (kc_clone _ _ _ _ _ hs) (ko_yes P.y.val hy) qz qn (neg_bit xn tn true (by rw [nn]; exact ⟨fun _ => hx, fun _ => rfl⟩)) qc hD hZ
  · have nz2 : z.nn = P.x.val := by rw [nz]; exact s0 (by omega)
    have kz : kx z = P.x := by unfold kx; rw [nz2, k_of]
    obtain ⟨c, hc, qc⟩ := of_is z (ld P.y.val) tz ty P kz ky
    refine ⟨c, hc, fun v w hs hD hZ => ?_⟩
    unfold bytesOf at hs
    rw [if_neg hx, Nat.add_zero] at hs
    obtain ⟨b, o, cc, rfl, -⟩ := hs.words (leB_length _ _) (by omega)
    obtain ⟨hb, hcl⟩ := hc_bytes _ _ _ _ _ hs
    exact ofP_yes_w (ld P.y.val) z c.x c.y c.z c.t P.y.val P.y.val b o cc (by omega) (show P.y.val = P.y.val % 2 ^ 255 by omega) (bit_low _ (by omega)) w hb hcl (kc_clone _ _ _ _ _ hs) (ko_yes P.y.val hy) qz (neg_bit z tz false (by rw [nz2]; exact ⟨fun h => Bool.noConfusion h, fun h => absurd h hx⟩)) qc hD hZ
theorem of_no_p (l : List Nat) (hb : Bb l) (hno : ∀ P, ¬ bytesOf P = l) (v : Value) (w : World) (hs : SK .u8 w v l) (hD : Gd w) (hZ : Gl w) :
    Calls Tryd.prog 8 #[v] w fun e w' => e = .returned (.tuple #[.agg #[.int .u64 0, .int .u64 0, .int .u64 0, .int .u64 0, .int .u64 0, .int .u64 0, .int .u64 0, .int .u64 0, .int .u64 0, .int .u64 0, .int .u64 0, .int .u64 0, .int .u64 0, .int .u64 0, .int .u64 0, .int .u64 0, .int .u64 0, .int .u64 0, .int .u64 0, .int .u64 0], .bool false]) ∧ Below w.heap.size w w' := by
  have ht := P25_top
  by_cases hlen : l.length = 32
  · have hl := le_hv l hb hlen
    have hN2 : hvN (turn l) 32 < 2 ^ 256 := by
      have := hvN_lt (turn l) (bb_turn l hb) 32
      rwa [show (256 : Nat) ^ 32 = 2 ^ 256 by decide +kernel] at this
    obtain ⟨N, hN⟩ : ∃ N, hvN (turn l) 32 = N := ⟨_, rfl⟩
    rw [hN] at hl hN2
    rw [← hl] at hs
    obtain ⟨b, o, cc, rfl, -⟩ := hs.words (leB_length _ _) (by omega)
    obtain ⟨hbl, hcl⟩ := hc_bytes _ _ _ _ _ hs
    obtain ⟨y, hy⟩ : ∃ y, y = N % 2 ^ 255 := ⟨_, rfl⟩
    have hy2 : y < 2 ^ 255 := by omega
    by_cases hyP : y < P25
    · have ty : (ld y).Tm := ld_tame _ (by omega)
      have ny := ld_nn y hyP
      obtain ⟨U, hU⟩ : ∃ U, (y * y % P25 + P25 - 1) % P25 = U := ⟨_, rfl⟩
      obtain ⟨V, hV⟩ : ∃ V, (D25 * (y * y % P25) % P25 + 1) % P25 = V := ⟨_, rfl⟩
      obtain ⟨z, tz, nz, qz⟩ := across_p (ld y) ty U V (by rw [ny]; exact hU) (by rw [ny]; exact hV)
      by_cases hok : ratOk U V = true
      · have hon := of_on y _ _ U V rfl hU rfl hV hok
        obtain ⟨a1, a2, a3, a4, a5⟩ := uv_k y _ _ U V rfl hU rfl hV
        have hr := (rat_spec U V a3 a4 hok).2
        have hlt := rat_lt U V
        have hodd := P25_odd
        by_cases hsg : N < 2 ^ 255
        · exfalso
          refine hno ⟨k (ratN U V), k y, hon.1⟩ ?_
          unfold bytesOf
          dsimp only
          rw [k_small _ hlt, k_small _ hyP, if_neg (by omega), Nat.add_zero, show y = N by omega]
          exact hl
        · by_cases hz : ratN U V = 0
          · rw [hok] at qz
            obtain ⟨xn, tn, en, qn⟩ := neg_fe z tz
            have nn : xn.nn = 0 := by
              rw [nn_neg z xn en.out, nz, hz, Nat.sub_zero, Nat.mod_self]
            exact ofP_zero_neg_w (ld y) z xn N y b o cc hN2 hy (bit_high _ (by omega) hN2) w hbl hcl (kc_clone _ _ _ _ _ hs) (ko_yes y hyP) qz qn (neg_bit xn tn false (by rw [nn]; exact ⟨fun h => Bool.noConfusion h, fun h => by omega⟩)) hD hZ
          · exfalso
            have e1 : k (P25 - ratN U V) = -k (ratN U V) := by
              have := k_sub 0 (ratN U V) (by omega)
              rw [Nat.zero_add, k_mod, k_zero, from_zero] at this
              exact this
            refine hno ⟨k (P25 - ratN U V), k y, by rw [e1]; exact hon.2⟩ ?_
            unfold bytesOf
            dsimp only
            rw [k_small _ hyP, k_small _ (by omega), if_pos (by omega), show y + 2 ^ 255 = N by omega]
            exact hl
      · have hf : ratOk U V = false := by simpa using hok
        rw [hf] at qz
        by_cases hsg : N < 2 ^ 255
        · exact ofP_notok_w (ld y) z N y b o cc hN2 hy (bit_low _ hsg) w hbl hcl (kc_clone _ _ _ _ _ hs) (ko_yes y hyP) qz hD hZ
        · exact ofP_notok_neg_w (ld y) z N y b o cc hN2 hy (bit_high _ (by omega) hN2) w hbl hcl (kc_clone _ _ _ _ _ hs) (ko_yes y hyP) qz hD hZ
    · by_cases hsg : N < 2 ^ 255
      · exact ofP_big_w ⟨0, 0, 0, 0, 0⟩ N y b o cc hN2 hy (bit_low _ hsg) w hbl hcl (kc_clone _ _ _ _ _ hs) (ko_no y hyP hy2) hD hZ
      · exact ofP_big_neg_w ⟨0, 0, 0, 0, 0⟩ N y b o cc hN2 hy (bit_high _ (by omega) hN2) w hbl hcl (kc_clone _ _ _ _ _ hs) (ko_no y hyP hy2) hD hZ
  · obtain ⟨a, c, rfl⟩ := hs.shape
    exact ofP_short_w a l.length c hlen w
end Go.Proofs.YtkbiiolkekpkiaaDoor.Ed

/-
  Points, the program's and the document's, as lists of cells that nobody looks into; the contracts of layer 10 said of such. Conditions: as each theorem says.
-/
namespace Go.Proofs.YtkbiiolkekpkiaaDoor.Ed
open Go.RowKit
set_option linter.unusedVariables false
set_option linter.unusedSimpArgs false

/-- A list of cells that fills a point. -/
structure Pl (L : List Value) : Prop where
  len : L.length = 20
  one : L.toArray.all (·.oneCell') = true
theorem Pl.il {L : List Value} (h : Pl L) : (Tryd.prog.info? 30).map (·.size) = some L.length := by rw [h.len]; kernel_rfl
theorem Pl.is {L : List Value} (h : Pl L) : (Tryd.prog.info? 30).map (·.size) = some L.toArray.size := by rw [List.size_toArray]; exact h.il
/-- The cells of a point. -/
def P4.l (c : P4) : List Value := [.int .u64 c.x.l0, .int .u64 c.x.l1, .int .u64 c.x.l2, .int .u64 c.x.l3, .int .u64 c.x.l4, .int .u64 c.y.l0, .int .u64 c.y.l1, .int .u64 c.y.l2, .int .u64 c.y.l3, .int .u64 c.y.l4, .int .u64 c.z.l0, .int .u64 c.z.l1, .int .u64 c.z.l2, .int .u64 c.z.l3, .int .u64 c.z.l4, .int .u64 c.t.l0, .int .u64 c.t.l1, .int .u64 c.t.l2, .int .u64 c.t.l3, .int .u64 c.t.l4]
theorem P4.pl (c : P4) : Pl c.l := ⟨rfl, by kernel_rfl⟩
end Go.Proofs.YtkbiiolkekpkiaaDoor.Ed

/-
  The law's awake of layer 10: the chapter's example: the walk, given what each call answers. Conditions: as each theorem says.
-/
namespace Go.Proofs.YtkbiiolkekpkiaaDoor.Ed
open Go.RowKit
set_option linter.unusedVariables false
set_option linter.unusedSimpArgs false

theorem awake_cells (g : Nat) (w : World) (hs : SK .u8 w (.slice (some ⟨g, 0, none⟩) 32 32) (bytesOf baseP)) : w.cell? ⟨g, 0, none⟩ = some (.int .u8 88) ∧ w.cell? ⟨g, 1, none⟩ = some (.int .u8 102) ∧ w.cell? ⟨g, 31, none⟩ = some (.int .u8 102) := by
  rw [base_bytes] at hs
  have h := fun j (hj : j < 32) => hs.cells (leB_length _ _) (by omega) j hj
  have h0 := h 0 (by omega)
  have h1 := h 1 (by omega)
  have h2 := h 31 (by omega)
  rw [Nat.zero_add, leB_byte _ _ (by omega)] at h0 h1 h2
  exact ⟨h0.trans (by rw [show byteAt bY 0 = 88 by decide +kernel]), h1.trans (by rw [show byteAt bY 1 = 102 by decide +kernel]), h2.trans (by rw [show byteAt bY 31 = 102 by decide +kernel])⟩
set_option maxRecDepth 100000 in
set_option maxHeartbeats 16000000 in
theorem awake_w (ca : List Value) (ca_h : Pl ca) 
    (Q1 : Hid (∀ w : World, GbaseX w → GbaseY w → Calls Tryd.prog 31 #[] w fun e w' => e = .returned (.agg ca.toArray) ∧ Below w.heap.size w w'))
    (Q2 : Hid (∀ w : World, Calls Tryd.prog 14 #[.agg ca.toArray] w fun e w' => ∃ g, e = .returned (.slice (some ⟨g, 0, none⟩) 32 32) ∧ SK .u8 w' (.slice (some ⟨g, 0, none⟩) 32 32) (bytesOf baseP) ∧ w.heap.size ≤ g ∧ Below w.heap.size w w'))
    (w : World) (U_0 : Hid (GbaseX w)) (V_0 : Hid (GbaseY w)) :
    Calls Tryd.prog 7 #[] w fun e w' => e = .returned (.bool true) ∧ Below w.heap.size w w' := by
  go_enter Tryd.func7, Tryd.ntmps7
  go_upto_region 1 with fail
  have HU := U_0.out.lt
  have HV := V_0.out.lt
  refine wp_cut (fun V => GbaseX V ∧ GbaseY V ∧ Below w.heap.size w V) ⟨?_, ?_, ?_⟩ ?_
  · refine U_0.out.grown ?_
    (repeat (first | exact Below.refl _ _ | refine Below.drew ?_ | refine below_drewN ?_ _ | refine Below.alloc ?_ (by simp <;> omega) _))
  · refine V_0.out.grown ?_
    (repeat (first | exact Below.refl _ _ | refine Below.drew ?_ | refine below_drewN ?_ _ | refine Below.alloc ?_ (by simp <;> omega) _))
  · (repeat (first | exact Below.refl _ _ | refine Below.drew ?_ | refine below_drewN ?_ _ | refine Below.alloc ?_ (by simp <;> omega) _))
  rintro w1 ⟨k0, k1, k2⟩
  have U_1 := hid k0
  have V_1 := hid k1
  have G_1 := hid k2
  clear k0 k1 k2 U_0 V_0
  go_wp2_with (fail)
  refine (Q1.out _ U_1.out V_1.out).mono ?_
  rintro e w2 ⟨rfl, g0⟩
  have g := g0
  clear g0
  have U_2 := hid (U_1.out.grown g)
  have V_2 := hid (V_1.out.grown g)
  have G_2 := hid (G_1.out.trans (g.mono G_1.out.size))
  clear g U_1 V_1 G_1
  go_wp2_with (fail)
  refine (Q2.out _).mono ?_
  rintro e w3 ⟨g1, rfl, hs1, -, g0⟩
  have g := g0
  clear g0
  have U_3 := hid (U_2.out.grown g)
  have V_3 := hid (V_2.out.grown g)
  have G_3 := hid (G_2.out.trans (g.mono G_2.out.size))
  clear g U_2 V_2 G_2
  have S1_3 : Hid (SK .u8 w3 (.slice (some ⟨g1, 0, none⟩) 32 32) (bytesOf baseP)) := hs1
  clear hs1
  obtain ⟨a0, a1, a2⟩ := awake_cells _ _ S1_3.out
  go_wp2_with fail
  go_ret
  exact ⟨rfl, G_3.out⟩
theorem awake10_any (w : World) (hx : GbaseX w) (hy : GbaseY w) : Calls Tryd.prog 7 #[] w fun e w' => e = .returned (.bool true) ∧ Below w.heap.size w w' := by
  obtain ⟨c, hc, qc⟩ := base_p
  exact awake_w c.l c.pl qc (bytes_p c baseP hc) w hx hy
end Go.Proofs.YtkbiiolkekpkiaaDoor.Ed
