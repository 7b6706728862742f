/-
  The program's points of layer 10 as four elements of layer 4; their numbers in the field; its package's variables in memory. Conditions: as each theorem says.
-/
import Derived.Test.YtkbiiolkekpkiaaDoorEdM
import Derived.Test.YtkbiiolkekpkiaaDoorEdV
import Derived.Test.YtkbiiolkekpkiaaDoorFK
import Derived.Test.YtkbiiolkekpkiaaDoorFO
import Derived.Test.YtkbiiolkekpkiaaDoorFH
import Derived.Test.YtkbiiolkekpkiaaDoorGX
import Derived.Test.YtkbiiolkekpkiaaDoorFB
import Derived.Deep.DeepCutAuto
import Derived.Test.YtkbiiolkekpkiaaDoorLate
import Derived.Test.YtkbiiolkekpkiaaDoorGrow
import Derived.Test.YtkbiiolkekpkiaaDoorFL
import Derived.Test.YtkbiiolkekpkiaaDoorFX
import Derived.Lib.LazyBuf
namespace Go.Proofs.YtkbiiolkekpkiaaDoor.Ed
open Go.RowKit
set_option linter.unusedVariables false
set_option linter.unusedSimpArgs false

/-- An element's number in the field. -/
def kx (x : L5) : K := k x.nn
theorem kx_mul (x y z : L5) (h : Hid (z.num % (P25 : Int) = x.num * y.num % (P25 : Int))) : kx z = kx x * kx y := by
  unfold kx
  rw [nn_mul x y z h.out, k_mod, k_mul]
theorem kx_add (x y z : L5) (h : Hid (z.num % (P25 : Int) = (x.num + y.num) % (P25 : Int))) : kx z = kx x + kx y := by
  unfold kx
  rw [nn_add x y z h.out, k_mod, k_add]
theorem kx_sub (x y z : L5) (h : Hid (z.num % (P25 : Int) = (x.num - y.num) % (P25 : Int))) : kx z = kx x - kx y := by
  unfold kx
  have hl := y.nn_lt
  rw [nn_sub x y z h.out, k_sub _ _ (by omega)]
theorem kx_neg (x z : L5) (h : Hid (z.num % (P25 : Int) = (- x.num) % (P25 : Int))) : kx z = -kx x := by
  unfold kx
  have hl := x.nn_lt
  have h2 := k_sub 0 x.nn (by omega)
  rw [Nat.zero_add, k_zero, from_zero] at h2
  rw [nn_neg x z h.out, h2]
theorem kx_sq (x z : L5) (h : Hid (z.num % (P25 : Int) = x.num ^ 2 ^ 1 % (P25 : Int))) : kx z = kx x * kx x := by
  refine kx_mul x x z ?_
  have e := h.out
  rw [show (2 : Nat) ^ 1 = 1 + 1 from rfl, Int.pow_succ, Int.pow_succ, Int.pow_zero, Int.one_mul] at e
  exact e
theorem kx_small (n : Nat) (hn : n < P25) : kx ⟨(n : Int), 0, 0, 0, 0⟩ = k n := by
  unfold kx
  rw [nn_small n hn]
theorem kx_nn (x : L5) : (kx x).val = x.nn := Nat.mod_eq_of_lt x.nn_lt
theorem kx_eq (x y : L5) : kx x = kx y ↔ x.nn = y.nn := by
  rw [Fin.ext_iff, kx_nn, kx_nn]
theorem nn_pw (x z : L5) (e : Nat) (h : z.num % (P25 : Int) = x.num ^ e % (P25 : Int)) : z.nn = x.nn ^ e % P25 := by
  refine L5.nn_of ?_
  rw [h, Int.natCast_pow]
  exact pow_congZ x.nn_mod e
theorem kx_inv (x z : L5) (h : Hid (z.num % (P25 : Int) = x.num ^ (P25 - 2) % (P25 : Int))) (hx : ¬ kx x = 0) : kx x * kx z = 1 := by
  have h1 := nn_pw x z _ h.out
  obtain ⟨e, he⟩ : ∃ e, P25 - 2 = e := ⟨_, rfl⟩
  have he1 : e + 1 = P25 - 1 := by rw [← he]; decide +kernel
  rw [he] at h1
  unfold kx at hx ⊢
  rw [h1, k_mod, ← k_mul, ← k_one, k_eq, Nat.mul_comm, ← Nat.pow_succ]
  show x.nn ^ (e + 1) % P25 = _
  rw [he1, fermat P25_prime (fun q => hx ((k_nought _).2 q))]
  decide +kernel

/-- A point of the program: four elements. -/
structure P4 where
  x : L5
  y : L5
  z : L5
  t : L5
/-- The elements are tame, and stand for the point. -/
structure P4.Is (c : P4) (p : Pt) : Prop where
  x : c.x.Tm
  y : c.y.Tm
  z : c.z.Tm
  t : c.t.Tm
  rx : Rx (kx c.x) (kx c.y) (kx c.z) (kx c.t) p
def d_ : L5 := ⟨929955233495203, 466365720129213, 1662059464998953, 2033849074728123, 1442794654840575⟩
theorem d_tm : d_.Tm := by unfold L5.Tm Tame d_; decide
def twiceD_ : L5 := ⟨1859910466990425, 932731440258426, 1072319116312658, 1815898335770999, 633789495995903⟩
theorem twiceD_tm : twiceD_.Tm := by unfold L5.Tm Tame twiceD_; decide
def baseX_ : L5 := ⟨1738742601995546, 1146398526822698, 2070867633025821, 562264141797630, 587772402128613⟩
theorem baseX_tm : baseX_.Tm := by unfold L5.Tm Tame baseX_; decide
def baseY_ : L5 := ⟨1801439850948184, 1351079888211148, 450359962737049, 900719925474099, 1801439850948198⟩
theorem baseY_tm : baseY_.Tm := by unfold L5.Tm Tame baseY_; decide
theorem nn_known (x : L5) (n : Nat) (h : x.num = (n : Int)) (hn : n < P25) : kx x = k n := by
  unfold kx
  rw [nn_low h hn]
theorem d_k : kx d_ = dd := nn_known d_ D25 (by decide +kernel) (by decide +kernel)
theorem twiceD_k : kx twiceD_ = dd + dd := by
  rw [nn_known twiceD_ (D25 + D25 - P25) (by decide +kernel) (by decide +kernel)]
  unfold dd
  rw [← k_add, k_eq]
  decide +kernel
theorem baseX_k : kx baseX_ = k bX := nn_known baseX_ bX (by decide +kernel) bX_lt
theorem baseY_k : kx baseY_ = k bY := nn_known baseY_ bY (by decide +kernel) bY_lt
/-- The variable d, in memory. -/
structure Gd (W : World) : Prop where
  lt : 0 < W.heap.size
  a0 : W.cell? ⟨0, 0, none⟩ = some (.int .u64 929955233495203)
  a1 : W.cell? ⟨0, 1, none⟩ = some (.int .u64 466365720129213)
  a2 : W.cell? ⟨0, 2, none⟩ = some (.int .u64 1662059464998953)
  a3 : W.cell? ⟨0, 3, none⟩ = some (.int .u64 2033849074728123)
  a4 : W.cell? ⟨0, 4, none⟩ = some (.int .u64 1442794654840575)
theorem Gd.below {W W' : World} (h : Gd W) {n : Nat} (hb : Below n W W') (hn : 0 < n) : Gd W' :=
  ⟨Nat.lt_of_lt_of_le h.lt hb.size, (hb.cell (p := ⟨0, 0, none⟩) hn).trans h.a0, (hb.cell (p := ⟨0, 1, none⟩) hn).trans h.a1, (hb.cell (p := ⟨0, 2, none⟩) hn).trans h.a2, (hb.cell (p := ⟨0, 3, none⟩) hn).trans h.a3, (hb.cell (p := ⟨0, 4, none⟩) hn).trans h.a4⟩
theorem Gd.grown {W W' : World} (h : Gd W) (hb : Below W.heap.size W W') : Gd W' := h.below hb h.lt
/-- The variable twiceD, in memory. -/
structure GtwiceD (W : World) : Prop where
  lt : 1 < W.heap.size
  a0 : W.cell? ⟨1, 0, none⟩ = some (.int .u64 1859910466990425)
  a1 : W.cell? ⟨1, 1, none⟩ = some (.int .u64 932731440258426)
  a2 : W.cell? ⟨1, 2, none⟩ = some (.int .u64 1072319116312658)
  a3 : W.cell? ⟨1, 3, none⟩ = some (.int .u64 1815898335770999)
  a4 : W.cell? ⟨1, 4, none⟩ = some (.int .u64 633789495995903)
theorem GtwiceD.below {W W' : World} (h : GtwiceD W) {n : Nat} (hb : Below n W W') (hn : 1 < n) : GtwiceD W' :=
  ⟨Nat.lt_of_lt_of_le h.lt hb.size, (hb.cell (p := ⟨1, 0, none⟩) hn).trans h.a0, (hb.cell (p := ⟨1, 1, none⟩) hn).trans h.a1, (hb.cell (p := ⟨1, 2, none⟩) hn).trans h.a2, (hb.cell (p := ⟨1, 3, none⟩) hn).trans h.a3, (hb.cell (p := ⟨1, 4, none⟩) hn).trans h.a4⟩
theorem GtwiceD.grown {W W' : World} (h : GtwiceD W) (hb : Below W.heap.size W W') : GtwiceD W' := h.below hb h.lt
/-- The variable baseX, in memory. -/
structure GbaseX (W : World) : Prop where
  lt : 2 < W.heap.size
  a0 : W.cell? ⟨2, 0, none⟩ = some (.int .u64 1738742601995546)
  a1 : W.cell? ⟨2, 1, none⟩ = some (.int .u64 1146398526822698)
  a2 : W.cell? ⟨2, 2, none⟩ = some (.int .u64 2070867633025821)
  a3 : W.cell? ⟨2, 3, none⟩ = some (.int .u64 562264141797630)
  a4 : W.cell? ⟨2, 4, none⟩ = some (.int .u64 587772402128613)
theorem GbaseX.below {W W' : World} (h : GbaseX W) {n : Nat} (hb : Below n W W') (hn : 2 < n) : GbaseX W' :=
  ⟨Nat.lt_of_lt_of_le h.lt hb.size, (hb.cell (p := ⟨2, 0, none⟩) hn).trans h.a0, (hb.cell (p := ⟨2, 1, none⟩) hn).trans h.a1, (hb.cell (p := ⟨2, 2, none⟩) hn).trans h.a2, (hb.cell (p := ⟨2, 3, none⟩) hn).trans h.a3, (hb.cell (p := ⟨2, 4, none⟩) hn).trans h.a4⟩
theorem GbaseX.grown {W W' : World} (h : GbaseX W) (hb : Below W.heap.size W W') : GbaseX W' := h.below hb h.lt
/-- The variable baseY, in memory. -/
structure GbaseY (W : World) : Prop where
  lt : 3 < W.heap.size
  a0 : W.cell? ⟨3, 0, none⟩ = some (.int .u64 1801439850948184)
  a1 : W.cell? ⟨3, 1, none⟩ = some (.int .u64 1351079888211148)
  a2 : W.cell? ⟨3, 2, none⟩ = some (.int .u64 450359962737049)
  a3 : W.cell? ⟨3, 3, none⟩ = some (.int .u64 900719925474099)
  a4 : W.cell? ⟨3, 4, none⟩ = some (.int .u64 1801439850948198)
theorem GbaseY.below {W W' : World} (h : GbaseY W) {n : Nat} (hb : Below n W W') (hn : 3 < n) : GbaseY W' :=
  ⟨Nat.lt_of_lt_of_le h.lt hb.size, (hb.cell (p := ⟨3, 0, none⟩) hn).trans h.a0, (hb.cell (p := ⟨3, 1, none⟩) hn).trans h.a1, (hb.cell (p := ⟨3, 2, none⟩) hn).trans h.a2, (hb.cell (p := ⟨3, 3, none⟩) hn).trans h.a3, (hb.cell (p := ⟨3, 4, none⟩) hn).trans h.a4⟩
theorem GbaseY.grown {W W' : World} (h : GbaseY W) (hb : Below W.heap.size W W') : GbaseY W' := h.below hb h.lt
theorem Gd.range {W : World} (h : Gd W) : W.rangeAt 0 0 [.int .u64 929955233495203, .int .u64 466365720129213, .int .u64 1662059464998953, .int .u64 2033849074728123, .int .u64 1442794654840575] := by
  intro j x hj
  rw [Nat.zero_add]
  match j, hj with
  | 0, hj => exact h.a0.trans (by simpa using hj)
  | 1, hj => exact h.a1.trans (by simpa using hj)
  | 2, hj => exact h.a2.trans (by simpa using hj)
  | 3, hj => exact h.a3.trans (by simpa using hj)
  | 4, hj => exact h.a4.trans (by simpa using hj)
  | j + 5, hj => simp at hj
theorem GtwiceD.range {W : World} (h : GtwiceD W) : W.rangeAt 1 0 [.int .u64 1859910466990425, .int .u64 932731440258426, .int .u64 1072319116312658, .int .u64 1815898335770999, .int .u64 633789495995903] := by
  intro j x hj
  rw [Nat.zero_add]
  match j, hj with
  | 0, hj => exact h.a0.trans (by simpa using hj)
  | 1, hj => exact h.a1.trans (by simpa using hj)
  | 2, hj => exact h.a2.trans (by simpa using hj)
  | 3, hj => exact h.a3.trans (by simpa using hj)
  | 4, hj => exact h.a4.trans (by simpa using hj)
  | j + 5, hj => simp at hj
theorem GbaseX.range {W : World} (h : GbaseX W) : W.rangeAt 2 0 [.int .u64 1738742601995546, .int .u64 1146398526822698, .int .u64 2070867633025821, .int .u64 562264141797630, .int .u64 587772402128613] := by
  intro j x hj
  rw [Nat.zero_add]
  match j, hj with
  | 0, hj => exact h.a0.trans (by simpa using hj)
  | 1, hj => exact h.a1.trans (by simpa using hj)
  | 2, hj => exact h.a2.trans (by simpa using hj)
  | 3, hj => exact h.a3.trans (by simpa using hj)
  | 4, hj => exact h.a4.trans (by simpa using hj)
  | j + 5, hj => simp at hj
theorem GbaseY.range {W : World} (h : GbaseY W) : W.rangeAt 3 0 [.int .u64 1801439850948184, .int .u64 1351079888211148, .int .u64 450359962737049, .int .u64 900719925474099, .int .u64 1801439850948198] := by
  intro j x hj
  rw [Nat.zero_add]
  match j, hj with
  | 0, hj => exact h.a0.trans (by simpa using hj)
  | 1, hj => exact h.a1.trans (by simpa using hj)
  | 2, hj => exact h.a2.trans (by simpa using hj)
  | 3, hj => exact h.a3.trans (by simpa using hj)
  | 4, hj => exact h.a4.trans (by simpa using hj)
  | j + 5, hj => simp at hj
end Go.Proofs.YtkbiiolkekpkiaaDoor.Ed

/-
  Whole structs in memory: loaded, and stored; regions that draw their order. Conditions: as each theorem says.
-/
namespace Go.Proofs.YtkbiiolkekpkiaaDoor.Ed
open Go.RowKit
set_option linter.unusedVariables false
set_option linter.unusedSimpArgs false

theorem hid {P : Prop} (h : P) : Hid P := h
theorem at_new2 (T : TypeId) (w : World) (L : List Value) (b : Nat) (hb : b = w.heap.size) : At T (w.alloc (.cells L.toArray T)) b L := by
  subst hb
  exact at_new T w L
theorem at_alloc {T : TypeId} {W : World} {b : Nat} {L : List Value} (h : At T W b L) (o : Obj) : At T (W.alloc o) b L := h.below ((Below.refl _ _).alloc (Nat.le_refl _) _)
theorem store_whole {op : Oper} {a : Act} {w : World} {K : Act → World → Prop} {Q : Exit → Act → World → Prop} (ty : TypeId) (x y : Operand) (ho : op.op = .store ty x y)
    (b : Nat) (L L0 : List Value) (hx : a.eval x = .pointer (some ⟨b, 0, none⟩)) (hy : a.eval y = .agg L.toArray) (hA : At ty w b L0) (hl : L.length = L0.length)
    (hi : (Tryd.prog.info? ty).map (·.size) = some L.toArray.size) (h1 : L.toArray.all (·.oneCell') = true) (B : Nat) (w0 : World) (hG : Below B w0 w) (hB : B ≤ b)
    (h : ∀ F, At ty F b L → Below B w0 F → K (a.put op.dst undef) F) : op.wp Tryd.prog a w K Q :=
  wp_store_mid ty x y ho b 0 L.toArray hx hy (hA.there (by simp [hl])) hi h1 (h _ (hA.filled L hl) (below_setCells hG hB 0 L))
theorem list_store_whole {ops : Array Oper} {rest : List Oper} {op : Oper} {a : Act} {w : World} {Q : Exit → Act → World → Prop} (hgd : op.guard = none) (ty : TypeId) (x y : Operand) (ho : op.op = .store ty x y)
    (b : Nat) (L L0 : List Value) (hx : a.eval x = .pointer (some ⟨b, 0, none⟩)) (hy : a.eval y = .agg L.toArray) (hA : At ty w b L0) (hl : L.length = L0.length)
    (hi : (Tryd.prog.info? ty).map (·.size) = some L.toArray.size) (h1 : L.toArray.all (·.oneCell') = true) (B : Nat) (w0 : World) (hG : Below B w0 w) (hB : B ≤ b)
    (h : ∀ F, At ty F b L → Below B w0 F → wpList Tryd.prog ops Q rest (a.put op.dst undef) F) : wpList Tryd.prog ops Q (op :: rest) a w :=
  wpList_plain hgd fun _ hK => store_whole ty x y ho b L L0 hx hy hA hl hi h1 B w0 hG hB (fun F h1 h2 => hK _ _ (h F h1 h2))
theorem at_mid {T : TypeId} {W : World} {b : Nat} {L : List Value} (h : At T W b L) (o : Nat) (cs : List Value) (hs : (L.drop o).take cs.length = cs) : W.rangeAt b o cs := by
  intro j v hj
  have hl : j < cs.length := (List.getElem?_eq_some_iff.1 hj).1
  have h2 : ((L.drop o).take cs.length)[j]? = some v := by rw [hs]; exact hj
  rw [List.getElem?_take, if_pos hl, List.getElem?_drop] at h2
  rw [h.cell]
  exact h2
theorem load_run {op : Oper} {a : Act} {w : World} (ty : TypeId) (x : Operand) (ho : op.op = .load ty x) (b o : Nat) (hx : a.eval x = .pointer (some ⟨b, o, none⟩)) (cs : List Value) (d : TypeDesc) (hc : w.rangeAt b o cs)
    (hu : Tryd.prog.underlying ty = some d) (hd : d.isRow = true) (hi : (Tryd.prog.info? ty).map (·.size) = some cs.length) : (execOp a.eval op).run Tryd.prog w = .ok (.value (.agg cs.toArray)) w := by
  unfold execOp
  simp only [ho, hx, Instr.loadAt, Instr.sureAddr, Sem.run_bind, Sem.run_pure, Result.andThen_ok, run_loadVar_mid w b o ty cs d hc hu hd hi]
theorem quiet_load {op : Oper} {a : Act} {w : World} {C : World → Prop} (ty : TypeId) (x : Operand) (ho : op.op = .load ty x) (b o : Nat) (hx : a.eval x = .pointer (some ⟨b, o, none⟩)) (cs : List Value) (d : TypeDesc) (hc : w.rangeAt b o cs)
    (hu : Tryd.prog.underlying ty = some d) (hd : d.isRow = true) (hi : (Tryd.prog.info? ty).map (·.size) = some cs.length) : op.quietAt Tryd.prog a C w (.agg cs.toArray) := by
  unfold Oper.quietAt
  rw [load_run ty x ho b o hx cs d hc hu hd hi]
  exact ⟨rfl, rfl⟩
theorem below_turned {w w' : World} {g : Nat} {obj : Obj} (h : Oth g w w') (hs : w'.heap.size = w.heap.size) (ht : w'.heap[g]? = some obj) (hk : ∀ k, w.heap.size ≤ k → k ≠ g → w'.heap[k]? = w.heap[k]?) : Turned w w' g obj :=
  ⟨h.os, h.tape, h.output, hs, fun k hk' => by
    rcases Nat.lt_or_ge k w.heap.size with q | q
    · exact h.other k q hk'
    · exact hk k q hk', ht⟩
theorem Oth.sets {b : Nat} {w : World} : ∀ (vs : List Value) (o : Nat) {W : World}, Oth b w W → Oth b w (W.setCells b o vs)
  | [], o, W, h => h
  | v :: r, o, W, h => Oth.sets r (o + 1) (h.set o v)
theorem size_sets {b : Nat} : ∀ (vs : List Value) (o : Nat) (W : World), (W.setCells b o vs).heap.size = W.heap.size
  | [], o, W => rfl
  | v :: r, o, W => (size_sets r (o + 1) _).trans (by simp)
theorem stores_whole {op : Oper} {a : Act} (ty : TypeId) (x y : Operand) (ho : op.op = .store ty x y) (g : Nat) (L L0 : List Value) (hx : a.eval x = .pointer (some ⟨g, 0, none⟩)) (hy : a.eval y = .agg L.toArray) (hl : L.length = L0.length)
    (hi : (Tryd.prog.info? ty).map (·.size) = some L.toArray.size) (h1 : L.toArray.all (·.oneCell') = true) : Stores Tryd.prog op a g (.cells L0.toArray ty) (.cells L.toArray ty) := by
  intro w hw
  have hA : At ty w g L0 := hw
  refine ⟨w.setCells g 0 L, ?_, ?_⟩
  · unfold execOp
    simp only [ho, hx, hy, Instr.storeAt, Instr.sureAddr, Sem.run_bind, Sem.run_pure, Result.andThen_ok, run_storeVar_mid w g 0 ty L.toArray (hA.there (by simp [hl])) hi h1]
  · refine below_turned (Oth.sets L 0 (Oth.refl g w)) (size_sets L 0 w) (hA.filled L hl) (fun k hk hne => ?_)
    rw [Array.getElem?_eq_none hk, Array.getElem?_eq_none (by rw [size_sets]; exact hk)]
theorem store_oth {op : Oper} {a : Act} {w : World} {K : Act → World → Prop} {Q : Exit → Act → World → Prop} (ty : TypeId) (x y : Operand) (ho : op.op = .store ty x y)
    (b : Nat) (L L0 : List Value) (hx : a.eval x = .pointer (some ⟨b, 0, none⟩)) (hy : a.eval y = .agg L.toArray) (hA : At ty w b L0) (hl : L.length = L0.length)
    (hi : (Tryd.prog.info? ty).map (·.size) = some L.toArray.size) (h1 : L.toArray.all (·.oneCell') = true)
    (h : ∀ F, At ty F b L → Oth b w F → K (a.put op.dst undef) F) : op.wp Tryd.prog a w K Q :=
  wp_store_mid ty x y ho b 0 L.toArray hx hy (hA.there (by simp [hl])) hi h1 (h _ (hA.filled L hl) (Oth.sets L 0 (Oth.refl b w)))
theorem list_store_oth {ops : Array Oper} {rest : List Oper} {op : Oper} {a : Act} {w : World} {Q : Exit → Act → World → Prop} (hgd : op.guard = none) (ty : TypeId) (x y : Operand) (ho : op.op = .store ty x y)
    (b : Nat) (L L0 : List Value) (hx : a.eval x = .pointer (some ⟨b, 0, none⟩)) (hy : a.eval y = .agg L.toArray) (hA : At ty w b L0) (hl : L.length = L0.length)
    (hi : (Tryd.prog.info? ty).map (·.size) = some L.toArray.size) (h1 : L.toArray.all (·.oneCell') = true)
    (h : ∀ F, At ty F b L → Oth b w F → wpList Tryd.prog ops Q rest (a.put op.dst undef) F) : wpList Tryd.prog ops Q (op :: rest) a w :=
  wpList_plain hgd fun _ hK => store_oth ty x y ho b L L0 hx hy hA hl hi h1 (fun F h1 h2 => hK _ _ (h F h1 h2))
theorem list_store_new {ops : Array Oper} {rest : List Oper} {op : Oper} {a : Act} {Q : Exit → Act → World → Prop} (hgd : op.guard = none) (ty : TypeId) (x y : Operand) (ho : op.op = .store ty x y)
    (w : World) (L L0 : List Value) (hx : a.eval x = .pointer (some ⟨w.heap.size, 0, none⟩)) (hy : a.eval y = .agg L.toArray) (hl : L.length = L0.length)
    (hi : (Tryd.prog.info? ty).map (·.size) = some L.toArray.size) (h1 : L.toArray.all (·.oneCell') = true)
    (h : ∀ F, At ty F w.heap.size L → Below w.heap.size w F → wpList Tryd.prog ops Q rest (a.put op.dst undef) F) : wpList Tryd.prog ops Q (op :: rest) a (w.alloc (.cells L0.toArray ty)) :=
  list_store_oth hgd ty x y ho w.heap.size L L0 hx hy (at_new ty w L0) hl hi h1 (fun F hC hO => h F hC (Oth.bel ((Below.refl _ w).alloc (Nat.le_refl _) _) hO (Nat.le_refl _)))
theorem below_oth {b n : Nat} {w W : World} (h : Oth b w W) (hb : n ≤ b) (hn : n ≤ w.heap.size) : Below n w W := ⟨h.os, h.tape, h.output, h.size, fun j hj => h.other j (by omega) (by omega)⟩
theorem results_cs {P : Program} {fn : Func} {p q : Tmp} {ty : TypeId} (h : fn.results = #[.cell p ty, .tmp q]) (tmps : Array Value) (w : World) (b o : Nat) (cs : List Value) (d : TypeDesc) (v : Value)
    (hp : tmps.getD p undef = .pointer (some ⟨b, o, none⟩)) (hq : tmps.getD q undef = v) (hc : w.rangeAt b o cs)
    (hu : P.underlying ty = some d) (hd : d.isRow = true) (hi : (P.info? ty).map (·.size) = some cs.length) :
    (results fn tmps).run P w = .ok (.tuple #[.agg cs.toArray, v]) w := by
  have hp' : tmps[p]?.getD undef = .pointer (some ⟨b, o, none⟩) := by simpa using hp
  have hq' : tmps[q]?.getD undef = v := by simpa using hq
  simp [results, h, hp', hq', asAddr, run_loadVar_mid w b o ty cs d hc hu hd hi]
theorem results_cc {P : Program} {fn : Func} {p p2 : Tmp} {ty ty2 : TypeId} (h : fn.results = #[.cell p ty, .cell p2 ty2]) (tmps : Array Value) (w : World) (b o b2 o2 : Nat) (cs cs2 : List Value) (d d2 : TypeDesc)
    (hp : tmps.getD p undef = .pointer (some ⟨b, o, none⟩)) (hp2 : tmps.getD p2 undef = .pointer (some ⟨b2, o2, none⟩)) (hc : w.rangeAt b o cs) (hc2 : w.rangeAt b2 o2 cs2)
    (hu : P.underlying ty = some d) (hd : d.isRow = true) (hi : (P.info? ty).map (·.size) = some cs.length) (hu2 : P.underlying ty2 = some d2) (hd2 : d2.isRow = true) (hi2 : (P.info? ty2).map (·.size) = some cs2.length) :
    (results fn tmps).run P w = .ok (.tuple #[.agg cs.toArray, .agg cs2.toArray]) w := by
  have hp' : tmps[p]?.getD undef = .pointer (some ⟨b, o, none⟩) := by simpa using hp
  have hq' : tmps[p2]?.getD undef = .pointer (some ⟨b2, o2, none⟩) := by simpa using hp2
  simp [results, h, hp', hq', asAddr, run_loadVar_mid w b o ty cs d hc hu hd hi, run_loadVar_mid w b2 o2 ty2 cs2 d2 hc2 hu2 hd2 hi2]
end Go.Proofs.YtkbiiolkekpkiaaDoor.Ed

/-
  Bytes and their highest bit; a call's own bytes by cells; the program's Clone of bytes. Conditions: as each theorem says.
-/
namespace Go.Proofs.YtkbiiolkekpkiaaDoor.Ed
open Go.RowKit
set_option linter.unusedVariables false
set_option linter.unusedSimpArgs false

theorem or128 : ∀ n : Nat, n < 128 → bits .or .u8 (n : Int) 128 = ((n + 128 : Nat) : Int) := by decide +kernel
theorem and128 : ∀ n : Nat, n < 256 → bits .and .u8 (n : Int) 128 = ((n / 128 * 128 : Nat) : Int) := by decide +kernel
theorem andNot128 : ∀ n : Nat, n < 256 → bits .andNot .u8 (n : Int) 128 = ((n % 128 : Nat) : Int) := by decide +kernel
theorem fil_sk (n g : Nat) (W : World) (h : Fil n g 32 W) : SK .u8 W (.slice (some ⟨g, 0, none⟩) 32 32) (leB n 32) := by
  refine ⟨some ⟨g, 0, none⟩, 32, by rw [leB_length], by rw [leB_length]; omega, (fun e => nomatch e), fun j hj => ⟨g, 0, rfl, h.size, ?_⟩⟩
  rw [leB_length] at hj
  rw [Nat.zero_add, h.cell j hj, if_pos hj, leB_byte n j hj]
theorem byte_low (n j : Nat) (hj : j < 31) : byteAt (n + 2 ^ 255) j = byteAt n j := by
  unfold byteAt
  have e : (2 : Nat) ^ 255 = 2 ^ (8 * j) * (256 * 2 ^ (247 - 8 * j)) := by
    rw [show (256 : Nat) = 2 ^ 8 from rfl, ← Nat.pow_add, ← Nat.pow_add]
    congr 1
    omega
  rw [e, Nat.add_mul_div_left _ _ (Nat.pow_pos (by omega)), Nat.add_mul_mod_self_left]
theorem byte_top (n : Nat) (hn : n < 2 ^ 255) : n / 2 ^ 248 < 128 ∧ byteAt n 31 = ((n / 2 ^ 248 : Nat) : Int) ∧ byteAt (n + 2 ^ 255) 31 = ((n / 2 ^ 248 + 128 : Nat) : Int) := by
  unfold byteAt
  have h1 : n / 2 ^ 248 < 128 := by omega
  refine ⟨h1, ?_, ?_⟩
  · rw [show 8 * 31 = 248 from rfl, Nat.mod_eq_of_lt (by omega)]
  · rw [show 8 * 31 = 248 from rfl, show (n + 2 ^ 255) / 2 ^ 248 = n / 2 ^ 248 + 128 by omega, Nat.mod_eq_of_lt (by omega)]
theorem or_top (n : Nat) (hn : n < 2 ^ 255) : bits .or .u8 (byteAt n 31) 128 = byteAt (n + 2 ^ 255) 31 := by
  obtain ⟨h1, h2, h3⟩ := byte_top n hn
  rw [h2, h3, or128 _ h1]
theorem fil_sign (n g : Nat) (W : World) (h : Fil n g 32 W) (hn : n < 2 ^ 255) : Fil (n + 2 ^ 255) g 32 (W.setCell ⟨g, 31, none⟩ (.int .u8 (byteAt (n + 2 ^ 255) 31))) := by
  refine ⟨fun j hj => ?_, fun o => ?_, ?_⟩
  · by_cases e : j = 31
    · subst e
      rw [World.cell?_setCell_same _ _ _ (h.cell 31 hj), if_pos hj]
    · rw [World.cell?_setCell_other _ _ _ _ (fun q => e (by simpa using (congrArg Addr.off q).symm)), h.cell j hj, if_pos hj, if_pos hj, byte_low n j (by omega)]
  · rw [← h.free o]; simp
  · simpa using h.size
theorem bytes_num (P : Pt) : bytesOf P = leB (P.y.val + (if P.x.val % 2 = 1 then 2 ^ 255 else 0)) 32 := rfl
/-- A call's own 32 bytes, by cells. -/
theorem own8_row {base : Nat} {w : World} {v : Value} {N : Nat} (h : Own8 base w v (leB N 32)) : ∃ g c L, v = .slice (some ⟨g, 0, none⟩) 32 c ∧ base ≤ g ∧ At 5 w g L ∧ ∀ j, j < 32 → L[j]? = some (.int .u8 (byteAt N j)) := by
  obtain ⟨h1, h2⟩ := h
  rw [leB_length] at h2
  rcases h2 with ⟨e, e0⟩ | ⟨g, cap, cur, e, hg, hh, hn, hm, hc, ht⟩
  · omega
  · refine ⟨g, cap, cur.toList, e, hg, by unfold At; simpa using hh, fun j hj => ?_⟩
    have h3 : (cur.toList.take (32 * 1))[j]? = some (.int .u8 (byteAt N j)) := by
      rw [ht, bv8_get _ _ (by rw [leB_length]; exact hj), leB_byte N j hj]
    rw [List.getElem?_take, if_pos (by omega)] at h3
    exact h3
/-- Its highest bit is taken away. -/
theorem row_low {g N y : Nat} {W : World} {L : List Value} (hA : At 5 W g L) (hL : ∀ j, j < 32 → L[j]? = some (.int .u8 (byteAt N j))) (hN : N < 2 ^ 256) (hy : y = N % 2 ^ 255) :
    bits .andNot .u8 (byteAt N 31) 128 = byteAt y 31 ∧ ∀ j, j < 32 → (W.setCell ⟨g, 31, none⟩ (.int .u8 (byteAt y 31))).cell? ⟨g, 0 + j, none⟩ = some (.int .u8 (byteAt y j)) := by
  have h31 : ∀ m : Nat, byteAt m 31 = ((m / 2 ^ 248 % 256 : Nat) : Int) := fun m => rfl
  constructor
  · rw [h31, h31, andNot128 _ (by omega)]
    congr 1
    omega
  · intro j hj
    rw [Nat.zero_add, (hA.set 31 _).cell, List.getElem?_set]
    by_cases e : 31 = j
    · subst e
      rw [if_pos rfl, if_pos (by
        have := hL 31 hj
        exact (List.getElem?_eq_some_iff.1 this).1)]
    · rw [if_neg e, hL j hj]
      have hlow : byteAt y j = byteAt N j := by
        rcases Nat.lt_or_ge N (2 ^ 255) with q | q
        · rw [hy, Nat.mod_eq_of_lt q]
        · have e2 : y + 2 ^ 255 = N := by omega
          rw [← e2, byte_low y j (by omega)]
      rw [hlow]
theorem eql_nil (a : Option Addr) (n c : Nat) (w : World) : (binOp .eql 22 (.slice a n c) (.slice none 0 0)).run Tryd.prog w = .ok (.bool a.isNone) w := by
  exact run_eql_slice_nil w _ _ a n c Tryd.underlying22
theorem own_empty (w : World) : Own8 w.heap.size (w.alloc (.cells #[] 5)) (.slice (some ⟨w.heap.size, 0, none⟩) 0 0) [] := by
  refine ⟨rfl, Or.inr ⟨w.heap.size, 0, #[], rfl, Nat.le_refl _, ?_, by simp, by unfold maxLen; omega, by simp, rfl⟩⟩
  show (w.heap.push _)[w.heap.size]? = _
  simp
theorem clone_own (l : List Nat) (hl : l.length ≤ 1000000) (p : Addr) (c n : Nat) (hn' : l.length = n) (w : World) (hs : SK .u8 w (.slice (some p) n c) l) :
    Calls Tryd.prog 33 #[.slice (some p) n c] w fun e w' => ∃ v', e = .returned v' ∧ Own8 w.heap.size w' v' l ∧ Below w.heap.size w w' := by
  have O2 : Hid (Own8 w.heap.size (w.alloc (.cells #[] 5)) (.slice (some ⟨w.heap.size, 0, none⟩) 0 0) []) := own_empty w
  have g2 : Hid (Below w.heap.size w (w.alloc (.cells #[] 5))) := (Below.refl _ _).alloc (Nat.le_refl _) _
  have S2 : Hid (SK .u8 (w.alloc (.cells #[] 5)) (.slice (some p) n c) l) := hs.below g2.out
  have hll : Hid (l.length ≤ 1000000) := hl
  have Z2 : Hid (w.heap.size ≤ (w.alloc (.cells #[] 5)).heap.size) := g2.out.size
  have hE : ∀ W : World, (binOp .eql 22 (.slice (some p) n c) (.slice none 0 0)).run Tryd.prog W = .ok (.bool false) W := eql_nil (some p) n c
  clear hs hl
  go_enter Tryd.func33, Tryd.ntmps33
  go_wp2_with (at_builtin; refine wpList_app8S rfl _ _ rfl w.heap.size (.slice (some ⟨w.heap.size, 0, none⟩) 0 0) [] l (.slice (some p) n c) rfl O2.out rfl S2.out (by simp) hll.out Z2.out ?_; intro v3 W3 hown3 hb3)
  go_ret
  exact ⟨_, rfl, by simpa using hown3, g2.out.trans hb3⟩
end Go.Proofs.YtkbiiolkekpkiaaDoor.Ed
