/-
  A slice of words that grows by appends; eight words of a number as naturals. Conditions: as each theorem says.
-/
import Derived.Test.YtkaekgjpjnnjpaaRingR
import Derived.Test.YtkaekgjpjnnjpaaRefD
namespace Go.Proofs.Ytkaekgjpjnnjpaa
open Go.RowKit
set_option linter.unusedVariables false

/-- The values of words. -/
def wv (l : List Nat) : List Value := l.map fun (d : Nat) => Value.int .u64 (d : Int)
theorem wv_get (l : List Nat) (j : Nat) (h : j < l.length) : (wv l)[j]? = some (.int .u64 (l.getD j 0 : Int)) := by
  simp [wv, List.getD_eq_getElem?_getD, h]
/-- The call's own slice, with the words l. -/
def OwnW (base : Nat) (w : World) (v : Value) (l : List Nat) : Prop := w.ownsRow base 22 1 v l.length (wv l)
theorem OwnW.nil (base : Nat) (w : World) : OwnW base w (.slice none 0 0) [] := World.ownsRow_nil _ _ _ _
theorem OwnW.sk {base : Nat} {w : World} {v : Value} {l : List Nat} (h : OwnW base w v l) : SK .u64 w v l := by
  obtain ⟨h1, h2⟩ := h
  rcases h2 with ⟨e, e0⟩ | ⟨g, cap, cur, e, hg, hh, hn, hm, hc, ht⟩
  · have : l = [] := List.eq_nil_of_length_eq_zero e0
    subst this
    rw [e]
    exact SK.nil _ w
  · refine ⟨some ⟨g, 0, none⟩, cap, e, hn, fun h => by simp at h, fun j hj => ⟨g, 0, rfl, ?_, ?_⟩⟩
    · rcases Nat.lt_or_ge g w.heap.size with h' | h'
      · exact h'
      · rw [Array.getElem?_eq_none h'] at hh; cases hh
    · have hj' : j < cur.size := by omega
      have : (cur.toList.take (l.length * 1))[j]? = some (.int .u64 (l.getD j 0 : Int)) := by rw [ht]; exact wv_get l j hj
      rw [List.getElem?_take, if_pos (by omega)] at this
      simp only [World.cell?, hh, Nat.zero_add]
      simpa using this
theorem info_w64 : (Try.prog.info? 22).map (fun i => (i.zero, i.size, i.bytes)) = some (some (.int .u64 0), 1, 8) := by kernel_rfl
/-- 'out = append(out, d)' on the call's own slice. -/
theorem wpList_app1W {ops : Array Oper} {rest : List Oper} {o : Oper} {a : Act} {Q : Exit → Act → World → Prop} {wr : World} (hgd : o.guard = none) (s x : Operand)
    (ho : o.op = .call { callee := .builtin .append, args := #[s, x], argTypes := #[35, 35] })
    (base : Nat) (v : Value) (l : List Nat) (d : Nat) (hs : a.eval s = v) (hown : OwnW base wr v l)
    (hx : a.eval x = .slice (some ⟨wr.heap.size, 0, none⟩) 1 1) (hlen : l.length ≤ 1000000) (hbase : base ≤ wr.heap.size)
    (h : ∀ v' w', OwnW base w' v' (l ++ [d]) → Below base wr w' → wpList Try.prog ops Q rest (a.put o.dst v') w') :
    wpList Try.prog ops Q (o :: rest) a (wr.alloc (.cells #[.int .u64 (d : Int)] 22)) := by
  obtain ⟨i0, hi, hz0, hz1, hz2⟩ := info_parts info_w64
  refine wpList_append_own _ hgd s x 35 ho base 22 i0 (.int .u64 0) 1 8 Try.underlying35 hi hz0 hz1 hz2 rfl (by decide) v _ _ hs (World.ownsRow.alloc hown _) ⟨wr.heap.size, 0, none⟩ 1 1 [.int .u64 (d : Int)] hx rfl ?_ ?_ ?_ ?_ ?_ ?_
  · intro j u hj
    match j, hj with
    | 0, hj => simp at hj; subst hj; simp [Addr.add]
  · intro u hu; simp at hu; subst hu; rfl
  · unfold maxLen; omega
  · omega
  · simp; omega
  · intro v' w' h1 h2 _
    refine h v' w' ?_ ?_
    · unfold OwnW
      have e : wv (l ++ [d]) = wv l ++ [.int .u64 (d : Int)] := by simp [wv]
      rw [e]
      simpa using h1
    · refine Below.grown (Below.alloc (Below.refl _ _) hbase _) h2 (by simp; omega) ?_
      intro k hk
      rcases hown.2 with ⟨e, _⟩ | ⟨g, cap, cur, e, hg, _⟩
      · rw [e] at hk; simp [Value.ownBlock] at hk
      · rw [e] at hk; simp [Value.ownBlock] at hk; omega

theorem eight_nat (x : Nat) (hx : x < M4 * M4) : ∃ n0 n1 n2 n3 n4 n5 n6 n7 : Nat, eight x = .agg #[.int .u64 (n0 : Int), .int .u64 (n1 : Int), .int .u64 (n2 : Int), .int .u64 (n3 : Int), .int .u64 (n4 : Int), .int .u64 (n5 : Int), .int .u64 (n6 : Int), .int .u64 (n7 : Int)] ∧ Ww [n0, n1, n2, n3, n4, n5, n6, n7] ∧ valW [n0, n1, n2, n3, n4, n5, n6, n7] = x := by
  refine ⟨_, _, _, _, _, _, _, _, rfl, ?_, ?_⟩
  · intro j
    rcases j with _ | _ | _ | _ | _ | _ | _ | _ | j <;> simp only [List.getD_cons_zero, List.getD_cons_succ, List.getD_nil] <;> (first | exact Nat.mod_lt _ (by omega) | omega)
  · have hx' : x < 13407807929942597099574024998205846127479365820592393377723561443721764030073546976801874298166903427690031858186486050853753882811946569946433649006084096 := hx
    simp only [valW]
    omega
theorem idx8_0 (a0 a1 a2 a3 a4 a5 a6 a7 : Int) (w : World) : (Instr.index 26 (.agg #[.int .u64 a0, .int .u64 a1, .int .u64 a2, .int .u64 a3, .int .u64 a4, .int .u64 a5, .int .u64 a6, .int .u64 a7]) (.int .i64 0)).run Try.prog w = .ok (.int .u64 a0) w := by
  simp [Instr.index, run_underlying Try.underlying26, asIntOf, go_sem]
theorem idx8_1 (a0 a1 a2 a3 a4 a5 a6 a7 : Int) (w : World) : (Instr.index 26 (.agg #[.int .u64 a0, .int .u64 a1, .int .u64 a2, .int .u64 a3, .int .u64 a4, .int .u64 a5, .int .u64 a6, .int .u64 a7]) (.int .i64 1)).run Try.prog w = .ok (.int .u64 a1) w := by
  simp [Instr.index, run_underlying Try.underlying26, asIntOf, go_sem]
theorem idx8_2 (a0 a1 a2 a3 a4 a5 a6 a7 : Int) (w : World) : (Instr.index 26 (.agg #[.int .u64 a0, .int .u64 a1, .int .u64 a2, .int .u64 a3, .int .u64 a4, .int .u64 a5, .int .u64 a6, .int .u64 a7]) (.int .i64 2)).run Try.prog w = .ok (.int .u64 a2) w := by
  simp [Instr.index, run_underlying Try.underlying26, asIntOf, go_sem]
theorem idx8_3 (a0 a1 a2 a3 a4 a5 a6 a7 : Int) (w : World) : (Instr.index 26 (.agg #[.int .u64 a0, .int .u64 a1, .int .u64 a2, .int .u64 a3, .int .u64 a4, .int .u64 a5, .int .u64 a6, .int .u64 a7]) (.int .i64 3)).run Try.prog w = .ok (.int .u64 a3) w := by
  simp [Instr.index, run_underlying Try.underlying26, asIntOf, go_sem]
theorem idx8_4 (a0 a1 a2 a3 a4 a5 a6 a7 : Int) (w : World) : (Instr.index 26 (.agg #[.int .u64 a0, .int .u64 a1, .int .u64 a2, .int .u64 a3, .int .u64 a4, .int .u64 a5, .int .u64 a6, .int .u64 a7]) (.int .i64 4)).run Try.prog w = .ok (.int .u64 a4) w := by
  simp [Instr.index, run_underlying Try.underlying26, asIntOf, go_sem]
theorem idx8_5 (a0 a1 a2 a3 a4 a5 a6 a7 : Int) (w : World) : (Instr.index 26 (.agg #[.int .u64 a0, .int .u64 a1, .int .u64 a2, .int .u64 a3, .int .u64 a4, .int .u64 a5, .int .u64 a6, .int .u64 a7]) (.int .i64 5)).run Try.prog w = .ok (.int .u64 a5) w := by
  simp [Instr.index, run_underlying Try.underlying26, asIntOf, go_sem]
theorem idx8_6 (a0 a1 a2 a3 a4 a5 a6 a7 : Int) (w : World) : (Instr.index 26 (.agg #[.int .u64 a0, .int .u64 a1, .int .u64 a2, .int .u64 a3, .int .u64 a4, .int .u64 a5, .int .u64 a6, .int .u64 a7]) (.int .i64 6)).run Try.prog w = .ok (.int .u64 a6) w := by
  simp [Instr.index, run_underlying Try.underlying26, asIntOf, go_sem]
theorem idx8_7 (a0 a1 a2 a3 a4 a5 a6 a7 : Int) (w : World) : (Instr.index 26 (.agg #[.int .u64 a0, .int .u64 a1, .int .u64 a2, .int .u64 a3, .int .u64 a4, .int .u64 a5, .int .u64 a6, .int .u64 a7]) (.int .i64 7)).run Try.prog w = .ok (.int .u64 a7) w := by
  simp [Instr.index, run_underlying Try.underlying26, asIntOf, go_sem]

end Go.Proofs.Ytkaekgjpjnnjpaa
