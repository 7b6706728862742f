/-
  DERIVED. GIVEN WITH THE SEED: THE PROGRAM's TIES (one call each: nine closed facts by the kernel) AND EACH ROW's TIE, after the 31st guide's Derived/Test/Toyas{Tie, Card}.lean. No idea stands in it: it is a product of the set-up. Laid BY PROGRAM, IN A SANDBOX (cutbox-door.mjs). By AI agents, Wed Nov 11 2026. No macro, syntax, notation, axiom, sorry.
-/
import Derived.Test.YtedhfimjcpbcpaaDoorRows
import Derived.LaidByTextLater
import Derived.SevenTiedAt
import Derived.LaidSub
import Derived.LaidOnce
namespace Go.Proofs.YtedhfimjcpbcpaaDoor
open Go
set_option maxRecDepth 100000
theorem seatTie1 : Tryd.prog.laidByTextLater [("cleromancy/field.fourTimes", Rows.laid_cleromancy_field_fourTimes), ("cleromancy/field.rootOfMinusOne", Rows.laid_cleromancy_field_rootOfMinusOne), ("cleromancy/edwards.d", Rows.laid_cleromancy_edwards_d), ("cleromancy/edwards.twiceD", Rows.laid_cleromancy_edwards_twiceD), ("cleromancy/edwards.baseX", Rows.laid_cleromancy_edwards_baseX), ("cleromancy/edwards.baseY", Rows.laid_cleromancy_edwards_baseY)] [.data, .data, .data, .data, .data, .data] true :=
  Program.laidByTextLater_by_one 39 8 6 (by kernel_rfl) (by kernel_rfl) (by kernel_rfl) (by kernel_rfl) (by kernel_rfl) (by kernel_rfl) (fun _ _ => by kernel_rfl)
theorem noOwnUnsafe : Tryd.pinned.checked.prog.headLifts.contains "ownunsafe" = false := by kernel_rfl
theorem tie : Tryd.prog.laidByTextLater [("cleromancy/field.fourTimes", Rows.laid_cleromancy_field_fourTimes), ("cleromancy/field.rootOfMinusOne", Rows.laid_cleromancy_field_rootOfMinusOne), ("cleromancy/edwards.d", Rows.laid_cleromancy_edwards_d), ("cleromancy/edwards.twiceD", Rows.laid_cleromancy_edwards_twiceD), ("cleromancy/edwards.baseX", Rows.laid_cleromancy_edwards_baseX), ("cleromancy/edwards.baseY", Rows.laid_cleromancy_edwards_baseY)] [.data, .data, .data, .data, .data, .data] true :=
  Program.laidByTextLater.sub seatTie1 ["cleromancy/field.fourTimes", "cleromancy/field.rootOfMinusOne", "cleromancy/edwards.d", "cleromancy/edwards.twiceD", "cleromancy/edwards.baseX", "cleromancy/edwards.baseY"] (by kernel_rfl) (by kernel_rfl)
theorem comboMuls_row_tie : Rows.comboMulsRow.laidByTextAt .later Tryd.pinned [.data, .data, .data, .data, .data, .data] true :=
  OpenClaim.laidByTextAt_later rfl rfl tie noOwnUnsafe
theorem comboBoth_row_tie : Rows.comboBothRow.laidByTextAt .later Tryd.pinned [.data, .data, .data, .data, .data, .data] true :=
  OpenClaim.laidByTextAt_later rfl rfl tie noOwnUnsafe
theorem comboBack_row_tie : Rows.comboBackRow.laidByTextAt .later Tryd.pinned [.data, .data, .data, .data, .data, .data] true :=
  OpenClaim.laidByTextAt_later rfl rfl tie noOwnUnsafe
theorem comboMulsUpto_row_tie : Rows.comboMulsUptoRow.laidByTextAt .later Tryd.pinned [.data, .data, .data, .data, .data, .data] true :=
  OpenClaim.laidByTextAt_later rfl rfl tie noOwnUnsafe
theorem comboBothUpto_row_tie : Rows.comboBothUptoRow.laidByTextAt .later Tryd.pinned [.data, .data, .data, .data, .data, .data] true :=
  OpenClaim.laidByTextAt_later rfl rfl tie noOwnUnsafe
theorem comboBackUpto_row_tie : Rows.comboBackUptoRow.laidByTextAt .later Tryd.pinned [.data, .data, .data, .data, .data, .data] true :=
  OpenClaim.laidByTextAt_later rfl rfl tie noOwnUnsafe
end Go.Proofs.YtedhfimjcpbcpaaDoor
