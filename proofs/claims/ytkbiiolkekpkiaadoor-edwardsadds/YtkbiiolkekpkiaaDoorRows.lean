/-
  NARROWER THAN 'FOR EVERY INPUT', by the rows' own cells (each row's printed sentence says how): EdwardsBytes: laid · EdwardsPairs: laid · EdwardsAdds: laid · EdwardsGroup: laid.
  DERIVED. THE GIVEN ROWS OF THIS SEAT. 4 by the template 'for every input the law returns true; each argument reads behind the call as it read before'; 0 by the template 'total and deterministic' (their statements: YtkbiiolkekpkiaaDoorTotals.lean).
  GIVEN WITH THE SEED: the statements are not yours to turn. If you find one false, say at which input.
  Laid BY PROGRAM, IN A SANDBOX (cutbox-rows.mjs): the forced cells as the released guide's own fill.sh prints them over the translation eebe2ccc801ff185… (all of the seat's roots in one cut). By AI agents, Wed Nov 11 2026. No macro, syntax, notation, axiom, sorry.
-/
import Derived.Test.YtkbiiolkekpkiaaDoorChecked
import GoSem.Claim
import GoSem.ClaimJoined
import GoSem.ClaimMapViews
import Derived.JoinedTies
import Derived.KernelRfl
namespace Go.Proofs.YtkbiiolkekpkiaaDoor
/- THE CELL 'sum', in the pinned program and in every row, IS THE sha256 OF THE DUMP (.gsa) THAT YtkbiiolkekpkiaaDoorProg.lean LOADS. Nothing in Lean hashes anything: it is a label: what it is worth is what the hold of that sum in a sandbox is worth. -/
noncomputable def Tryd.pinned : Pinned := { name := "ytkbiiolkekpkiaadoor", sum := "eebe2ccc801ff185d71aa77b5dd18853cd5e5f4e3a19a0795bcaff1ddef2fbd3", checked := Tryd.checked }
namespace Rows
def none {H : Type} : Left H := { results := [], args := [] }

/- WHAT THE LISTED PACKAGE-LEVEL VARIABLES READ AS WHEN THE CALL BEGINS. Each datum BY PROGRAM (the guide's laid-datum.mjs) off the statement by which the dump's own 'gosem.cut.vars' lays the variable. In a bare row this is a premise. The card (YtkbiiolkekpkiaaDoorCards.lean) ties it to the program's text. -/
def laid_cleromancy_field_fourTimes {H : Type} : DataW H := .agg [.lit (.int .u64 9007199254740916), .lit (.int .u64 9007199254740988), .lit (.int .u64 9007199254740988), .lit (.int .u64 9007199254740988), .lit (.int .u64 9007199254740988)]
def laid_cleromancy_field_rootOfMinusOne {H : Type} : DataW H := .agg [.lit (.int .u64 1718705420411056), .lit (.int .u64 234908883556509), .lit (.int .u64 2233514472574048), .lit (.int .u64 2117202627021982), .lit (.int .u64 765476049583133)]
def laid_cleromancy_edwards_d {H : Type} : DataW H := .agg [.lit (.int .u64 929955233495203), .lit (.int .u64 466365720129213), .lit (.int .u64 1662059464998953), .lit (.int .u64 2033849074728123), .lit (.int .u64 1442794654840575)]
def laid_cleromancy_edwards_baseX {H : Type} : DataW H := .agg [.lit (.int .u64 1738742601995546), .lit (.int .u64 1146398526822698), .lit (.int .u64 2070867633025821), .lit (.int .u64 562264141797630), .lit (.int .u64 587772402128613)]
def laid_cleromancy_edwards_baseY {H : Type} : DataW H := .agg [.lit (.int .u64 1801439850948184), .lit (.int .u64 1351079888211148), .lit (.int .u64 450359962737049), .lit (.int .u64 900719925474099), .lit (.int .u64 1801439850948198)]
def laid_cleromancy_edwards_twiceD {H : Type} : DataW H := .agg [.lit (.int .u64 1859910466990425), .lit (.int .u64 932731440258426), .lit (.int .u64 1072319116312658), .lit (.int .u64 1815898335770999), .lit (.int .u64 633789495995903)]

/-- 'cleromancylaw10.EdwardsBytes': WHATEVER THE INPUT: true; the input reads as it did. -/
def edwardsBytesSpec : ChangeSpec := { name := "edwardsBytes", fn := fun _ => fun
  | [d] => { results := [.lit (.bool true)], args := [d] }
  | _ => none }
def edwardsBytesRow : OpenClaim := { program := "ytkbiiolkekpkiaadoor", sum := "eebe2ccc801ff185d71aa77b5dd18853cd5e5f4e3a19a0795bcaff1ddef2fbd3", func := "cleromancy/cleromancylaw10.EdwardsBytes", spec := "edwardsBytes", inPlace := ["math/bits.Add64"], named := ["cleromancy/edwards.baseX", "cleromancy/edwards.baseY", "cleromancy/edwards.d", "cleromancy/field.fourTimes", "cleromancy/field.rootOfMinusOne"], apart := false, laid := [("cleromancy/field.fourTimes", laid_cleromancy_field_fourTimes), ("cleromancy/field.rootOfMinusOne", laid_cleromancy_field_rootOfMinusOne), ("cleromancy/edwards.d", laid_cleromancy_edwards_d), ("cleromancy/edwards.baseX", laid_cleromancy_edwards_baseX), ("cleromancy/edwards.baseY", laid_cleromancy_edwards_baseY)] }
def EdwardsBytesSaid : Prop := edwardsBytesRow.holds Tryd.pinned (OpenSpec.ofChange edwardsBytesSpec)

/-- ITS FALSE NEIGHBOUR: 'it returns false'. Refute it at one input. -/
def edwardsBytesWrong : ChangeSpec := { name := "edwardsBytes", fn := fun _ => fun
  | [d] => { results := [.lit (.bool false)], args := [d] }
  | _ => none }
def EdwardsBytesWrongFalsely : Prop := edwardsBytesRow.holds Tryd.pinned (OpenSpec.ofChange edwardsBytesWrong)

/-- 'cleromancylaw10.EdwardsPairs': WHATEVER THE INPUT: true; the input reads as it did. -/
def edwardsPairsSpec : ChangeSpec := { name := "edwardsPairs", fn := fun _ => fun
  | [d1, d2] => { results := [.lit (.bool true)], args := [d1, d2] }
  | _ => none }
def edwardsPairsRow : OpenClaim := { program := "ytkbiiolkekpkiaadoor", sum := "eebe2ccc801ff185d71aa77b5dd18853cd5e5f4e3a19a0795bcaff1ddef2fbd3", func := "cleromancy/cleromancylaw10.EdwardsPairs", spec := "edwardsPairs", inPlace := ["math/bits.Add64"], named := ["cleromancy/edwards.baseX", "cleromancy/edwards.baseY", "cleromancy/edwards.d", "cleromancy/field.fourTimes"], apart := false, laid := [("cleromancy/field.fourTimes", laid_cleromancy_field_fourTimes), ("cleromancy/edwards.d", laid_cleromancy_edwards_d), ("cleromancy/edwards.baseX", laid_cleromancy_edwards_baseX), ("cleromancy/edwards.baseY", laid_cleromancy_edwards_baseY)] }
def EdwardsPairsSaid : Prop := edwardsPairsRow.holds Tryd.pinned (OpenSpec.ofChange edwardsPairsSpec)

/-- ITS FALSE NEIGHBOUR: 'it returns false'. Refute it at one input. -/
def edwardsPairsWrong : ChangeSpec := { name := "edwardsPairs", fn := fun _ => fun
  | [d1, d2] => { results := [.lit (.bool false)], args := [d1, d2] }
  | _ => none }
def EdwardsPairsWrongFalsely : Prop := edwardsPairsRow.holds Tryd.pinned (OpenSpec.ofChange edwardsPairsWrong)

/-- 'cleromancylaw10.EdwardsAdds': WHATEVER THE INPUT: true; the input reads as it did. -/
def edwardsAddsSpec : ChangeSpec := { name := "edwardsAdds", fn := fun _ => fun
  | [d1, d2] => { results := [.lit (.bool true)], args := [d1, d2] }
  | _ => none }
def edwardsAddsRow : OpenClaim := { program := "ytkbiiolkekpkiaadoor", sum := "eebe2ccc801ff185d71aa77b5dd18853cd5e5f4e3a19a0795bcaff1ddef2fbd3", func := "cleromancy/cleromancylaw10.EdwardsAdds", spec := "edwardsAdds", inPlace := ["math/bits.Add64"], named := ["cleromancy/edwards.baseX", "cleromancy/edwards.baseY", "cleromancy/edwards.d", "cleromancy/field.fourTimes", "cleromancy/field.rootOfMinusOne", "cleromancy/edwards.twiceD"], apart := false, laid := [("cleromancy/field.fourTimes", laid_cleromancy_field_fourTimes), ("cleromancy/field.rootOfMinusOne", laid_cleromancy_field_rootOfMinusOne), ("cleromancy/edwards.d", laid_cleromancy_edwards_d), ("cleromancy/edwards.twiceD", laid_cleromancy_edwards_twiceD), ("cleromancy/edwards.baseX", laid_cleromancy_edwards_baseX), ("cleromancy/edwards.baseY", laid_cleromancy_edwards_baseY)] }
def EdwardsAddsSaid : Prop := edwardsAddsRow.holds Tryd.pinned (OpenSpec.ofChange edwardsAddsSpec)

/-- ITS FALSE NEIGHBOUR: 'it returns false'. Refute it at one input. -/
def edwardsAddsWrong : ChangeSpec := { name := "edwardsAdds", fn := fun _ => fun
  | [d1, d2] => { results := [.lit (.bool false)], args := [d1, d2] }
  | _ => none }
def EdwardsAddsWrongFalsely : Prop := edwardsAddsRow.holds Tryd.pinned (OpenSpec.ofChange edwardsAddsWrong)

/-- 'cleromancylaw10.EdwardsGroup': WHATEVER THE INPUT: true; the input reads as it did. -/
def edwardsGroupSpec : ChangeSpec := { name := "edwardsGroup", fn := fun _ => fun
  | [d1, d2, d3] => { results := [.lit (.bool true)], args := [d1, d2, d3] }
  | _ => none }
def edwardsGroupRow : OpenClaim := { program := "ytkbiiolkekpkiaadoor", sum := "eebe2ccc801ff185d71aa77b5dd18853cd5e5f4e3a19a0795bcaff1ddef2fbd3", func := "cleromancy/cleromancylaw10.EdwardsGroup", spec := "edwardsGroup", inPlace := ["math/bits.Add64"], named := ["cleromancy/edwards.baseX", "cleromancy/edwards.baseY", "cleromancy/edwards.d", "cleromancy/field.fourTimes", "cleromancy/field.rootOfMinusOne", "cleromancy/edwards.twiceD"], apart := false, laid := [("cleromancy/field.fourTimes", laid_cleromancy_field_fourTimes), ("cleromancy/field.rootOfMinusOne", laid_cleromancy_field_rootOfMinusOne), ("cleromancy/edwards.d", laid_cleromancy_edwards_d), ("cleromancy/edwards.twiceD", laid_cleromancy_edwards_twiceD), ("cleromancy/edwards.baseX", laid_cleromancy_edwards_baseX), ("cleromancy/edwards.baseY", laid_cleromancy_edwards_baseY)] }
def EdwardsGroupSaid : Prop := edwardsGroupRow.holds Tryd.pinned (OpenSpec.ofChange edwardsGroupSpec)

/-- ITS FALSE NEIGHBOUR: 'it returns false'. Refute it at one input. -/
def edwardsGroupWrong : ChangeSpec := { name := "edwardsGroup", fn := fun _ => fun
  | [d1, d2, d3] => { results := [.lit (.bool false)], args := [d1, d2, d3] }
  | _ => none }
def EdwardsGroupWrongFalsely : Prop := edwardsGroupRow.holds Tryd.pinned (OpenSpec.ofChange edwardsGroupWrong)

/- THE SECOND FORM. 'bulk': how many values and letters a reading holds, each counted each time it is reached (what is shared counts as often as it is met; a slice's spare places count too). A statement '..UptoSaid' is the law's where the arguments, and the package variables that the reading takes, are together of bulk at most 1048576: NARROWER than '..Said'. Prove '..Said' where nothing that the law and all that it calls make is longer than what came in: it says more and counts as full. Else prove '..UptoSaid'. A law counts once. -/
mutual
def uptoBulk {H : Type} : DataW H → Nat
  | .lit (.string bytes) => bytes.length + 1
  | .lit _ => 1
  | .nil => 1
  | .ptr d => uptoBulk d + 1
  | .slice elems spare => uptoBulkAll elems + uptoBulkAll spare + 1
  | .agg parts => uptoBulkAll parts + 1
  | .iface _ d => uptoBulk d + 1
  | .map entries => uptoBulkEntries entries + 1
  | .held _ => 1
def uptoBulkAll {H : Type} : List (DataW H) → Nat
  | [] => 0
  | d :: r => uptoBulk d + uptoBulkAll r
def uptoBulkEntries {H : Type} : List (Lit × DataW H) → Nat
  | [] => 0
  | x :: r => uptoBulkEntry x + uptoBulkEntries r
def uptoBulkEntry {H : Type} : Lit × DataW H → Nat
  | (.string bytes, d) => bytes.length + uptoBulk d + 1
  | (_, d) => uptoBulk d + 1
 end
def uptoSmall : (H : Type) → List (DataW H) → Bool := fun _ ds => decide (uptoBulkAll ds ≤ 1048576)
def OpenSpec.upto (s : _root_.Go.ChangeSpec) : _root_.Go.OpenSpec := { _root_.Go.OpenSpec.ofChange s with cond := some uptoSmall }

/-- 'cleromancylaw10.EdwardsBytes', WHERE WHAT IT READS IS OF BULK AT MOST 1048576: true; the input reads as it did. -/
def edwardsBytesUptoRow : OpenClaim := { program := "ytkbiiolkekpkiaadoor", sum := "eebe2ccc801ff185d71aa77b5dd18853cd5e5f4e3a19a0795bcaff1ddef2fbd3", func := "cleromancy/cleromancylaw10.EdwardsBytes", spec := "edwardsBytes", inPlace := ["math/bits.Add64"], named := ["cleromancy/edwards.baseX", "cleromancy/edwards.baseY", "cleromancy/edwards.d", "cleromancy/field.fourTimes", "cleromancy/field.rootOfMinusOne"], apart := false, laid := [("cleromancy/field.fourTimes", laid_cleromancy_field_fourTimes), ("cleromancy/field.rootOfMinusOne", laid_cleromancy_field_rootOfMinusOne), ("cleromancy/edwards.d", laid_cleromancy_edwards_d), ("cleromancy/edwards.baseX", laid_cleromancy_edwards_baseX), ("cleromancy/edwards.baseY", laid_cleromancy_edwards_baseY)], narrowed := true }
def EdwardsBytesUptoSaid : Prop := edwardsBytesUptoRow.holds Tryd.pinned (OpenSpec.upto edwardsBytesSpec)

/-- 'cleromancylaw10.EdwardsPairs', WHERE WHAT IT READS IS OF BULK AT MOST 1048576: true; the input reads as it did. -/
def edwardsPairsUptoRow : OpenClaim := { program := "ytkbiiolkekpkiaadoor", sum := "eebe2ccc801ff185d71aa77b5dd18853cd5e5f4e3a19a0795bcaff1ddef2fbd3", func := "cleromancy/cleromancylaw10.EdwardsPairs", spec := "edwardsPairs", inPlace := ["math/bits.Add64"], named := ["cleromancy/edwards.baseX", "cleromancy/edwards.baseY", "cleromancy/edwards.d", "cleromancy/field.fourTimes"], apart := false, laid := [("cleromancy/field.fourTimes", laid_cleromancy_field_fourTimes), ("cleromancy/edwards.d", laid_cleromancy_edwards_d), ("cleromancy/edwards.baseX", laid_cleromancy_edwards_baseX), ("cleromancy/edwards.baseY", laid_cleromancy_edwards_baseY)], narrowed := true }
def EdwardsPairsUptoSaid : Prop := edwardsPairsUptoRow.holds Tryd.pinned (OpenSpec.upto edwardsPairsSpec)

/-- 'cleromancylaw10.EdwardsAdds', WHERE WHAT IT READS IS OF BULK AT MOST 1048576: true; the input reads as it did. -/
def edwardsAddsUptoRow : OpenClaim := { program := "ytkbiiolkekpkiaadoor", sum := "eebe2ccc801ff185d71aa77b5dd18853cd5e5f4e3a19a0795bcaff1ddef2fbd3", func := "cleromancy/cleromancylaw10.EdwardsAdds", spec := "edwardsAdds", inPlace := ["math/bits.Add64"], named := ["cleromancy/edwards.baseX", "cleromancy/edwards.baseY", "cleromancy/edwards.d", "cleromancy/field.fourTimes", "cleromancy/field.rootOfMinusOne", "cleromancy/edwards.twiceD"], apart := false, laid := [("cleromancy/field.fourTimes", laid_cleromancy_field_fourTimes), ("cleromancy/field.rootOfMinusOne", laid_cleromancy_field_rootOfMinusOne), ("cleromancy/edwards.d", laid_cleromancy_edwards_d), ("cleromancy/edwards.twiceD", laid_cleromancy_edwards_twiceD), ("cleromancy/edwards.baseX", laid_cleromancy_edwards_baseX), ("cleromancy/edwards.baseY", laid_cleromancy_edwards_baseY)], narrowed := true }
def EdwardsAddsUptoSaid : Prop := edwardsAddsUptoRow.holds Tryd.pinned (OpenSpec.upto edwardsAddsSpec)

/-- 'cleromancylaw10.EdwardsGroup', WHERE WHAT IT READS IS OF BULK AT MOST 1048576: true; the input reads as it did. -/
def edwardsGroupUptoRow : OpenClaim := { program := "ytkbiiolkekpkiaadoor", sum := "eebe2ccc801ff185d71aa77b5dd18853cd5e5f4e3a19a0795bcaff1ddef2fbd3", func := "cleromancy/cleromancylaw10.EdwardsGroup", spec := "edwardsGroup", inPlace := ["math/bits.Add64"], named := ["cleromancy/edwards.baseX", "cleromancy/edwards.baseY", "cleromancy/edwards.d", "cleromancy/field.fourTimes", "cleromancy/field.rootOfMinusOne", "cleromancy/edwards.twiceD"], apart := false, laid := [("cleromancy/field.fourTimes", laid_cleromancy_field_fourTimes), ("cleromancy/field.rootOfMinusOne", laid_cleromancy_field_rootOfMinusOne), ("cleromancy/edwards.d", laid_cleromancy_edwards_d), ("cleromancy/edwards.twiceD", laid_cleromancy_edwards_twiceD), ("cleromancy/edwards.baseX", laid_cleromancy_edwards_baseX), ("cleromancy/edwards.baseY", laid_cleromancy_edwards_baseY)], narrowed := true }
def EdwardsGroupUptoSaid : Prop := edwardsGroupUptoRow.holds Tryd.pinned (OpenSpec.upto edwardsGroupSpec)

end Rows
end Go.Proofs.YtkbiiolkekpkiaaDoor
