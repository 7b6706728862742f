/-
  NARROWER THAN 'FOR EVERY INPUT', by the rows' own cells (each row's printed sentence says how): ComboMuls: laid · ComboBoth: laid · ComboBack: laid.
  DERIVED. THE GIVEN ROWS OF THIS SEAT. 3 by the template 'for every input the law returns true; each argument reads behind the call as it read before'; 0 by the template 'total and deterministic' (their statements: YtedhfimjcpbcpaaDoorTotals.lean).
  GIVEN WITH THE SEED: the statements are not yours to turn. If you find one false, say at which input.
  Laid BY PROGRAM, IN A SANDBOX (cutbox-rows.mjs): the forced cells as the released guide's own fill.sh prints them over the translation 1a8b6922c662b456… (all of the seat's roots in one cut). By AI agents, Wed Nov 11 2026. No macro, syntax, notation, axiom, sorry.
-/
import Derived.Test.YtedhfimjcpbcpaaDoorChecked
import GoSem.Claim
import GoSem.ClaimJoined
import GoSem.ClaimMapViews
import Derived.JoinedTies
import Derived.KernelRfl
namespace Go.Proofs.YtedhfimjcpbcpaaDoor
/- THE CELL 'sum', in the pinned program and in every row, IS THE sha256 OF THE DUMP (.gsa) THAT YtedhfimjcpbcpaaDoorProg.lean LOADS. Nothing in Lean hashes anything: it is a label: what it is worth is what the hold of that sum in a sandbox is worth. -/
noncomputable def Tryd.pinned : Pinned := { name := "ytedhfimjcpbcpaadoor", sum := "1a8b6922c662b4569051b5ceb7136e2aad0b55533a2129f1b99bb369782b4b0a", checked := Tryd.checked }
namespace Rows
def none {H : Type} : Left H := { results := [], args := [] }

/- WHAT THE LISTED PACKAGE-LEVEL VARIABLES READ AS WHEN THE CALL BEGINS. Each datum BY PROGRAM (the guide's laid-datum.mjs) off the statement by which the dump's own 'gosem.cut.vars' lays the variable. In a bare row this is a premise. The card (YtedhfimjcpbcpaaDoorCards.lean) ties it to the program's text. -/
def laid_cleromancy_field_fourTimes {H : Type} : DataW H := .agg [.lit (.int .u64 9007199254740916), .lit (.int .u64 9007199254740988), .lit (.int .u64 9007199254740988), .lit (.int .u64 9007199254740988), .lit (.int .u64 9007199254740988)]
def laid_cleromancy_field_rootOfMinusOne {H : Type} : DataW H := .agg [.lit (.int .u64 1718705420411056), .lit (.int .u64 234908883556509), .lit (.int .u64 2233514472574048), .lit (.int .u64 2117202627021982), .lit (.int .u64 765476049583133)]
def laid_cleromancy_edwards_d {H : Type} : DataW H := .agg [.lit (.int .u64 929955233495203), .lit (.int .u64 466365720129213), .lit (.int .u64 1662059464998953), .lit (.int .u64 2033849074728123), .lit (.int .u64 1442794654840575)]
def laid_cleromancy_edwards_twiceD {H : Type} : DataW H := .agg [.lit (.int .u64 1859910466990425), .lit (.int .u64 932731440258426), .lit (.int .u64 1072319116312658), .lit (.int .u64 1815898335770999), .lit (.int .u64 633789495995903)]
def laid_cleromancy_edwards_baseX {H : Type} : DataW H := .agg [.lit (.int .u64 1738742601995546), .lit (.int .u64 1146398526822698), .lit (.int .u64 2070867633025821), .lit (.int .u64 562264141797630), .lit (.int .u64 587772402128613)]
def laid_cleromancy_edwards_baseY {H : Type} : DataW H := .agg [.lit (.int .u64 1801439850948184), .lit (.int .u64 1351079888211148), .lit (.int .u64 450359962737049), .lit (.int .u64 900719925474099), .lit (.int .u64 1801439850948198)]

/-- 'cleromancylaw11.ComboMuls': WHATEVER THE INPUT: true; the input reads as it did. -/
def comboMulsSpec : ChangeSpec := { name := "comboMuls", fn := fun _ => fun
  | [d1, d2] => { results := [.lit (.bool true)], args := [d1, d2] }
  | _ => none }
def comboMulsRow : OpenClaim := { program := "ytedhfimjcpbcpaadoor", sum := "1a8b6922c662b4569051b5ceb7136e2aad0b55533a2129f1b99bb369782b4b0a", func := "cleromancy/cleromancylaw11.ComboMuls", spec := "comboMuls", inPlace := ["math/bits.Add64"], unfollowed := true, recurses := true, named := ["cleromancy/edwards.baseX", "cleromancy/edwards.baseY", "cleromancy/edwards.twiceD", "cleromancy/field.fourTimes", "cleromancy/edwards.d", "cleromancy/field.rootOfMinusOne"], apart := false, laid := [("cleromancy/field.fourTimes", laid_cleromancy_field_fourTimes), ("cleromancy/field.rootOfMinusOne", laid_cleromancy_field_rootOfMinusOne), ("cleromancy/edwards.d", laid_cleromancy_edwards_d), ("cleromancy/edwards.twiceD", laid_cleromancy_edwards_twiceD), ("cleromancy/edwards.baseX", laid_cleromancy_edwards_baseX), ("cleromancy/edwards.baseY", laid_cleromancy_edwards_baseY)] }
def ComboMulsSaid : Prop := comboMulsRow.holds Tryd.pinned (OpenSpec.ofChange comboMulsSpec)

/-- ITS FALSE NEIGHBOUR: 'it returns false'. Refute it at one input. -/
def comboMulsWrong : ChangeSpec := { name := "comboMuls", fn := fun _ => fun
  | [d1, d2] => { results := [.lit (.bool false)], args := [d1, d2] }
  | _ => none }
def ComboMulsWrongFalsely : Prop := comboMulsRow.holds Tryd.pinned (OpenSpec.ofChange comboMulsWrong)

/-- 'cleromancylaw11.ComboBoth': WHATEVER THE INPUT: true; the input reads as it did. -/
def comboBothSpec : ChangeSpec := { name := "comboBoth", fn := fun _ => fun
  | [d1, d2, d3] => { results := [.lit (.bool true)], args := [d1, d2, d3] }
  | _ => none }
def comboBothRow : OpenClaim := { program := "ytedhfimjcpbcpaadoor", sum := "1a8b6922c662b4569051b5ceb7136e2aad0b55533a2129f1b99bb369782b4b0a", func := "cleromancy/cleromancylaw11.ComboBoth", spec := "comboBoth", inPlace := ["math/bits.Add64"], unfollowed := true, recurses := true, named := ["cleromancy/edwards.baseX", "cleromancy/edwards.baseY", "cleromancy/edwards.twiceD", "cleromancy/field.fourTimes", "cleromancy/edwards.d", "cleromancy/field.rootOfMinusOne"], apart := false, laid := [("cleromancy/field.fourTimes", laid_cleromancy_field_fourTimes), ("cleromancy/field.rootOfMinusOne", laid_cleromancy_field_rootOfMinusOne), ("cleromancy/edwards.d", laid_cleromancy_edwards_d), ("cleromancy/edwards.twiceD", laid_cleromancy_edwards_twiceD), ("cleromancy/edwards.baseX", laid_cleromancy_edwards_baseX), ("cleromancy/edwards.baseY", laid_cleromancy_edwards_baseY)] }
def ComboBothSaid : Prop := comboBothRow.holds Tryd.pinned (OpenSpec.ofChange comboBothSpec)

/-- ITS FALSE NEIGHBOUR: 'it returns false'. Refute it at one input. -/
def comboBothWrong : ChangeSpec := { name := "comboBoth", fn := fun _ => fun
  | [d1, d2, d3] => { results := [.lit (.bool false)], args := [d1, d2, d3] }
  | _ => none }
def ComboBothWrongFalsely : Prop := comboBothRow.holds Tryd.pinned (OpenSpec.ofChange comboBothWrong)

/-- 'cleromancylaw11.ComboBack': WHATEVER THE INPUT: true; the input reads as it did. -/
def comboBackSpec : ChangeSpec := { name := "comboBack", fn := fun _ => fun
  | [d1, d2, d3] => { results := [.lit (.bool true)], args := [d1, d2, d3] }
  | _ => none }
def comboBackRow : OpenClaim := { program := "ytedhfimjcpbcpaadoor", sum := "1a8b6922c662b4569051b5ceb7136e2aad0b55533a2129f1b99bb369782b4b0a", func := "cleromancy/cleromancylaw11.ComboBack", spec := "comboBack", inPlace := ["math/bits.Add64", "math/bits.Sub64"], unfollowed := true, recurses := true, named := ["cleromancy/edwards.baseX", "cleromancy/edwards.baseY", "cleromancy/edwards.twiceD", "cleromancy/field.fourTimes", "cleromancy/edwards.d", "cleromancy/field.rootOfMinusOne"], apart := false, laid := [("cleromancy/field.fourTimes", laid_cleromancy_field_fourTimes), ("cleromancy/field.rootOfMinusOne", laid_cleromancy_field_rootOfMinusOne), ("cleromancy/edwards.d", laid_cleromancy_edwards_d), ("cleromancy/edwards.twiceD", laid_cleromancy_edwards_twiceD), ("cleromancy/edwards.baseX", laid_cleromancy_edwards_baseX), ("cleromancy/edwards.baseY", laid_cleromancy_edwards_baseY)] }
def ComboBackSaid : Prop := comboBackRow.holds Tryd.pinned (OpenSpec.ofChange comboBackSpec)

/-- ITS FALSE NEIGHBOUR: 'it returns false'. Refute it at one input. -/
def comboBackWrong : ChangeSpec := { name := "comboBack", fn := fun _ => fun
  | [d1, d2, d3] => { results := [.lit (.bool false)], args := [d1, d2, d3] }
  | _ => none }
def ComboBackWrongFalsely : Prop := comboBackRow.holds Tryd.pinned (OpenSpec.ofChange comboBackWrong)

/- THE SECOND FORM. 'bulk': how many values and letters a reading holds, each counted each time it is reached (what is shared counts as often as it is met; a slice's spare places count too). A statement '..UptoSaid' is the law's where the arguments, and the package variables that the reading takes, are together of bulk at most 1048576: NARROWER than '..Said'. Prove '..Said' where nothing that the law and all that it calls make is longer than what came in: it says more and counts as full. Else prove '..UptoSaid'. A law counts once. -/
mutual
def uptoBulk {H : Type} : DataW H → Nat
  | .lit (.string bytes) => bytes.length + 1
  | .lit _ => 1
  | .nil => 1
  | .ptr d => uptoBulk d + 1
  | .slice elems spare => uptoBulkAll elems + uptoBulkAll spare + 1
  | .agg parts => uptoBulkAll parts + 1
  | .iface _ d => uptoBulk d + 1
  | .map entries => uptoBulkEntries entries + 1
  | .held _ => 1
def uptoBulkAll {H : Type} : List (DataW H) → Nat
  | [] => 0
  | d :: r => uptoBulk d + uptoBulkAll r
def uptoBulkEntries {H : Type} : List (Lit × DataW H) → Nat
  | [] => 0
  | x :: r => uptoBulkEntry x + uptoBulkEntries r
def uptoBulkEntry {H : Type} : Lit × DataW H → Nat
  | (.string bytes, d) => bytes.length + uptoBulk d + 1
  | (_, d) => uptoBulk d + 1
 end
def uptoSmall : (H : Type) → List (DataW H) → Bool := fun _ ds => decide (uptoBulkAll ds ≤ 1048576)
def OpenSpec.upto (s : _root_.Go.ChangeSpec) : _root_.Go.OpenSpec := { _root_.Go.OpenSpec.ofChange s with cond := some uptoSmall }

/-- 'cleromancylaw11.ComboMuls', WHERE WHAT IT READS IS OF BULK AT MOST 1048576: true; the input reads as it did. -/
def comboMulsUptoRow : OpenClaim := { program := "ytedhfimjcpbcpaadoor", sum := "1a8b6922c662b4569051b5ceb7136e2aad0b55533a2129f1b99bb369782b4b0a", func := "cleromancy/cleromancylaw11.ComboMuls", spec := "comboMuls", inPlace := ["math/bits.Add64"], unfollowed := true, recurses := true, named := ["cleromancy/edwards.baseX", "cleromancy/edwards.baseY", "cleromancy/edwards.twiceD", "cleromancy/field.fourTimes", "cleromancy/edwards.d", "cleromancy/field.rootOfMinusOne"], apart := false, laid := [("cleromancy/field.fourTimes", laid_cleromancy_field_fourTimes), ("cleromancy/field.rootOfMinusOne", laid_cleromancy_field_rootOfMinusOne), ("cleromancy/edwards.d", laid_cleromancy_edwards_d), ("cleromancy/edwards.twiceD", laid_cleromancy_edwards_twiceD), ("cleromancy/edwards.baseX", laid_cleromancy_edwards_baseX), ("cleromancy/edwards.baseY", laid_cleromancy_edwards_baseY)], narrowed := true }
def ComboMulsUptoSaid : Prop := comboMulsUptoRow.holds Tryd.pinned (OpenSpec.upto comboMulsSpec)

/-- 'cleromancylaw11.ComboBoth', WHERE WHAT IT READS IS OF BULK AT MOST 1048576: true; the input reads as it did. -/
def comboBothUptoRow : OpenClaim := { program := "ytedhfimjcpbcpaadoor", sum := "1a8b6922c662b4569051b5ceb7136e2aad0b55533a2129f1b99bb369782b4b0a", func := "cleromancy/cleromancylaw11.ComboBoth", spec := "comboBoth", inPlace := ["math/bits.Add64"], unfollowed := true, recurses := true, named := ["cleromancy/edwards.baseX", "cleromancy/edwards.baseY", "cleromancy/edwards.twiceD", "cleromancy/field.fourTimes", "cleromancy/edwards.d", "cleromancy/field.rootOfMinusOne"], apart := false, laid := [("cleromancy/field.fourTimes", laid_cleromancy_field_fourTimes), ("cleromancy/field.rootOfMinusOne", laid_cleromancy_field_rootOfMinusOne), ("cleromancy/edwards.d", laid_cleromancy_edwards_d), ("cleromancy/edwards.twiceD", laid_cleromancy_edwards_twiceD), ("cleromancy/edwards.baseX", laid_cleromancy_edwards_baseX), ("cleromancy/edwards.baseY", laid_cleromancy_edwards_baseY)], narrowed := true }
def ComboBothUptoSaid : Prop := comboBothUptoRow.holds Tryd.pinned (OpenSpec.upto comboBothSpec)

/-- 'cleromancylaw11.ComboBack', WHERE WHAT IT READS IS OF BULK AT MOST 1048576: true; the input reads as it did. -/
def comboBackUptoRow : OpenClaim := { program := "ytedhfimjcpbcpaadoor", sum := "1a8b6922c662b4569051b5ceb7136e2aad0b55533a2129f1b99bb369782b4b0a", func := "cleromancy/cleromancylaw11.ComboBack", spec := "comboBack", inPlace := ["math/bits.Add64", "math/bits.Sub64"], unfollowed := true, recurses := true, named := ["cleromancy/edwards.baseX", "cleromancy/edwards.baseY", "cleromancy/edwards.twiceD", "cleromancy/field.fourTimes", "cleromancy/edwards.d", "cleromancy/field.rootOfMinusOne"], apart := false, laid := [("cleromancy/field.fourTimes", laid_cleromancy_field_fourTimes), ("cleromancy/field.rootOfMinusOne", laid_cleromancy_field_rootOfMinusOne), ("cleromancy/edwards.d", laid_cleromancy_edwards_d), ("cleromancy/edwards.twiceD", laid_cleromancy_edwards_twiceD), ("cleromancy/edwards.baseX", laid_cleromancy_edwards_baseX), ("cleromancy/edwards.baseY", laid_cleromancy_edwards_baseY)], narrowed := true }
def ComboBackUptoSaid : Prop := comboBackUptoRow.holds Tryd.pinned (OpenSpec.upto comboBackSpec)

end Rows
end Go.Proofs.YtedhfimjcpbcpaaDoor
