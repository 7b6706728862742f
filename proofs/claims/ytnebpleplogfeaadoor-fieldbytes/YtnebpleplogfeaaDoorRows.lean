/-
  NARROWER THAN 'FOR EVERY INPUT', by the rows' own cells (each row's printed sentence says how): FieldSums: laid · FieldPowers: laid · FieldRoots: laid · FieldBytes: laid · FieldBack: laid.
  DERIVED. THE GIVEN ROWS OF THIS SEAT. 5 by the template 'for every input the law returns true; each argument reads behind the call as it read before'; 0 by the template 'total and deterministic' (their statements: YtnebpleplogfeaaDoorTotals.lean).
  GIVEN WITH THE SEED: the statements are not yours to turn. If you find one false, say at which input.
  Laid BY PROGRAM, IN A SANDBOX (cutbox-rows.mjs): the forced cells as the released guide's own fill.sh prints them over the translation 60a2dccc91b8ed80… (all of the seat's roots in one cut). By AI agents, Wed Nov 11 2026. No macro, syntax, notation, axiom, sorry.
-/
import Derived.Test.YtnebpleplogfeaaDoorChecked
import GoSem.Claim
import GoSem.ClaimJoined
import GoSem.ClaimMapViews
import Derived.JoinedTies
import Derived.KernelRfl
namespace Go.Proofs.YtnebpleplogfeaaDoor
/- THE CELL 'sum', in the pinned program and in every row, IS THE sha256 OF THE DUMP (.gsa) THAT YtnebpleplogfeaaDoorProg.lean LOADS. Nothing in Lean hashes anything: it is a label: what it is worth is what the hold of that sum in a sandbox is worth. -/
noncomputable def Tryd.pinned : Pinned := { name := "ytnebpleplogfeaadoor", sum := "60a2dccc91b8ed80d30b5ac85059f6f138ae45a784abc3f18c376ca7885afc38", checked := Tryd.checked }
namespace Rows
def none {H : Type} : Left H := { results := [], args := [] }

/- WHAT THE LISTED PACKAGE-LEVEL VARIABLES READ AS WHEN THE CALL BEGINS. Each datum BY PROGRAM (the guide's laid-datum.mjs) off the statement by which the dump's own 'gosem.cut.vars' lays the variable. In a bare row this is a premise. The card (YtnebpleplogfeaaDoorCards.lean) ties it to the program's text. -/
def laid_cleromancy_field_fourTimes {H : Type} : DataW H := .agg [.lit (.int .u64 9007199254740916), .lit (.int .u64 9007199254740988), .lit (.int .u64 9007199254740988), .lit (.int .u64 9007199254740988), .lit (.int .u64 9007199254740988)]
def laid_cleromancy_field_rootOfMinusOne {H : Type} : DataW H := .agg [.lit (.int .u64 1718705420411056), .lit (.int .u64 234908883556509), .lit (.int .u64 2233514472574048), .lit (.int .u64 2117202627021982), .lit (.int .u64 765476049583133)]

/-- 'cleromancylaw04.FieldSums': WHATEVER THE INPUT: true; the input reads as it did. -/
def fieldSumsSpec : ChangeSpec := { name := "fieldSums", fn := fun _ => fun
  | [d1, d2, d3] => { results := [.lit (.bool true)], args := [d1, d2, d3] }
  | _ => none }
def fieldSumsRow : OpenClaim := { program := "ytnebpleplogfeaadoor", sum := "60a2dccc91b8ed80d30b5ac85059f6f138ae45a784abc3f18c376ca7885afc38", func := "cleromancy/cleromancylaw04.FieldSums", spec := "fieldSums", inPlace := ["math/bits.Add64"], named := ["cleromancy/field.rootOfMinusOne", "cleromancy/field.fourTimes"], apart := false, laid := [("cleromancy/field.fourTimes", laid_cleromancy_field_fourTimes), ("cleromancy/field.rootOfMinusOne", laid_cleromancy_field_rootOfMinusOne)] }
def FieldSumsSaid : Prop := fieldSumsRow.holds Tryd.pinned (OpenSpec.ofChange fieldSumsSpec)

/-- ITS FALSE NEIGHBOUR: 'it returns false'. Refute it at one input. -/
def fieldSumsWrong : ChangeSpec := { name := "fieldSums", fn := fun _ => fun
  | [d1, d2, d3] => { results := [.lit (.bool false)], args := [d1, d2, d3] }
  | _ => none }
def FieldSumsWrongFalsely : Prop := fieldSumsRow.holds Tryd.pinned (OpenSpec.ofChange fieldSumsWrong)

/-- 'cleromancylaw04.FieldPowers': WHATEVER THE INPUT: true; the input reads as it did. -/
def fieldPowersSpec : ChangeSpec := { name := "fieldPowers", fn := fun _ => fun
  | [d1, d2] => { results := [.lit (.bool true)], args := [d1, d2] }
  | _ => none }
def fieldPowersRow : OpenClaim := { program := "ytnebpleplogfeaadoor", sum := "60a2dccc91b8ed80d30b5ac85059f6f138ae45a784abc3f18c376ca7885afc38", func := "cleromancy/cleromancylaw04.FieldPowers", spec := "fieldPowers", inPlace := ["math/bits.Add64"], named := ["cleromancy/field.rootOfMinusOne", "cleromancy/field.fourTimes"], apart := false, laid := [("cleromancy/field.fourTimes", laid_cleromancy_field_fourTimes), ("cleromancy/field.rootOfMinusOne", laid_cleromancy_field_rootOfMinusOne)] }
def FieldPowersSaid : Prop := fieldPowersRow.holds Tryd.pinned (OpenSpec.ofChange fieldPowersSpec)

/-- ITS FALSE NEIGHBOUR: 'it returns false'. Refute it at one input. -/
def fieldPowersWrong : ChangeSpec := { name := "fieldPowers", fn := fun _ => fun
  | [d1, d2] => { results := [.lit (.bool false)], args := [d1, d2] }
  | _ => none }
def FieldPowersWrongFalsely : Prop := fieldPowersRow.holds Tryd.pinned (OpenSpec.ofChange fieldPowersWrong)

/-- 'cleromancylaw04.FieldRoots': WHATEVER THE INPUT: true; the input reads as it did. -/
def fieldRootsSpec : ChangeSpec := { name := "fieldRoots", fn := fun _ => fun
  | [d1, d2] => { results := [.lit (.bool true)], args := [d1, d2] }
  | _ => none }
def fieldRootsRow : OpenClaim := { program := "ytnebpleplogfeaadoor", sum := "60a2dccc91b8ed80d30b5ac85059f6f138ae45a784abc3f18c376ca7885afc38", func := "cleromancy/cleromancylaw04.FieldRoots", spec := "fieldRoots", inPlace := ["math/bits.Add64"], named := ["cleromancy/field.rootOfMinusOne", "cleromancy/field.fourTimes"], apart := false, laid := [("cleromancy/field.fourTimes", laid_cleromancy_field_fourTimes), ("cleromancy/field.rootOfMinusOne", laid_cleromancy_field_rootOfMinusOne)] }
def FieldRootsSaid : Prop := fieldRootsRow.holds Tryd.pinned (OpenSpec.ofChange fieldRootsSpec)

/-- ITS FALSE NEIGHBOUR: 'it returns false'. Refute it at one input. -/
def fieldRootsWrong : ChangeSpec := { name := "fieldRoots", fn := fun _ => fun
  | [d1, d2] => { results := [.lit (.bool false)], args := [d1, d2] }
  | _ => none }
def FieldRootsWrongFalsely : Prop := fieldRootsRow.holds Tryd.pinned (OpenSpec.ofChange fieldRootsWrong)

/-- 'cleromancylaw04.FieldBytes': WHATEVER THE INPUT: true; the input reads as it did. -/
def fieldBytesSpec : ChangeSpec := { name := "fieldBytes", fn := fun _ => fun
  | [d1, d2, d3] => { results := [.lit (.bool true)], args := [d1, d2, d3] }
  | _ => none }
def fieldBytesRow : OpenClaim := { program := "ytnebpleplogfeaadoor", sum := "60a2dccc91b8ed80d30b5ac85059f6f138ae45a784abc3f18c376ca7885afc38", func := "cleromancy/cleromancylaw04.FieldBytes", spec := "fieldBytes", inPlace := ["math/bits.Add64"], named := ["cleromancy/field.rootOfMinusOne", "cleromancy/field.fourTimes"], apart := false, laid := [("cleromancy/field.fourTimes", laid_cleromancy_field_fourTimes), ("cleromancy/field.rootOfMinusOne", laid_cleromancy_field_rootOfMinusOne)] }
def FieldBytesSaid : Prop := fieldBytesRow.holds Tryd.pinned (OpenSpec.ofChange fieldBytesSpec)

/-- ITS FALSE NEIGHBOUR: 'it returns false'. Refute it at one input. -/
def fieldBytesWrong : ChangeSpec := { name := "fieldBytes", fn := fun _ => fun
  | [d1, d2, d3] => { results := [.lit (.bool false)], args := [d1, d2, d3] }
  | _ => none }
def FieldBytesWrongFalsely : Prop := fieldBytesRow.holds Tryd.pinned (OpenSpec.ofChange fieldBytesWrong)

/-- 'cleromancylaw04.FieldBack': WHATEVER THE INPUT: true; the input reads as it did. -/
def fieldBackSpec : ChangeSpec := { name := "fieldBack", fn := fun _ => fun
  | [d1, d2, d3] => { results := [.lit (.bool true)], args := [d1, d2, d3] }
  | _ => none }
def fieldBackRow : OpenClaim := { program := "ytnebpleplogfeaadoor", sum := "60a2dccc91b8ed80d30b5ac85059f6f138ae45a784abc3f18c376ca7885afc38", func := "cleromancy/cleromancylaw04.FieldBack", spec := "fieldBack", inPlace := ["math/bits.Add64"], unfollowed := true, recurses := true, named := ["cleromancy/field.rootOfMinusOne", "cleromancy/field.fourTimes"], apart := false, laid := [("cleromancy/field.fourTimes", laid_cleromancy_field_fourTimes), ("cleromancy/field.rootOfMinusOne", laid_cleromancy_field_rootOfMinusOne)] }
def FieldBackSaid : Prop := fieldBackRow.holds Tryd.pinned (OpenSpec.ofChange fieldBackSpec)

/-- ITS FALSE NEIGHBOUR: 'it returns false'. Refute it at one input. -/
def fieldBackWrong : ChangeSpec := { name := "fieldBack", fn := fun _ => fun
  | [d1, d2, d3] => { results := [.lit (.bool false)], args := [d1, d2, d3] }
  | _ => none }
def FieldBackWrongFalsely : Prop := fieldBackRow.holds Tryd.pinned (OpenSpec.ofChange fieldBackWrong)

/- THE SECOND FORM. 'bulk': how many values and letters a reading holds, each counted each time it is reached (what is shared counts as often as it is met; a slice's spare places count too). A statement '..UptoSaid' is the law's where the arguments, and the package variables that the reading takes, are together of bulk at most 1048576: NARROWER than '..Said'. Prove '..Said' where nothing that the law and all that it calls make is longer than what came in: it says more and counts as full. Else prove '..UptoSaid'. A law counts once. -/
mutual
def uptoBulk {H : Type} : DataW H → Nat
  | .lit (.string bytes) => bytes.length + 1
  | .lit _ => 1
  | .nil => 1
  | .ptr d => uptoBulk d + 1
  | .slice elems spare => uptoBulkAll elems + uptoBulkAll spare + 1
  | .agg parts => uptoBulkAll parts + 1
  | .iface _ d => uptoBulk d + 1
  | .map entries => uptoBulkEntries entries + 1
  | .held _ => 1
def uptoBulkAll {H : Type} : List (DataW H) → Nat
  | [] => 0
  | d :: r => uptoBulk d + uptoBulkAll r
def uptoBulkEntries {H : Type} : List (Lit × DataW H) → Nat
  | [] => 0
  | x :: r => uptoBulkEntry x + uptoBulkEntries r
def uptoBulkEntry {H : Type} : Lit × DataW H → Nat
  | (.string bytes, d) => bytes.length + uptoBulk d + 1
  | (_, d) => uptoBulk d + 1
 end
def uptoSmall : (H : Type) → List (DataW H) → Bool := fun _ ds => decide (uptoBulkAll ds ≤ 1048576)
def OpenSpec.upto (s : _root_.Go.ChangeSpec) : _root_.Go.OpenSpec := { _root_.Go.OpenSpec.ofChange s with cond := some uptoSmall }

/-- 'cleromancylaw04.FieldSums', WHERE WHAT IT READS IS OF BULK AT MOST 1048576: true; the input reads as it did. -/
def fieldSumsUptoRow : OpenClaim := { program := "ytnebpleplogfeaadoor", sum := "60a2dccc91b8ed80d30b5ac85059f6f138ae45a784abc3f18c376ca7885afc38", func := "cleromancy/cleromancylaw04.FieldSums", spec := "fieldSums", inPlace := ["math/bits.Add64"], named := ["cleromancy/field.rootOfMinusOne", "cleromancy/field.fourTimes"], apart := false, laid := [("cleromancy/field.fourTimes", laid_cleromancy_field_fourTimes), ("cleromancy/field.rootOfMinusOne", laid_cleromancy_field_rootOfMinusOne)], narrowed := true }
def FieldSumsUptoSaid : Prop := fieldSumsUptoRow.holds Tryd.pinned (OpenSpec.upto fieldSumsSpec)

/-- 'cleromancylaw04.FieldPowers', WHERE WHAT IT READS IS OF BULK AT MOST 1048576: true; the input reads as it did. -/
def fieldPowersUptoRow : OpenClaim := { program := "ytnebpleplogfeaadoor", sum := "60a2dccc91b8ed80d30b5ac85059f6f138ae45a784abc3f18c376ca7885afc38", func := "cleromancy/cleromancylaw04.FieldPowers", spec := "fieldPowers", inPlace := ["math/bits.Add64"], named := ["cleromancy/field.rootOfMinusOne", "cleromancy/field.fourTimes"], apart := false, laid := [("cleromancy/field.fourTimes", laid_cleromancy_field_fourTimes), ("cleromancy/field.rootOfMinusOne", laid_cleromancy_field_rootOfMinusOne)], narrowed := true }
def FieldPowersUptoSaid : Prop := fieldPowersUptoRow.holds Tryd.pinned (OpenSpec.upto fieldPowersSpec)

/-- 'cleromancylaw04.FieldRoots', WHERE WHAT IT READS IS OF BULK AT MOST 1048576: true; the input reads as it did. -/
def fieldRootsUptoRow : OpenClaim := { program := "ytnebpleplogfeaadoor", sum := "60a2dccc91b8ed80d30b5ac85059f6f138ae45a784abc3f18c376ca7885afc38", func := "cleromancy/cleromancylaw04.FieldRoots", spec := "fieldRoots", inPlace := ["math/bits.Add64"], named := ["cleromancy/field.rootOfMinusOne", "cleromancy/field.fourTimes"], apart := false, laid := [("cleromancy/field.fourTimes", laid_cleromancy_field_fourTimes), ("cleromancy/field.rootOfMinusOne", laid_cleromancy_field_rootOfMinusOne)], narrowed := true }
def FieldRootsUptoSaid : Prop := fieldRootsUptoRow.holds Tryd.pinned (OpenSpec.upto fieldRootsSpec)

/-- 'cleromancylaw04.FieldBytes', WHERE WHAT IT READS IS OF BULK AT MOST 1048576: true; the input reads as it did. -/
def fieldBytesUptoRow : OpenClaim := { program := "ytnebpleplogfeaadoor", sum := "60a2dccc91b8ed80d30b5ac85059f6f138ae45a784abc3f18c376ca7885afc38", func := "cleromancy/cleromancylaw04.FieldBytes", spec := "fieldBytes", inPlace := ["math/bits.Add64"], named := ["cleromancy/field.rootOfMinusOne", "cleromancy/field.fourTimes"], apart := false, laid := [("cleromancy/field.fourTimes", laid_cleromancy_field_fourTimes), ("cleromancy/field.rootOfMinusOne", laid_cleromancy_field_rootOfMinusOne)], narrowed := true }
def FieldBytesUptoSaid : Prop := fieldBytesUptoRow.holds Tryd.pinned (OpenSpec.upto fieldBytesSpec)

/-- 'cleromancylaw04.FieldBack', WHERE WHAT IT READS IS OF BULK AT MOST 1048576: true; the input reads as it did. -/
def fieldBackUptoRow : OpenClaim := { program := "ytnebpleplogfeaadoor", sum := "60a2dccc91b8ed80d30b5ac85059f6f138ae45a784abc3f18c376ca7885afc38", func := "cleromancy/cleromancylaw04.FieldBack", spec := "fieldBack", inPlace := ["math/bits.Add64"], unfollowed := true, recurses := true, named := ["cleromancy/field.rootOfMinusOne", "cleromancy/field.fourTimes"], apart := false, laid := [("cleromancy/field.fourTimes", laid_cleromancy_field_fourTimes), ("cleromancy/field.rootOfMinusOne", laid_cleromancy_field_rootOfMinusOne)], narrowed := true }
def FieldBackUptoSaid : Prop := fieldBackUptoRow.holds Tryd.pinned (OpenSpec.upto fieldBackSpec)

end Rows
end Go.Proofs.YtnebpleplogfeaaDoor
