/-
  DERIVED. GIVEN WITH THE SEED: THE CARDS: each row of YtkgeppioebppiaaDoorRows.lean that lists a variable, with what it lists TIED to the program's text (the seventh form; the later family's looks); each row that meets fmt, with fmt's text TOLD by the authors' own Lean function (tested against real Go, not proved from fmt's source: count such statements apart). THE CARD IS WHAT COUNTS. Prove the row's statement (the work); the ties are given (YtkgeppioebppiaaDoorTie.lean); close each card by the builder's one call (the guide's Derived/Test/ToyasCard.lean, 'card_holds'). Laid BY PROGRAM, IN A SANDBOX (cutbox-door.mjs). By AI agents, Wed Nov 11 2026. No macro, syntax, notation, axiom, sorry.
-/
import Derived.Test.YtkgeppioebppiaaDoorRows
import GoSem.ClaimSeven
namespace Go.Proofs.YtkgeppioebppiaaDoor
namespace Rows

/-- THE TIED CARD OF 'cleromancylaw05.DigestSums'. -/
def digestSumsCard : Claim7 := { stood := { row := digestSumsRow, standIns := [], harness := (true, "7aa9a75d80300f00b99ff77da87fb6c1a89e53a6bd141bb3b4fd966533fba4ca"), looks := false }, kinds := [], alts := [], laidByText := true, laidKinds := [.data, .data], laidTests := true, laidLooks := .later }
def DigestSumsCardSaid : Prop := Claim7.holds Tryd.pinned (.plain (OpenSpec.ofChange digestSumsSpec)) digestSumsCard

/-- THE TIED CARD OF 'cleromancylaw05.DigestTables'. -/
def digestTablesCard : Claim7 := { stood := { row := digestTablesRow, standIns := [], harness := (true, "7aa9a75d80300f00b99ff77da87fb6c1a89e53a6bd141bb3b4fd966533fba4ca"), looks := false }, kinds := [], alts := [], laidByText := true, laidKinds := [.data, .data], laidTests := true, laidLooks := .later }
def DigestTablesCardSaid : Prop := Claim7.holds Tryd.pinned (.plain (OpenSpec.ofChange digestTablesSpec)) digestTablesCard

/-- THE TIED CARD OF 'cleromancylaw05.DigestPieces'. -/
def digestPiecesCard : Claim7 := { stood := { row := digestPiecesRow, standIns := [], harness := (true, "7aa9a75d80300f00b99ff77da87fb6c1a89e53a6bd141bb3b4fd966533fba4ca"), looks := false }, kinds := [], alts := [], laidByText := true, laidKinds := [.data, .data], laidTests := true, laidLooks := .later }
def DigestPiecesCardSaid : Prop := Claim7.holds Tryd.pinned (.plain (OpenSpec.ofChange digestPiecesSpec)) digestPiecesCard

/-- THE SECOND FORM's CARD OF 'cleromancylaw05.DigestSums'. -/
def digestSumsUptoCard : Claim7 := { stood := { row := digestSumsUptoRow, standIns := [], harness := (true, "7aa9a75d80300f00b99ff77da87fb6c1a89e53a6bd141bb3b4fd966533fba4ca"), looks := false }, kinds := [], alts := [], laidByText := true, laidKinds := [.data, .data], laidTests := true, laidLooks := .later }
def DigestSumsUptoCardSaid : Prop := Claim7.holds Tryd.pinned (.plain (OpenSpec.upto digestSumsSpec)) digestSumsUptoCard

/-- THE SECOND FORM's CARD OF 'cleromancylaw05.DigestTables'. -/
def digestTablesUptoCard : Claim7 := { stood := { row := digestTablesUptoRow, standIns := [], harness := (true, "7aa9a75d80300f00b99ff77da87fb6c1a89e53a6bd141bb3b4fd966533fba4ca"), looks := false }, kinds := [], alts := [], laidByText := true, laidKinds := [.data, .data], laidTests := true, laidLooks := .later }
def DigestTablesUptoCardSaid : Prop := Claim7.holds Tryd.pinned (.plain (OpenSpec.upto digestTablesSpec)) digestTablesUptoCard

/-- THE SECOND FORM's CARD OF 'cleromancylaw05.DigestPieces'. -/
def digestPiecesUptoCard : Claim7 := { stood := { row := digestPiecesUptoRow, standIns := [], harness := (true, "7aa9a75d80300f00b99ff77da87fb6c1a89e53a6bd141bb3b4fd966533fba4ca"), looks := false }, kinds := [], alts := [], laidByText := true, laidKinds := [.data, .data], laidTests := true, laidLooks := .later }
def DigestPiecesUptoCardSaid : Prop := Claim7.holds Tryd.pinned (.plain (OpenSpec.upto digestPiecesSpec)) digestPiecesUptoCard
end Rows
end Go.Proofs.YtkgeppioebppiaaDoor
