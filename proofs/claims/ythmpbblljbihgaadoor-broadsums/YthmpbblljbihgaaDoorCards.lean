/-
  DERIVED. GIVEN WITH THE SEED: THE CARDS: each row of YthmpbblljbihgaaDoorRows.lean that lists a variable, with what it lists TIED to the program's text (the seventh form; the later family's looks); each row that meets fmt, with fmt's text TOLD by the authors' own Lean function (tested against real Go, not proved from fmt's source: count such statements apart). THE CARD IS WHAT COUNTS. Prove the row's statement (the work); the ties are given (YthmpbblljbihgaaDoorTie.lean); close each card by the builder's one call (the guide's Derived/Test/ToyasCard.lean, 'card_holds'). Laid BY PROGRAM, IN A SANDBOX (cutbox-door.mjs). By AI agents, Wed Nov 11 2026. No macro, syntax, notation, axiom, sorry.
-/
import Derived.Test.YthmpbblljbihgaaDoorRows
import GoSem.ClaimSeven
namespace Go.Proofs.YthmpbblljbihgaaDoor
namespace Rows

/-- THE TIED CARD OF 'cleromancylaw06.BroadSums'. -/
def broadSumsCard : Claim7 := { stood := { row := broadSumsRow, standIns := [], harness := (true, "b10ff8765e8e6bccaf83cd0c6181d4c70346a610776d84a341f897dc4b3ea7fb"), looks := false }, kinds := [], alts := [], laidByText := true, laidKinds := [.data, .data], laidTests := true, laidLooks := .later }
def BroadSumsCardSaid : Prop := Claim7.holds Tryd.pinned (.plain (OpenSpec.ofChange broadSumsSpec)) broadSumsCard

/-- THE TIED CARD OF 'cleromancylaw06.BroadTables'. -/
def broadTablesCard : Claim7 := { stood := { row := broadTablesRow, standIns := [], harness := (true, "b10ff8765e8e6bccaf83cd0c6181d4c70346a610776d84a341f897dc4b3ea7fb"), looks := false }, kinds := [], alts := [], laidByText := true, laidKinds := [.data, .data], laidTests := true, laidLooks := .later }
def BroadTablesCardSaid : Prop := Claim7.holds Tryd.pinned (.plain (OpenSpec.ofChange broadTablesSpec)) broadTablesCard

/-- THE TIED CARD OF 'cleromancylaw06.BroadPieces'. -/
def broadPiecesCard : Claim7 := { stood := { row := broadPiecesRow, standIns := [], harness := (true, "b10ff8765e8e6bccaf83cd0c6181d4c70346a610776d84a341f897dc4b3ea7fb"), looks := false }, kinds := [], alts := [], laidByText := true, laidKinds := [.data, .data], laidTests := true, laidLooks := .later }
def BroadPiecesCardSaid : Prop := Claim7.holds Tryd.pinned (.plain (OpenSpec.ofChange broadPiecesSpec)) broadPiecesCard

/-- THE SECOND FORM's CARD OF 'cleromancylaw06.BroadSums'. -/
def broadSumsUptoCard : Claim7 := { stood := { row := broadSumsUptoRow, standIns := [], harness := (true, "b10ff8765e8e6bccaf83cd0c6181d4c70346a610776d84a341f897dc4b3ea7fb"), looks := false }, kinds := [], alts := [], laidByText := true, laidKinds := [.data, .data], laidTests := true, laidLooks := .later }
def BroadSumsUptoCardSaid : Prop := Claim7.holds Tryd.pinned (.plain (OpenSpec.upto broadSumsSpec)) broadSumsUptoCard

/-- THE SECOND FORM's CARD OF 'cleromancylaw06.BroadTables'. -/
def broadTablesUptoCard : Claim7 := { stood := { row := broadTablesUptoRow, standIns := [], harness := (true, "b10ff8765e8e6bccaf83cd0c6181d4c70346a610776d84a341f897dc4b3ea7fb"), looks := false }, kinds := [], alts := [], laidByText := true, laidKinds := [.data, .data], laidTests := true, laidLooks := .later }
def BroadTablesUptoCardSaid : Prop := Claim7.holds Tryd.pinned (.plain (OpenSpec.upto broadTablesSpec)) broadTablesUptoCard

/-- THE SECOND FORM's CARD OF 'cleromancylaw06.BroadPieces'. -/
def broadPiecesUptoCard : Claim7 := { stood := { row := broadPiecesUptoRow, standIns := [], harness := (true, "b10ff8765e8e6bccaf83cd0c6181d4c70346a610776d84a341f897dc4b3ea7fb"), looks := false }, kinds := [], alts := [], laidByText := true, laidKinds := [.data, .data], laidTests := true, laidLooks := .later }
def BroadPiecesUptoCardSaid : Prop := Claim7.holds Tryd.pinned (.plain (OpenSpec.upto broadPiecesSpec)) broadPiecesUptoCard
end Rows
end Go.Proofs.YthmpbblljbihgaaDoor
