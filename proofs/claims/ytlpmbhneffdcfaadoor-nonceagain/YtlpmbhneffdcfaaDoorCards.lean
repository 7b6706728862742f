/-
  DERIVED. GIVEN WITH THE SEED: THE CARDS: each row of YtlpmbhneffdcfaaDoorRows.lean that lists a variable, with what it lists TIED to the program's text (the seventh form; the later family's looks); each row that meets fmt, with fmt's text TOLD by the authors' own Lean function (tested against real Go, not proved from fmt's source: count such statements apart). THE CARD IS WHAT COUNTS. Prove the row's statement (the work); the ties are given (YtlpmbhneffdcfaaDoorTie.lean); close each card by the builder's one call (the guide's Derived/Test/ToyasCard.lean, 'card_holds'). Laid BY PROGRAM, IN A SANDBOX (cutbox-door.mjs). By AI agents, Wed Nov 11 2026. No macro, syntax, notation, axiom, sorry.
-/
import Derived.Test.YtlpmbhneffdcfaaDoorRows
import GoSem.ClaimSeven
namespace Go.Proofs.YtlpmbhneffdcfaaDoor
namespace Rows

/-- THE TIED CARD OF 'cleromancylaw08.NonceTells'. -/
def nonceTellsCard : Claim7 := { stood := { row := nonceTellsRow, standIns := [], harness := (true, "8f27bcf23e62766710258bbd42a8bd21a490dafe7424ec5346603ac6b7e13da3"), looks := false }, kinds := [], alts := [], laidByText := true, laidKinds := [.data, .data], laidTests := true, laidLooks := .later }
def NonceTellsCardSaid : Prop := Claim7.holds Tryd.pinned (.plain (OpenSpec.ofChange nonceTellsSpec)) nonceTellsCard

/-- THE TIED CARD OF 'cleromancylaw08.NonceAgain'. -/
def nonceAgainCard : Claim7 := { stood := { row := nonceAgainRow, standIns := [], harness := (true, "8f27bcf23e62766710258bbd42a8bd21a490dafe7424ec5346603ac6b7e13da3"), looks := false }, kinds := [], alts := [], laidByText := true, laidKinds := [.data, .data], laidTests := true, laidLooks := .later }
def NonceAgainCardSaid : Prop := Claim7.holds Tryd.pinned (.plain (OpenSpec.ofChange nonceAgainSpec)) nonceAgainCard

/-- THE SECOND FORM's CARD OF 'cleromancylaw08.NonceTells'. -/
def nonceTellsUptoCard : Claim7 := { stood := { row := nonceTellsUptoRow, standIns := [], harness := (true, "8f27bcf23e62766710258bbd42a8bd21a490dafe7424ec5346603ac6b7e13da3"), looks := false }, kinds := [], alts := [], laidByText := true, laidKinds := [.data, .data], laidTests := true, laidLooks := .later }
def NonceTellsUptoCardSaid : Prop := Claim7.holds Tryd.pinned (.plain (OpenSpec.upto nonceTellsSpec)) nonceTellsUptoCard

/-- THE SECOND FORM's CARD OF 'cleromancylaw08.NonceAgain'. -/
def nonceAgainUptoCard : Claim7 := { stood := { row := nonceAgainUptoRow, standIns := [], harness := (true, "8f27bcf23e62766710258bbd42a8bd21a490dafe7424ec5346603ac6b7e13da3"), looks := false }, kinds := [], alts := [], laidByText := true, laidKinds := [.data, .data], laidTests := true, laidLooks := .later }
def NonceAgainUptoCardSaid : Prop := Claim7.holds Tryd.pinned (.plain (OpenSpec.upto nonceAgainSpec)) nonceAgainUptoCard
end Rows
end Go.Proofs.YtlpmbhneffdcfaaDoor
