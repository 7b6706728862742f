/-
  DERIVED. GIVEN WITH THE SEED: THE CARDS: each row of YtkkhpjcfojgggaaDoorRows.lean that lists a variable, with what it lists TIED to the program's text (the seventh form; the later family's looks); each row that meets fmt, with fmt's text TOLD by the authors' own Lean function (tested against real Go, not proved from fmt's source: count such statements apart). THE CARD IS WHAT COUNTS. Prove the row's statement (the work); the ties are given (YtkkhpjcfojgggaaDoorTie.lean); close each card by the builder's one call (the guide's Derived/Test/ToyasCard.lean, 'card_holds'). Laid BY PROGRAM, IN A SANDBOX (cutbox-door.mjs). By AI agents, Wed Nov 11 2026. No macro, syntax, notation, axiom, sorry.
-/
import Derived.Test.YtkkhpjcfojgggaaDoorRows
import GoSem.ClaimSeven
namespace Go.Proofs.YtkkhpjcfojgggaaDoor
namespace Rows

/-- THE TIED CARD OF 'cleromancylaw09.ExpandBytes'. -/
def expandBytesCard : Claim7 := { stood := { row := expandBytesRow, standIns := [], harness := (true, "4140fa7fe3c3f7be6e79f71c45aa8e024eb10c2627da887d0decc88e3c1d3aab"), looks := false }, kinds := [], alts := [], laidByText := true, laidKinds := [.data, .data], laidTests := true, laidLooks := .later }
def ExpandBytesCardSaid : Prop := Claim7.holds Tryd.pinned (.plain (OpenSpec.ofChange expandBytesSpec)) expandBytesCard

/-- THE TIED CARD OF 'cleromancylaw09.ExpandChain'. -/
def expandChainCard : Claim7 := { stood := { row := expandChainRow, standIns := [], harness := (true, "4140fa7fe3c3f7be6e79f71c45aa8e024eb10c2627da887d0decc88e3c1d3aab"), looks := false }, kinds := [], alts := [], laidByText := true, laidKinds := [.data, .data], laidTests := true, laidLooks := .later }
def ExpandChainCardSaid : Prop := Claim7.holds Tryd.pinned (.plain (OpenSpec.ofChange expandChainSpec)) expandChainCard

/-- THE SECOND FORM's CARD OF 'cleromancylaw09.ExpandBytes'. -/
def expandBytesUptoCard : Claim7 := { stood := { row := expandBytesUptoRow, standIns := [], harness := (true, "4140fa7fe3c3f7be6e79f71c45aa8e024eb10c2627da887d0decc88e3c1d3aab"), looks := false }, kinds := [], alts := [], laidByText := true, laidKinds := [.data, .data], laidTests := true, laidLooks := .later }
def ExpandBytesUptoCardSaid : Prop := Claim7.holds Tryd.pinned (.plain (OpenSpec.upto expandBytesSpec)) expandBytesUptoCard

/-- THE SECOND FORM's CARD OF 'cleromancylaw09.ExpandChain'. -/
def expandChainUptoCard : Claim7 := { stood := { row := expandChainUptoRow, standIns := [], harness := (true, "4140fa7fe3c3f7be6e79f71c45aa8e024eb10c2627da887d0decc88e3c1d3aab"), looks := false }, kinds := [], alts := [], laidByText := true, laidKinds := [.data, .data], laidTests := true, laidLooks := .later }
def ExpandChainUptoCardSaid : Prop := Claim7.holds Tryd.pinned (.plain (OpenSpec.upto expandChainSpec)) expandChainUptoCard
end Rows
end Go.Proofs.YtkkhpjcfojgggaaDoor
