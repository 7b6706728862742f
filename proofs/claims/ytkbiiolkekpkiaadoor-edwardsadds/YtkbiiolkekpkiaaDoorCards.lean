/-
  DERIVED. GIVEN WITH THE SEED: THE CARDS: each row of YtkbiiolkekpkiaaDoorRows.lean that lists a variable, with what it lists TIED to the program's text (the seventh form; the later family's looks); each row that meets fmt, with fmt's text TOLD by the authors' own Lean function (tested against real Go, not proved from fmt's source: count such statements apart). THE CARD IS WHAT COUNTS. Prove the row's statement (the work); the ties are given (YtkbiiolkekpkiaaDoorTie.lean); close each card by the builder's one call (the guide's Derived/Test/ToyasCard.lean, 'card_holds'). Laid BY PROGRAM, IN A SANDBOX (cutbox-door.mjs). By AI agents, Wed Nov 11 2026. No macro, syntax, notation, axiom, sorry.
-/
import Derived.Test.YtkbiiolkekpkiaaDoorRows
import GoSem.ClaimSeven
namespace Go.Proofs.YtkbiiolkekpkiaaDoor
namespace Rows

/-- THE TIED CARD OF 'cleromancylaw10.EdwardsBytes'. -/
def edwardsBytesCard : Claim7 := { stood := { row := edwardsBytesRow, standIns := [], harness := (true, "2867936d3b760f4fb9c27f3485fa71234a8b8ccc77f85e91fc6be9f93454bbe8"), looks := false }, kinds := [], alts := [], laidByText := true, laidKinds := [.data, .data, .data, .data, .data], laidTests := true, laidLooks := .later }
def EdwardsBytesCardSaid : Prop := Claim7.holds Tryd.pinned (.plain (OpenSpec.ofChange edwardsBytesSpec)) edwardsBytesCard

/-- THE TIED CARD OF 'cleromancylaw10.EdwardsPairs'. -/
def edwardsPairsCard : Claim7 := { stood := { row := edwardsPairsRow, standIns := [], harness := (true, "2867936d3b760f4fb9c27f3485fa71234a8b8ccc77f85e91fc6be9f93454bbe8"), looks := false }, kinds := [], alts := [], laidByText := true, laidKinds := [.data, .data, .data, .data], laidTests := true, laidLooks := .later }
def EdwardsPairsCardSaid : Prop := Claim7.holds Tryd.pinned (.plain (OpenSpec.ofChange edwardsPairsSpec)) edwardsPairsCard

/-- THE TIED CARD OF 'cleromancylaw10.EdwardsAdds'. -/
def edwardsAddsCard : Claim7 := { stood := { row := edwardsAddsRow, standIns := [], harness := (true, "2867936d3b760f4fb9c27f3485fa71234a8b8ccc77f85e91fc6be9f93454bbe8"), looks := false }, kinds := [], alts := [], laidByText := true, laidKinds := [.data, .data, .data, .data, .data, .data], laidTests := true, laidLooks := .later }
def EdwardsAddsCardSaid : Prop := Claim7.holds Tryd.pinned (.plain (OpenSpec.ofChange edwardsAddsSpec)) edwardsAddsCard

/-- THE TIED CARD OF 'cleromancylaw10.EdwardsGroup'. -/
def edwardsGroupCard : Claim7 := { stood := { row := edwardsGroupRow, standIns := [], harness := (true, "2867936d3b760f4fb9c27f3485fa71234a8b8ccc77f85e91fc6be9f93454bbe8"), looks := false }, kinds := [], alts := [], laidByText := true, laidKinds := [.data, .data, .data, .data, .data, .data], laidTests := true, laidLooks := .later }
def EdwardsGroupCardSaid : Prop := Claim7.holds Tryd.pinned (.plain (OpenSpec.ofChange edwardsGroupSpec)) edwardsGroupCard

/-- THE SECOND FORM's CARD OF 'cleromancylaw10.EdwardsBytes'. -/
def edwardsBytesUptoCard : Claim7 := { stood := { row := edwardsBytesUptoRow, standIns := [], harness := (true, "2867936d3b760f4fb9c27f3485fa71234a8b8ccc77f85e91fc6be9f93454bbe8"), looks := false }, kinds := [], alts := [], laidByText := true, laidKinds := [.data, .data, .data, .data, .data], laidTests := true, laidLooks := .later }
def EdwardsBytesUptoCardSaid : Prop := Claim7.holds Tryd.pinned (.plain (OpenSpec.upto edwardsBytesSpec)) edwardsBytesUptoCard

/-- THE SECOND FORM's CARD OF 'cleromancylaw10.EdwardsPairs'. -/
def edwardsPairsUptoCard : Claim7 := { stood := { row := edwardsPairsUptoRow, standIns := [], harness := (true, "2867936d3b760f4fb9c27f3485fa71234a8b8ccc77f85e91fc6be9f93454bbe8"), looks := false }, kinds := [], alts := [], laidByText := true, laidKinds := [.data, .data, .data, .data], laidTests := true, laidLooks := .later }
def EdwardsPairsUptoCardSaid : Prop := Claim7.holds Tryd.pinned (.plain (OpenSpec.upto edwardsPairsSpec)) edwardsPairsUptoCard

/-- THE SECOND FORM's CARD OF 'cleromancylaw10.EdwardsAdds'. -/
def edwardsAddsUptoCard : Claim7 := { stood := { row := edwardsAddsUptoRow, standIns := [], harness := (true, "2867936d3b760f4fb9c27f3485fa71234a8b8ccc77f85e91fc6be9f93454bbe8"), looks := false }, kinds := [], alts := [], laidByText := true, laidKinds := [.data, .data, .data, .data, .data, .data], laidTests := true, laidLooks := .later }
def EdwardsAddsUptoCardSaid : Prop := Claim7.holds Tryd.pinned (.plain (OpenSpec.upto edwardsAddsSpec)) edwardsAddsUptoCard

/-- THE SECOND FORM's CARD OF 'cleromancylaw10.EdwardsGroup'. -/
def edwardsGroupUptoCard : Claim7 := { stood := { row := edwardsGroupUptoRow, standIns := [], harness := (true, "2867936d3b760f4fb9c27f3485fa71234a8b8ccc77f85e91fc6be9f93454bbe8"), looks := false }, kinds := [], alts := [], laidByText := true, laidKinds := [.data, .data, .data, .data, .data, .data], laidTests := true, laidLooks := .later }
def EdwardsGroupUptoCardSaid : Prop := Claim7.holds Tryd.pinned (.plain (OpenSpec.upto edwardsGroupSpec)) edwardsGroupUptoCard
end Rows
end Go.Proofs.YtkbiiolkekpkiaaDoor
