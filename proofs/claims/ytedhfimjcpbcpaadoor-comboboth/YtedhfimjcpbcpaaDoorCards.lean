/-
  DERIVED. GIVEN WITH THE SEED: THE CARDS: each row of YtedhfimjcpbcpaaDoorRows.lean that lists a variable, with what it lists TIED to the program's text (the seventh form; the later family's looks); each row that meets fmt, with fmt's text TOLD by the authors' own Lean function (tested against real Go, not proved from fmt's source: count such statements apart). THE CARD IS WHAT COUNTS. Prove the row's statement (the work); the ties are given (YtedhfimjcpbcpaaDoorTie.lean); close each card by the builder's one call (the guide's Derived/Test/ToyasCard.lean, 'card_holds'). Laid BY PROGRAM, IN A SANDBOX (cutbox-door.mjs). By AI agents, Wed Nov 11 2026. No macro, syntax, notation, axiom, sorry.
-/
import Derived.Test.YtedhfimjcpbcpaaDoorRows
import GoSem.ClaimSeven
namespace Go.Proofs.YtedhfimjcpbcpaaDoor
namespace Rows

/-- THE TIED CARD OF 'cleromancylaw11.ComboMuls'. -/
def comboMulsCard : Claim7 := { stood := { row := comboMulsRow, standIns := [], harness := (true, "c902a44a2d6f8b9d25a8e5b0aed1cb9e7735f350c6d7188c65519f0702c2da04"), looks := false }, kinds := [], alts := [], laidByText := true, laidKinds := [.data, .data, .data, .data, .data, .data], laidTests := true, laidLooks := .later }
def ComboMulsCardSaid : Prop := Claim7.holds Tryd.pinned (.plain (OpenSpec.ofChange comboMulsSpec)) comboMulsCard

/-- THE TIED CARD OF 'cleromancylaw11.ComboBoth'. -/
def comboBothCard : Claim7 := { stood := { row := comboBothRow, standIns := [], harness := (true, "c902a44a2d6f8b9d25a8e5b0aed1cb9e7735f350c6d7188c65519f0702c2da04"), looks := false }, kinds := [], alts := [], laidByText := true, laidKinds := [.data, .data, .data, .data, .data, .data], laidTests := true, laidLooks := .later }
def ComboBothCardSaid : Prop := Claim7.holds Tryd.pinned (.plain (OpenSpec.ofChange comboBothSpec)) comboBothCard

/-- THE TIED CARD OF 'cleromancylaw11.ComboBack'. -/
def comboBackCard : Claim7 := { stood := { row := comboBackRow, standIns := [], harness := (true, "c902a44a2d6f8b9d25a8e5b0aed1cb9e7735f350c6d7188c65519f0702c2da04"), looks := false }, kinds := [], alts := [], laidByText := true, laidKinds := [.data, .data, .data, .data, .data, .data], laidTests := true, laidLooks := .later }
def ComboBackCardSaid : Prop := Claim7.holds Tryd.pinned (.plain (OpenSpec.ofChange comboBackSpec)) comboBackCard

/-- THE SECOND FORM's CARD OF 'cleromancylaw11.ComboMuls'. -/
def comboMulsUptoCard : Claim7 := { stood := { row := comboMulsUptoRow, standIns := [], harness := (true, "c902a44a2d6f8b9d25a8e5b0aed1cb9e7735f350c6d7188c65519f0702c2da04"), looks := false }, kinds := [], alts := [], laidByText := true, laidKinds := [.data, .data, .data, .data, .data, .data], laidTests := true, laidLooks := .later }
def ComboMulsUptoCardSaid : Prop := Claim7.holds Tryd.pinned (.plain (OpenSpec.upto comboMulsSpec)) comboMulsUptoCard

/-- THE SECOND FORM's CARD OF 'cleromancylaw11.ComboBoth'. -/
def comboBothUptoCard : Claim7 := { stood := { row := comboBothUptoRow, standIns := [], harness := (true, "c902a44a2d6f8b9d25a8e5b0aed1cb9e7735f350c6d7188c65519f0702c2da04"), looks := false }, kinds := [], alts := [], laidByText := true, laidKinds := [.data, .data, .data, .data, .data, .data], laidTests := true, laidLooks := .later }
def ComboBothUptoCardSaid : Prop := Claim7.holds Tryd.pinned (.plain (OpenSpec.upto comboBothSpec)) comboBothUptoCard

/-- THE SECOND FORM's CARD OF 'cleromancylaw11.ComboBack'. -/
def comboBackUptoCard : Claim7 := { stood := { row := comboBackUptoRow, standIns := [], harness := (true, "c902a44a2d6f8b9d25a8e5b0aed1cb9e7735f350c6d7188c65519f0702c2da04"), looks := false }, kinds := [], alts := [], laidByText := true, laidKinds := [.data, .data, .data, .data, .data, .data], laidTests := true, laidLooks := .later }
def ComboBackUptoCardSaid : Prop := Claim7.holds Tryd.pinned (.plain (OpenSpec.upto comboBackSpec)) comboBackUptoCard
end Rows
end Go.Proofs.YtedhfimjcpbcpaaDoor
