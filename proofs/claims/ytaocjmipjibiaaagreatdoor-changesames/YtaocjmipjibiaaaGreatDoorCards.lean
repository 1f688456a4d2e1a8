/-
  DERIVED. GIVEN WITH THE SEED: THE CARDS: each row of YtaocjmipjibiaaaGreatDoorRows.lean that lists a variable, with what it lists TIED to the program's text (the seventh form; the later family's looks); each row that meets fmt, with fmt's text TOLD by the authors' own Lean function (tested against real Go, not proved from fmt's source: count such statements apart). THE CARD IS WHAT COUNTS. Prove the row's statement (the work); the ties are given (YtaocjmipjibiaaaGreatDoorTie.lean); close each card by the builder's one call (the guide's Derived/Test/ToyasCard.lean, 'card_holds'). Laid BY PROGRAM, IN A SANDBOX (cutbox-door.mjs). By AI agents, Wed Nov 11 2026. No macro, syntax, notation, axiom, sorry.
-/
import Derived.Test.YtaocjmipjibiaaaGreatDoorRows
import GoSem.ClaimSeven
namespace Go.Proofs.YtaocjmipjibiaaaGreatDoor
namespace Rows

/-- THE TIED CARD OF 'topiarylaw05.ChangeChecks'. -/
def changeChecksCard : Claim7 := { stood := { row := changeChecksRow, standIns := [], harness := (true, "810b6b9e174de18989472189c9613c513580924266aca977a2e0d3b17c2651ba"), looks := true }, kinds := [], alts := [], laidByText := true, laidKinds := [.data, .data, .data, .sentinel, .sentinel], laidTests := true, laidLooks := .later }
def ChangeChecksCardSaid : Prop := Claim7.holds Tryz.pinned (.plain (OpenSpec.ofChange changeChecksSpec)) changeChecksCard

/-- THE TIED CARD OF 'topiarylaw05.ChangeSames'. -/
def changeSamesCard : Claim7 := { stood := { row := changeSamesRow, standIns := [], harness := (true, "810b6b9e174de18989472189c9613c513580924266aca977a2e0d3b17c2651ba"), looks := true }, kinds := [], alts := [], laidByText := true, laidKinds := [.data, .data, .data, .sentinel, .sentinel], laidTests := true, laidLooks := .later }
def ChangeSamesCardSaid : Prop := Claim7.holds Tryz.pinned (.plain (OpenSpec.ofChange changeSamesSpec)) changeSamesCard

/-- THE TIED CARD OF 'topiarylaw05.ChangeCopies'. -/
def changeCopiesCard : Claim7 := { stood := { row := changeCopiesRow, standIns := [], harness := (true, "810b6b9e174de18989472189c9613c513580924266aca977a2e0d3b17c2651ba"), looks := true }, kinds := [], alts := [], laidByText := true, laidKinds := [.data, .data, .data, .sentinel, .sentinel], laidTests := true, laidLooks := .later }
def ChangeCopiesCardSaid : Prop := Claim7.holds Tryz.pinned (.plain (OpenSpec.ofChange changeCopiesSpec)) changeCopiesCard

/-- THE TIED CARD OF 'topiarylaw05.ChangeQuotes'. -/
def changeQuotesCard : Claim7 := { stood := { row := changeQuotesRow, standIns := [], harness := (true, "810b6b9e174de18989472189c9613c513580924266aca977a2e0d3b17c2651ba"), looks := true }, kinds := [], alts := [], laidByText := true, laidKinds := [.data, .data, .data, .sentinel, .sentinel], laidTests := true, laidLooks := .later }
def ChangeQuotesCardSaid : Prop := Claim7.holds Tryz.pinned (.plain (OpenSpec.ofChange changeQuotesSpec)) changeQuotesCard

/-- THE TIED CARD OF 'topiarylaw05.ChangeTexts'. -/
def changeTextsCard : Claim7 := { stood := { row := changeTextsRow, standIns := [], harness := (true, "810b6b9e174de18989472189c9613c513580924266aca977a2e0d3b17c2651ba"), looks := true }, kinds := [], alts := [], laidByText := true, laidKinds := [.data, .data, .data, .sentinel, .sentinel], laidTests := true, laidLooks := .later }
def ChangeTextsCardSaid : Prop := Claim7.holds Tryz.pinned (.plain (OpenSpec.ofChange changeTextsSpec)) changeTextsCard

/-- THE TIED CARD OF 'topiarylaw05.ChangeParses'. -/
def changeParsesCard : Claim7 := { stood := { row := changeParsesRow, standIns := [], harness := (true, "810b6b9e174de18989472189c9613c513580924266aca977a2e0d3b17c2651ba"), looks := true }, kinds := [], alts := [], laidByText := true, laidKinds := [.data, .data, .data, .sentinel, .sentinel], laidTests := true, laidLooks := .later }
def ChangeParsesCardSaid : Prop := Claim7.holds Tryz.pinned (.plain (OpenSpec.ofChange changeParsesSpec)) changeParsesCard

/-- THE SECOND FORM's CARD OF 'topiarylaw05.ChangeChecks'. -/
def changeChecksUptoCard : Claim7 := { stood := { row := changeChecksUptoRow, standIns := [], harness := (true, "810b6b9e174de18989472189c9613c513580924266aca977a2e0d3b17c2651ba"), looks := true }, kinds := [], alts := [], laidByText := true, laidKinds := [.data, .data, .data, .sentinel, .sentinel], laidTests := true, laidLooks := .later }
def ChangeChecksUptoCardSaid : Prop := Claim7.holds Tryz.pinned (.plain (OpenSpec.upto changeChecksSpec)) changeChecksUptoCard

/-- THE SECOND FORM's CARD OF 'topiarylaw05.ChangeSames'. -/
def changeSamesUptoCard : Claim7 := { stood := { row := changeSamesUptoRow, standIns := [], harness := (true, "810b6b9e174de18989472189c9613c513580924266aca977a2e0d3b17c2651ba"), looks := true }, kinds := [], alts := [], laidByText := true, laidKinds := [.data, .data, .data, .sentinel, .sentinel], laidTests := true, laidLooks := .later }
def ChangeSamesUptoCardSaid : Prop := Claim7.holds Tryz.pinned (.plain (OpenSpec.upto changeSamesSpec)) changeSamesUptoCard

/-- THE SECOND FORM's CARD OF 'topiarylaw05.ChangeCopies'. -/
def changeCopiesUptoCard : Claim7 := { stood := { row := changeCopiesUptoRow, standIns := [], harness := (true, "810b6b9e174de18989472189c9613c513580924266aca977a2e0d3b17c2651ba"), looks := true }, kinds := [], alts := [], laidByText := true, laidKinds := [.data, .data, .data, .sentinel, .sentinel], laidTests := true, laidLooks := .later }
def ChangeCopiesUptoCardSaid : Prop := Claim7.holds Tryz.pinned (.plain (OpenSpec.upto changeCopiesSpec)) changeCopiesUptoCard

/-- THE SECOND FORM's CARD OF 'topiarylaw05.ChangeQuotes'. -/
def changeQuotesUptoCard : Claim7 := { stood := { row := changeQuotesUptoRow, standIns := [], harness := (true, "810b6b9e174de18989472189c9613c513580924266aca977a2e0d3b17c2651ba"), looks := true }, kinds := [], alts := [], laidByText := true, laidKinds := [.data, .data, .data, .sentinel, .sentinel], laidTests := true, laidLooks := .later }
def ChangeQuotesUptoCardSaid : Prop := Claim7.holds Tryz.pinned (.plain (OpenSpec.upto changeQuotesSpec)) changeQuotesUptoCard

/-- THE SECOND FORM's CARD OF 'topiarylaw05.ChangeTexts'. -/
def changeTextsUptoCard : Claim7 := { stood := { row := changeTextsUptoRow, standIns := [], harness := (true, "810b6b9e174de18989472189c9613c513580924266aca977a2e0d3b17c2651ba"), looks := true }, kinds := [], alts := [], laidByText := true, laidKinds := [.data, .data, .data, .sentinel, .sentinel], laidTests := true, laidLooks := .later }
def ChangeTextsUptoCardSaid : Prop := Claim7.holds Tryz.pinned (.plain (OpenSpec.upto changeTextsSpec)) changeTextsUptoCard

/-- THE SECOND FORM's CARD OF 'topiarylaw05.ChangeParses'. -/
def changeParsesUptoCard : Claim7 := { stood := { row := changeParsesUptoRow, standIns := [], harness := (true, "810b6b9e174de18989472189c9613c513580924266aca977a2e0d3b17c2651ba"), looks := true }, kinds := [], alts := [], laidByText := true, laidKinds := [.data, .data, .data, .sentinel, .sentinel], laidTests := true, laidLooks := .later }
def ChangeParsesUptoCardSaid : Prop := Claim7.holds Tryz.pinned (.plain (OpenSpec.upto changeParsesSpec)) changeParsesUptoCard
end Rows
end Go.Proofs.YtaocjmipjibiaaaGreatDoor
