/-
  DERIVED. GIVEN WITH THE SEED: THE CARDS: each row of YtaocjmipjibiaabGreatDoorRows.lean that lists a variable, with what it lists TIED to the program's text (the seventh form; the later family's looks); each row that meets fmt, with fmt's text TOLD by the authors' own Lean function (tested against real Go, not proved from fmt's source: count such statements apart). THE CARD IS WHAT COUNTS. Prove the row's statement (the work); the ties are given (YtaocjmipjibiaabGreatDoorTie.lean); close each card by the builder's one call (the guide's Derived/Test/ToyasCard.lean, 'card_holds'). Laid BY PROGRAM, IN A SANDBOX (cutbox-door.mjs). By AI agents, Wed Nov 11 2026. No macro, syntax, notation, axiom, sorry.
-/
import Derived.Test.YtaocjmipjibiaabGreatDoorRows
import GoSem.ClaimSeven
namespace Go.Proofs.YtaocjmipjibiaabGreatDoor
namespace Rows

/-- THE TIED CARD OF 'topiarylaw05.ChangeBack'. -/
def changeBackCard : Claim7 := { stood := { row := changeBackRow, standIns := [], harness := (true, "b3210078e7ed04940edeb3bd559560f89c719912f95958c7dd6b27647c114734"), looks := true }, kinds := [], alts := [], laidByText := true, laidKinds := [.data, .data, .data, .sentinel, .sentinel], laidTests := true, laidLooks := .later }
def ChangeBackCardSaid : Prop := Claim7.holds Tryz.pinned (.plain (OpenSpec.ofChange changeBackSpec)) changeBackCard

/-- THE TIED CARD OF 'topiarylaw05.ChangeAhead'. -/
def changeAheadCard : Claim7 := { stood := { row := changeAheadRow, standIns := [], harness := (true, "b3210078e7ed04940edeb3bd559560f89c719912f95958c7dd6b27647c114734"), looks := true }, kinds := [], alts := [], laidByText := true, laidKinds := [.data, .data, .data, .sentinel, .sentinel], laidTests := true, laidLooks := .later }
def ChangeAheadCardSaid : Prop := Claim7.holds Tryz.pinned (.plain (OpenSpec.ofChange changeAheadSpec)) changeAheadCard

/-- THE SECOND FORM's CARD OF 'topiarylaw05.ChangeBack'. -/
def changeBackUptoCard : Claim7 := { stood := { row := changeBackUptoRow, standIns := [], harness := (true, "b3210078e7ed04940edeb3bd559560f89c719912f95958c7dd6b27647c114734"), looks := true }, kinds := [], alts := [], laidByText := true, laidKinds := [.data, .data, .data, .sentinel, .sentinel], laidTests := true, laidLooks := .later }
def ChangeBackUptoCardSaid : Prop := Claim7.holds Tryz.pinned (.plain (OpenSpec.upto changeBackSpec)) changeBackUptoCard

/-- THE SECOND FORM's CARD OF 'topiarylaw05.ChangeAhead'. -/
def changeAheadUptoCard : Claim7 := { stood := { row := changeAheadUptoRow, standIns := [], harness := (true, "b3210078e7ed04940edeb3bd559560f89c719912f95958c7dd6b27647c114734"), looks := true }, kinds := [], alts := [], laidByText := true, laidKinds := [.data, .data, .data, .sentinel, .sentinel], laidTests := true, laidLooks := .later }
def ChangeAheadUptoCardSaid : Prop := Claim7.holds Tryz.pinned (.plain (OpenSpec.upto changeAheadSpec)) changeAheadUptoCard
end Rows
end Go.Proofs.YtaocjmipjibiaabGreatDoor
