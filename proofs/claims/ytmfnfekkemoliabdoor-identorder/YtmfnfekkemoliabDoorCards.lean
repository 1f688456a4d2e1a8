/-
  DERIVED. GIVEN WITH THE SEED: THE CARDS: each row of YtmfnfekkemoliabDoorRows.lean that lists a variable, with what it lists TIED to the program's text (the seventh form; the later family's looks); each row that meets fmt, with fmt's text TOLD by the authors' own Lean function (tested against real Go, not proved from fmt's source: count such statements apart). THE CARD IS WHAT COUNTS. Prove the row's statement (the work); the ties are given (YtmfnfekkemoliabDoorTie.lean); close each card by the builder's one call (the guide's Derived/Test/ToyasCard.lean, 'card_holds'). Laid BY PROGRAM, IN A SANDBOX (cutbox-door.mjs). By AI agents, Wed Nov 11 2026. No macro, syntax, notation, axiom, sorry.
-/
import Derived.Test.YtmfnfekkemoliabDoorRows
import GoSem.ClaimSeven
namespace Go.Proofs.YtmfnfekkemoliabDoor
namespace Rows

/-- THE TIED CARD OF 'topiarylaw01.IdentOrder'. -/
def identOrderCard : Claim7 := { stood := { row := identOrderRow, standIns := [], harness := (true, "658f747723a01b2941dd050200aef8f65ae46f517758da6151a6f475c6898f57"), looks := true }, kinds := [], alts := [], laidByText := true, laidKinds := [.data, .data, .data], laidTests := true, laidLooks := .later }
def IdentOrderCardSaid : Prop := Claim7.holds Tryd.pinned (.plain (OpenSpec.ofChange identOrderSpec)) identOrderCard

/-- THE TIED CARD OF 'topiarylaw01.IdentBack'. -/
def identBackCard : Claim7 := { stood := { row := identBackRow, standIns := [], harness := (true, "658f747723a01b2941dd050200aef8f65ae46f517758da6151a6f475c6898f57"), looks := true }, kinds := [], alts := [], laidByText := true, laidKinds := [.data, .data, .data, .sentinel, .sentinel], laidTests := true, laidLooks := .later }
def IdentBackCardSaid : Prop := Claim7.holds Tryd.pinned (.plain (OpenSpec.ofChange identBackSpec)) identBackCard

/-- THE TIED CARD OF 'topiarylaw01.IdentAhead'. -/
def identAheadCard : Claim7 := { stood := { row := identAheadRow, standIns := [], harness := (true, "658f747723a01b2941dd050200aef8f65ae46f517758da6151a6f475c6898f57"), looks := true }, kinds := [], alts := [], laidByText := true, laidKinds := [.data, .data, .data], laidTests := true, laidLooks := .later }
def IdentAheadCardSaid : Prop := Claim7.holds Tryd.pinned (.plain (OpenSpec.ofChange identAheadSpec)) identAheadCard

/-- THE SECOND FORM's CARD OF 'topiarylaw01.IdentOrder'. -/
def identOrderUptoCard : Claim7 := { stood := { row := identOrderUptoRow, standIns := [], harness := (true, "658f747723a01b2941dd050200aef8f65ae46f517758da6151a6f475c6898f57"), looks := true }, kinds := [], alts := [], laidByText := true, laidKinds := [.data, .data, .data], laidTests := true, laidLooks := .later }
def IdentOrderUptoCardSaid : Prop := Claim7.holds Tryd.pinned (.plain (OpenSpec.upto identOrderSpec)) identOrderUptoCard

/-- THE SECOND FORM's CARD OF 'topiarylaw01.IdentBack'. -/
def identBackUptoCard : Claim7 := { stood := { row := identBackUptoRow, standIns := [], harness := (true, "658f747723a01b2941dd050200aef8f65ae46f517758da6151a6f475c6898f57"), looks := true }, kinds := [], alts := [], laidByText := true, laidKinds := [.data, .data, .data, .sentinel, .sentinel], laidTests := true, laidLooks := .later }
def IdentBackUptoCardSaid : Prop := Claim7.holds Tryd.pinned (.plain (OpenSpec.upto identBackSpec)) identBackUptoCard

/-- THE SECOND FORM's CARD OF 'topiarylaw01.IdentAhead'. -/
def identAheadUptoCard : Claim7 := { stood := { row := identAheadUptoRow, standIns := [], harness := (true, "658f747723a01b2941dd050200aef8f65ae46f517758da6151a6f475c6898f57"), looks := true }, kinds := [], alts := [], laidByText := true, laidKinds := [.data, .data, .data], laidTests := true, laidLooks := .later }
def IdentAheadUptoCardSaid : Prop := Claim7.holds Tryd.pinned (.plain (OpenSpec.upto identAheadSpec)) identAheadUptoCard
end Rows
end Go.Proofs.YtmfnfekkemoliabDoor
