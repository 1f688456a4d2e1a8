/- What the document's Whole and Digits do. -/
import Derived.Test.YtaocjmipjibiaabGreatDoorNumX
namespace Go.Proofs.YtaocjmipjibiaabGreatDoor
open Go.RowKit
set_option linter.unusedVariables false

end Go.Proofs.YtaocjmipjibiaabGreatDoor
