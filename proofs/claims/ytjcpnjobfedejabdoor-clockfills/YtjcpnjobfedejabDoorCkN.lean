/- What the document's Under does, at any lists. -/
import Derived.Test.YtjcpnjobfedejabDoorCkM
namespace Go.Proofs.YtjcpnjobfedejabDoor
open Go.RowKit
set_option linter.unusedVariables false

end Go.Proofs.YtjcpnjobfedejabDoor
