/- The program's Find. -/
import Derived.Test.YtngglnlphlembaaVtKb
namespace Go.Proofs.Ytngglnlphlembaa
open Go.RowKit Go.Shelf
set_option linter.unusedVariables false
set_option linter.unusedSimpArgs false

attribute [local go_sem] Oper.semAt_some

end Go.Proofs.Ytngglnlphlembaa
