/- The tree of a Doc with nothing in it; does the program answer? -/
import Derived.Test.YthhnglpkfcmjiaaKTk
import Derived.Test.YthhnglpkfcmjiaaKVtF
import Derived.Deep.RegionHeld
import Derived.Deep.Cut
namespace Go.Proofs.Ythhnglpkfcmjiaa
open Go.RowKit
set_option linter.unusedVariables false
set_option linter.unusedSimpArgs false
theorem row6f {W : World} {b : Nat} {cs : Array Value} {ty : TypeId} (h : W.heap[b]? = some (.cells cs ty)) (j : Nat) : W.frozen? ⟨b, j, none⟩ = false := frozen_of_row W b j _ _ h
theorem sizeVN : (Try.prog.info? 27).map (·.size) = some 6 := by kernel_rfl
end Go.Proofs.Ythhnglpkfcmjiaa
