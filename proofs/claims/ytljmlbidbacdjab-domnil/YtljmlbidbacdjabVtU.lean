/- The program's Same. -/
import Derived.Test.YtljmlbidbacdjabVtT
namespace Go.Proofs.Ytljmlbidbacdjab
open Go.RowKit
set_option linter.unusedVariables false
set_option linter.unusedSimpArgs false

theorem refSame_any (G1 G2 : Nat → Prop) (a b : VT) (va vb : Value) (w : World) (ha : VIs G1 w va a) (hb : VIs G2 w vb b) : Calls Try.prog 11 #[va, vb] w fun e w' => e = .returned (.bool (eqV a b)) ∧ Below w.heap.size w w' := refSame_n a.sz G1 G2 a b va vb w (Nat.le_refl _) ha hb

end Go.Proofs.Ytljmlbidbacdjab
