/- Names as data. -/
import Derived.Test.YtljmlbidbacdjabWalksA
namespace Go.Proofs.Ytljmlbidbacdjab
set_option linter.unusedVariables false

/-- Names. -/
def letB (c : UInt8) : Bool := decide (97 ≤ c.toNat ∧ c.toNat ≤ 122)
def decB (c : UInt8) : Bool := decide (48 ≤ c.toNat ∧ c.toNat ≤ 57)
def namB (c : UInt8) : Bool := letB c || decB c || decide (c.toNat = 45)
def nameL (l : List UInt8) : Bool := decide (1 ≤ l.length ∧ l.length ≤ 32) && (letB (l.headD 0) && l.all namB)
end Go.Proofs.Ytljmlbidbacdjab
