/- What the small functions of package ident and of the document's answer do, for every stamp: contracts of Right, Node, isRoot, isTrash, isReplica, isSeen, Next, with no condition. -/
import Derived.Test.YtjcpnjobfedejabDoorRows
import Derived.WalkKit
import Derived.WalkSpells
import Derived.Deep.RegionHeld3
import Derived.RowKit3
namespace Go.Proofs.YtjcpnjobfedejabDoor
open Go.RowKit
set_option linter.unusedVariables false

def replB (r : Int) : Bool := decide (0 ≤ r ∧ r < 64)
def seenB (n : Int) : Bool := decide (0 ≤ n ∧ n ≤ 1099511627776)
def rightB (c r : Int) : Bool := decide (1 ≤ c ∧ c ≤ 1099511627776 ∧ 0 ≤ r ∧ r < 64)
def rootB (c r : Int) : Bool := decide (c = 0 ∧ r = 0)
def trashB (c r : Int) : Bool := decide (c = 0 ∧ r = 1)
def nodeB (c r : Int) : Bool := decide ((1 ≤ c ∧ c ≤ 1099511627776 ∧ 0 ≤ r ∧ r < 64) ∨ (c = 0 ∧ (r = 0 ∨ r = 1)))

theorem ret_bool {a b : Bool} (h : a = b) : Ending.returned (.bool a) = .returned (.bool b) := by rw [h]

end Go.Proofs.YtjcpnjobfedejabDoor
