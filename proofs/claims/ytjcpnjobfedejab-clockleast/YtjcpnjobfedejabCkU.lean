/- What the document's Trim does, at any list. -/
import Derived.Test.YtjcpnjobfedejabCkT
namespace Go.Proofs.Ytjcpnjobfedejab
open Go.RowKit
set_option linter.unusedVariables false

theorem zeros_more {D l : List Int} {z : Nat} (h : D ++ List.replicate z 0 = l) : D ++ List.replicate (z + 1) 0 = l ++ [0] := by
  rw [List.replicate_succ', ← List.append_assoc, h]
theorem zeros_less {D l : List Int} {z : Nat} (h : D ++ List.replicate (z + 1) 0 = l) : (D ++ [0]) ++ List.replicate z 0 = l := by
  rw [← h, List.replicate_succ]; simp
theorem zeros_len {D l : List Int} {z : Nat} (h : D ++ List.replicate z 0 = l) : D.length + z = l.length := by rw [← h]; simp

end Go.Proofs.Ytjcpnjobfedejab
