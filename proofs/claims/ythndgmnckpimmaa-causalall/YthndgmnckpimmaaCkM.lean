/- What the errors of two clocks are, and what Merge does, the program's and the document's. -/
import Derived.Test.YthndgmnckpimmaaCkU
namespace Go.Proofs.Ythndgmnckpimmaa
open Go.RowKit
set_option linter.unusedVariables false

theorem twoL_first {a b : List Int} (h : checkL a ≠ 0) : twoL a b = checkL a := by unfold twoL; rw [if_neg h]
theorem twoL_second {a b : List Int} (h : checkL a = 0) : twoL a b = checkL b := by unfold twoL; rw [if_pos h]

theorem ownI_mono {w : World} {B B' : Nat} {v : Value} {D : List Int} (h : OwnI B w v D) (hB : B' ≤ B) : OwnI B' w v D := by
  refine ⟨h.1, ?_⟩
  rcases h.2 with hn | ⟨g, cap, cur, hv, hg, rest⟩
  · exact .inl hn
  · exact .inr ⟨g, cap, cur, hv, by omega, rest⟩

def mergeR (a b : List Int) : List Int := if twoL a b = 0 then mergeL a b else []
theorem mergeR_ok {a b : List Int} (h : twoL a b = 0) : mergeR a b = mergeL a b := by unfold mergeR; rw [if_pos h]
theorem mergeR_no {a b : List Int} (h : twoL a b ≠ 0) : mergeR a b = [] := by unfold mergeR; rw [if_neg h]

end Go.Proofs.Ythndgmnckpimmaa
