/- The walk of IdentOrder, all cases joined: for every three stamps it returns true. -/
import Derived.Test.YtmfnfekkemoliabDoorWalksOr
namespace Go.Proofs.YtmfnfekkemoliabDoor
open Go.RowKit
set_option linter.unusedVariables false

theorem lessS_iff (c r c2 r2 : Int) : lessS c r c2 r2 = true ↔ (c < c2 ∨ c = c2 ∧ r < r2) := by simp [lessS]
theorem lessS_not (c r c2 r2 : Int) : lessS c r c2 r2 = false ↔ ¬ (c < c2 ∨ c = c2 ∧ r < r2) := by simp [lessS]
theorem cmpS_neg (c r c2 r2 : Int) (h : c < c2 ∨ c = c2 ∧ r < r2) : cmpS c r c2 r2 = -1 := by
  unfold cmpS
  repeat' split
  all_goals omega
theorem cmpS_pos (c r c2 r2 : Int) (h : c2 < c ∨ c = c2 ∧ r2 < r) : cmpS c r c2 r2 = 1 := by
  unfold cmpS
  repeat' split
  all_goals omega
theorem lessS_through (c r c2 r2 c3 r3 : Int) (h : c < c2 ∨ c = c2 ∧ r < r2) : lessS c2 r2 c3 r3 = true → lessS c r c3 r3 = true := by
  rw [lessS_iff, lessS_iff]
  omega

theorem identOrder_walk (c r c2 r2 c3 r3 : Int) (w : World) (_ : (Lit.int .i64 c).wf = true) (_ : (Lit.int .i64 r).wf = true) (_ : (Lit.int .i64 c2).wf = true) (_ : (Lit.int .i64 r2).wf = true) (_ : (Lit.int .i64 c3).wf = true) (_ : (Lit.int .i64 r3).wf = true) :
    Calls Tryd.prog 3 #[.agg #[.int .i64 c, .int .i64 r], .agg #[.int .i64 c2, .int .i64 r2], .agg #[.int .i64 c3, .int .i64 r3]] w fun e w' => e = .returned (.bool true) ∧ Below w.heap.size w w' := by
  by_cases h : c = c2
  · subst h
    by_cases h1 : r = r2
    · subst h1
      exact order_same c r c3 r3 w
    · by_cases h2 : r < r2
      · exact order_lt_r c r r2 c3 r3 w (by simpa using h1) ((lessS_iff ..).2 (by omega)) ((lessS_not ..).2 (by omega)) (cmpS_neg _ _ _ _ (by omega)) (cmpS_pos _ _ _ _ (by omega)) (lessS_through _ _ _ _ _ _ (by omega))
      · exact order_gt_r c r r2 c3 r3 w (by simpa using h1) ((lessS_not ..).2 (by omega)) ((lessS_iff ..).2 (by omega)) (cmpS_pos _ _ _ _ (by omega)) (cmpS_neg _ _ _ _ (by omega))
  · by_cases h2 : c < c2
    · exact order_lt_c c r c2 r2 c3 r3 w (by simpa using h) ((lessS_iff ..).2 (by omega)) ((lessS_not ..).2 (by omega)) (cmpS_neg _ _ _ _ (by omega)) (cmpS_pos _ _ _ _ (by omega)) (lessS_through _ _ _ _ _ _ (by omega))
    · exact order_gt_c c r c2 r2 c3 r3 w (by simpa using h) ((lessS_not ..).2 (by omega)) ((lessS_iff ..).2 (by omega)) (cmpS_pos _ _ _ _ (by omega)) (cmpS_neg _ _ _ _ (by omega))

end Go.Proofs.YtmfnfekkemoliabDoor
