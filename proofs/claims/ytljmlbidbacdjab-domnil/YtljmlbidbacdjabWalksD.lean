/- What Compare and Less do, of any two stamps: no condition. -/
import Derived.Test.YtljmlbidbacdjabWalksA
namespace Go.Proofs.Ytljmlbidbacdjab
open Go.RowKit
set_option linter.unusedVariables false

def cmpI (a b : Int) : Int := if a < b then -1 else if b < a then 1 else 0
def cmpS (c r c2 r2 : Int) : Int := if c < c2 then -1 else if c2 < c then 1 else if r < r2 then -1 else if r2 < r then 1 else 0
def lessS (c r c2 r2 : Int) : Bool := decide (c < c2 ∨ c = c2 ∧ r < r2)
theorem ret_int {a b : Int} (h : a = b) : Ending.returned (.int .i64 a) = .returned (.int .i64 b) := by rw [h]
theorem cmpI_lt {a b : Int} (h : a < b) : cmpI a b = -1 := by simp [cmpI, h]
theorem cmpI_gt {a b : Int} (h : b < a) : cmpI a b = 1 := by unfold cmpI; rw [if_neg (by omega), if_pos h]
theorem cmpI_eq (a : Int) : cmpI a a = 0 := by simp [cmpI]

theorem lessS_cmp (c r c2 r2 : Int) : decide (cmpS c r c2 r2 < 0) = lessS c r c2 r2 := by
  unfold cmpS lessS
  rw [Bool.eq_iff_iff]
  simp only [decide_eq_true_eq]
  split <;> (try split) <;> (try split) <;> (try split) <;> omega

end Go.Proofs.Ytljmlbidbacdjab
