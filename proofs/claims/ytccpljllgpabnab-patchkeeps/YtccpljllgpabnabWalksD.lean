/- What Compare and Less do, of any two stamps: no condition. -/
import Derived.Test.YtccpljllgpabnabWalksA
namespace Go.Proofs.Ytccpljllgpabnab
open Go.RowKit
set_option linter.unusedVariables false

def cmpI (a b : Int) : Int := if a < b then -1 else if b < a then 1 else 0
def cmpS (c r c2 r2 : Int) : Int := if c < c2 then -1 else if c2 < c then 1 else if r < r2 then -1 else if r2 < r then 1 else 0
def lessS (c r c2 r2 : Int) : Bool := decide (c < c2 ∨ c = c2 ∧ r < r2)
theorem ret_int {a b : Int} (h : a = b) : Ending.returned (.int .i64 a) = .returned (.int .i64 b) := by rw [h]
theorem cmpI_lt {a b : Int} (h : a < b) : cmpI a b = -1 := by simp [cmpI, h]
theorem cmpI_gt {a b : Int} (h : b < a) : cmpI a b = 1 := by unfold cmpI; rw [if_neg (by omega), if_pos h]
theorem cmpI_eq (a : Int) : cmpI a a = 0 := by simp [cmpI]

set_option maxHeartbeats 400000 in
theorem cmp_any (a b : Int) (w : World) :
    Calls Try.prog 74 #[.int .i64 a, .int .i64 b] w fun e w' => e = .returned (.int .i64 (cmpI a b)) ∧ w' = w := by
  by_cases h0 : a < b
  · go_enter Try.func74, Try.ntmps74
    go_wp2
    go_ret
    exact ⟨ret_int (cmpI_lt h0).symm, rfl⟩
  · by_cases h1 : b < a
    · go_enter Try.func74, Try.ntmps74
      go_wp2
      go_ret
      exact ⟨ret_int (cmpI_gt h1).symm, rfl⟩
    · obtain rfl : a = b := by omega
      go_enter Try.func74, Try.ntmps74
      go_wp2
      go_ret
      exact ⟨ret_int (cmpI_eq a).symm, rfl⟩

set_option maxHeartbeats 400000 in
theorem compare_any (c r c2 r2 : Int) (w : World) :
    Calls Try.prog 58 #[.agg #[.int .i64 c, .int .i64 r], .agg #[.int .i64 c2, .int .i64 r2]] w fun e w' => e = .returned (.int .i64 (cmpS c r c2 r2)) ∧ Below w.heap.size w w' := by
  by_cases h0 : c < c2
  · have e0 : cmpI c c2 = -1 := cmpI_lt h0
    go_enter Try.func58, Try.ntmps58
    go_wp2_with (go_at_call 74; refine (cmp_any _ _ _).mono ?_; rintro e w' ⟨rfl, rfl⟩)
    go_ret
    exact ⟨ret_int (by simp [cmpS, h0]), (by repeat (first | exact Below.refl _ _ | refine Below.alloc ?_ (by first | exact Nat.le_refl _ | omega | (simp; done) | (simp; omega)) _ | refine Below.drew ?_))⟩
  · by_cases h1 : c2 < c
    · have e0 : cmpI c c2 = 1 := cmpI_gt h1
      go_enter Try.func58, Try.ntmps58
      go_wp2_with (go_at_call 74; refine (cmp_any _ _ _).mono ?_; rintro e w' ⟨rfl, rfl⟩)
      go_ret
      exact ⟨ret_int (by unfold cmpS; rw [if_neg (by omega), if_pos h1]), (by repeat (first | exact Below.refl _ _ | refine Below.alloc ?_ (by first | exact Nat.le_refl _ | omega | (simp; done) | (simp; omega)) _ | refine Below.drew ?_))⟩
    · obtain rfl : c = c2 := by omega
      have e0 : cmpI c c = 0 := cmpI_eq c
      go_enter Try.func58, Try.ntmps58
      go_wp2_with (go_at_call 74; refine (cmp_any _ _ _).mono ?_; rintro e w' ⟨rfl, rfl⟩)
      go_ret
      exact ⟨ret_int (by simp [cmpS, cmpI]), (by repeat (first | exact Below.refl _ _ | refine Below.alloc ?_ (by first | exact Nat.le_refl _ | omega | (simp; done) | (simp; omega)) _ | refine Below.drew ?_))⟩

theorem lessS_cmp (c r c2 r2 : Int) : decide (cmpS c r c2 r2 < 0) = lessS c r c2 r2 := by
  unfold cmpS lessS
  rw [Bool.eq_iff_iff]
  simp only [decide_eq_true_eq]
  split <;> (try split) <;> (try split) <;> (try split) <;> omega

end Go.Proofs.Ytccpljllgpabnab
