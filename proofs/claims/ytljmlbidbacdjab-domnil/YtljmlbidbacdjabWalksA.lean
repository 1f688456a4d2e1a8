/- What the small functions of package ident and of the document's answer do, for every stamp: contracts of Right, Node, isRoot, isTrash, isReplica, isSeen, Next, with no condition. -/
import Derived.Test.YtljmlbidbacdjabRows
import Derived.WalkKit
import Derived.WalkSpells
import Derived.Deep.RegionHeld3
import Derived.RowKit3
namespace Go.Proofs.Ytljmlbidbacdjab
open Go.RowKit
set_option linter.unusedVariables false

def replB (r : Int) : Bool := decide (0 ≤ r ∧ r < 64)
def seenB (n : Int) : Bool := decide (0 ≤ n ∧ n ≤ 1099511627776)
def rightB (c r : Int) : Bool := decide (1 ≤ c ∧ c ≤ 1099511627776 ∧ 0 ≤ r ∧ r < 64)
def rootB (c r : Int) : Bool := decide (c = 0 ∧ r = 0)
def trashB (c r : Int) : Bool := decide (c = 0 ∧ r = 1)
def nodeB (c r : Int) : Bool := decide ((1 ≤ c ∧ c ≤ 1099511627776 ∧ 0 ≤ r ∧ r < 64) ∨ (c = 0 ∧ (r = 0 ∨ r = 1)))

theorem ret_bool {a b : Bool} (h : a = b) : Ending.returned (.bool a) = .returned (.bool b) := by rw [h]

set_option maxHeartbeats 400000 in
theorem isReplica_any (r : Int) (w : World) :
    Calls Try.prog 97 #[.int .i64 r] w fun e w' => e = .returned (.bool (replB r)) ∧ w' = w := by
  by_cases h0 : 0 ≤ r
  · by_cases h1 : r < 64
    all_goals
      go_enter Try.func97, Try.ntmps97
      go_wp2
      go_ret
      exact ⟨ret_bool (by unfold replB; rw [Bool.eq_iff_iff]; simp; omega), rfl⟩
  · go_enter Try.func97, Try.ntmps97
    go_wp2
    go_ret
    exact ⟨ret_bool (by unfold replB; rw [Bool.eq_iff_iff]; simp; omega), rfl⟩

set_option maxHeartbeats 400000 in
/-- ident.Right. -/
theorem right_any (c r : Int) (w : World) :
    Calls Try.prog 81 #[.agg #[.int .i64 c, .int .i64 r]] w fun e w' => e = .returned (.bool (rightB c r)) ∧ w' = w.alloc (.cells #[.int .i64 c, .int .i64 r] 24) := by
  by_cases h0 : 1 ≤ c
  · by_cases h1 : c ≤ 1099511627776
    · go_enter Try.func81, Try.ntmps81
      go_wp2_with (go_at_call 97; refine (isReplica_any _ _).mono ?_; rintro e w' ⟨rfl, rfl⟩)
      go_ret
      exact ⟨ret_bool (by unfold rightB replB; rw [Bool.eq_iff_iff]; simp; omega), rfl⟩
    · go_enter Try.func81, Try.ntmps81
      go_wp2
      go_ret
      exact ⟨ret_bool (by unfold rightB; rw [Bool.eq_iff_iff]; simp; omega), rfl⟩
  · go_enter Try.func81, Try.ntmps81
    go_wp2
    go_ret
    exact ⟨ret_bool (by unfold rightB; rw [Bool.eq_iff_iff]; simp; omega), rfl⟩

set_option maxHeartbeats 400000 in
theorem isRoot_any (c r : Int) (w : World) :
    Calls Try.prog 95 #[.agg #[.int .i64 c, .int .i64 r]] w fun e w' => e = .returned (.bool (rootB c r)) ∧ w' = w.alloc (.cells #[.int .i64 c, .int .i64 r] 24) := by
  by_cases h0 : c = 0
  · subst h0
    by_cases h1 : r = 0
    · subst h1
      go_enter Try.func95, Try.ntmps95
      go_wp2
      go_ret
      exact ⟨ret_bool (by simp [rootB]), rfl⟩
    · have h2 : (r == 0) = false := by simp; omega
      go_enter Try.func95, Try.ntmps95
      go_wp2
      go_ret
      exact ⟨ret_bool (by simp [rootB, h1]), rfl⟩
  · have h2 : (c == 0) = false := by simp; omega
    go_enter Try.func95, Try.ntmps95
    go_wp2
    go_ret
    exact ⟨ret_bool (by simp [rootB, h0]), rfl⟩

set_option maxHeartbeats 400000 in
theorem isTrash_any (c r : Int) (w : World) :
    Calls Try.prog 96 #[.agg #[.int .i64 c, .int .i64 r]] w fun e w' => e = .returned (.bool (trashB c r)) ∧ w' = w.alloc (.cells #[.int .i64 c, .int .i64 r] 24) := by
  by_cases h0 : c = 0
  · subst h0
    by_cases h1 : r = 1
    · subst h1
      go_enter Try.func96, Try.ntmps96
      go_wp2
      go_ret
      exact ⟨ret_bool (by simp [trashB]), rfl⟩
    · have h2 : (r == 1) = false := by simp; omega
      go_enter Try.func96, Try.ntmps96
      go_wp2
      go_ret
      exact ⟨ret_bool (by simp [trashB, h1]), rfl⟩
  · have h2 : (c == 0) = false := by simp; omega
    go_enter Try.func96, Try.ntmps96
    go_wp2
    go_ret
    exact ⟨ret_bool (by simp [trashB, h0]), rfl⟩

end Go.Proofs.Ytljmlbidbacdjab
