/- What Node, Next and Text do: of every stamp Node and the document's Node; the calls that 'awake' makes. -/
import Derived.Test.YthhnglpkfcmjiaaKWalksA
namespace Go.Proofs.Ythhnglpkfcmjiaa
open Go.RowKit
set_option linter.unusedVariables false
set_option maxHeartbeats 400000 in
/-- The document's Right. -/
theorem refRight_any (c r : Int) (w : World) :
    Calls Try.prog 43 #[.agg #[.int .i64 c, .int .i64 r]] w fun e w' => e = .returned (.bool (rightB c r)) ∧ w' = w.alloc (.cells #[.int .i64 c, .int .i64 r] 23) := by
  by_cases h0 : 1 ≤ c
  · by_cases h1 : c ≤ 1099511627776
    · by_cases h2 : 0 ≤ r
      · by_cases h3 : r < 64
        all_goals
          go_enter Try.func43, Try.ntmps43
          go_wp2
          go_ret
          exact ⟨ret_bool (by unfold rightB; rw [Bool.eq_iff_iff]; simp; omega), rfl⟩
      · go_enter Try.func43, Try.ntmps43
        go_wp2
        go_ret
        exact ⟨ret_bool (by unfold rightB; rw [Bool.eq_iff_iff]; simp; omega), rfl⟩
    · go_enter Try.func43, Try.ntmps43
      go_wp2
      go_ret
      exact ⟨ret_bool (by unfold rightB; rw [Bool.eq_iff_iff]; simp; omega), rfl⟩
  · go_enter Try.func43, Try.ntmps43
    go_wp2
    go_ret
    exact ⟨ret_bool (by unfold rightB; rw [Bool.eq_iff_iff]; simp; omega), rfl⟩
set_option maxHeartbeats 400000 in
theorem node_any (c r : Int) (w : World) :
    Calls Try.prog 89 #[.agg #[.int .i64 c, .int .i64 r]] w fun e w' => e = .returned (.bool (nodeB c r)) ∧ Below w.heap.size w w' := by
  cases h0 : rootB c r
  · cases h1 : trashB c r
    · go_enter Try.func89, Try.ntmps89
      go_wp2_with (first
      | (go_at_call 95; refine (isRoot_any _ _ _).mono ?_; rintro e w' ⟨rfl, rfl⟩)
      | (go_at_call 96; refine (isTrash_any _ _ _).mono ?_; rintro e w' ⟨rfl, rfl⟩)
      | (go_at_call 90; refine (right_any _ _ _).mono ?_; rintro e w' ⟨rfl, rfl⟩))
      go_ret
      refine ⟨ret_bool ?_, (by repeat (first | exact Below.refl _ _ | refine Below.alloc ?_ (by first | exact Nat.le_refl _ | omega | (simp; done) | (simp; omega)) _ | refine Below.drew ?_))⟩
      unfold rootB at h0; unfold trashB at h1
      unfold nodeB rightB; rw [Bool.eq_iff_iff]; simp at h0 h1 ⊢; omega
    · go_enter Try.func89, Try.ntmps89
      go_wp2_with (first
      | (go_at_call 95; refine (isRoot_any _ _ _).mono ?_; rintro e w' ⟨rfl, rfl⟩)
      | (go_at_call 96; refine (isTrash_any _ _ _).mono ?_; rintro e w' ⟨rfl, rfl⟩)
      | (go_at_call 90; refine (right_any _ _ _).mono ?_; rintro e w' ⟨rfl, rfl⟩))
      go_ret
      refine ⟨ret_bool ?_, (by repeat (first | exact Below.refl _ _ | refine Below.alloc ?_ (by first | exact Nat.le_refl _ | omega | (simp; done) | (simp; omega)) _ | refine Below.drew ?_))⟩
      unfold trashB at h1
      unfold nodeB; rw [Bool.eq_iff_iff]; simp at h1 ⊢; omega
  · go_enter Try.func89, Try.ntmps89
    go_wp2_with (first
      | (go_at_call 95; refine (isRoot_any _ _ _).mono ?_; rintro e w' ⟨rfl, rfl⟩)
      | (go_at_call 96; refine (isTrash_any _ _ _).mono ?_; rintro e w' ⟨rfl, rfl⟩)
      | (go_at_call 90; refine (right_any _ _ _).mono ?_; rintro e w' ⟨rfl, rfl⟩))
    go_ret
    refine ⟨ret_bool ?_, (by repeat (first | exact Below.refl _ _ | refine Below.alloc ?_ (by first | exact Nat.le_refl _ | omega | (simp; done) | (simp; omega)) _ | refine Below.drew ?_))⟩
    unfold rootB at h0
    unfold nodeB; rw [Bool.eq_iff_iff]; simp at h0 ⊢; omega
set_option maxHeartbeats 400000 in
theorem refNode_any (c r : Int) (w : World) :
    Calls Try.prog 42 #[.agg #[.int .i64 c, .int .i64 r]] w fun e w' => e = .returned (.bool (nodeB c r)) ∧ Below w.heap.size w w' := by
  cases h0 : rightB c r
  · by_cases h1 : c = 0
    · subst h1
      by_cases h2 : r = 0
      · subst h2
        go_enter Try.func42, Try.ntmps42
        go_wp2_with (go_at_call 43; refine (refRight_any _ _ _).mono ?_; rintro e w' ⟨rfl, rfl⟩)
        go_ret
        refine ⟨ret_bool ?_, (by repeat (first | exact Below.refl _ _ | refine Below.alloc ?_ (by first | exact Nat.le_refl _ | omega | (simp; done) | (simp; omega)) _ | refine Below.drew ?_))⟩
        simp [nodeB]
      · have h3 : (r == 0) = false := by simp; omega
        by_cases h4 : r = 1
        · subst h4
          go_enter Try.func42, Try.ntmps42
          go_wp2_with (go_at_call 43; refine (refRight_any _ _ _).mono ?_; rintro e w' ⟨rfl, rfl⟩)
          go_ret
          refine ⟨ret_bool ?_, (by repeat (first | exact Below.refl _ _ | refine Below.alloc ?_ (by first | exact Nat.le_refl _ | omega | (simp; done) | (simp; omega)) _ | refine Below.drew ?_))⟩
          simp [nodeB]
        · have h5 : (r == 1) = false := by simp; omega
          go_enter Try.func42, Try.ntmps42
          go_wp2_with (go_at_call 43; refine (refRight_any _ _ _).mono ?_; rintro e w' ⟨rfl, rfl⟩)
          go_ret
          refine ⟨ret_bool ?_, (by repeat (first | exact Below.refl _ _ | refine Below.alloc ?_ (by first | exact Nat.le_refl _ | omega | (simp; done) | (simp; omega)) _ | refine Below.drew ?_))⟩
          simp [nodeB, h2, h4]
    · have h3 : (c == 0) = false := by simp; omega
      go_enter Try.func42, Try.ntmps42
      go_wp2_with (go_at_call 43; refine (refRight_any _ _ _).mono ?_; rintro e w' ⟨rfl, rfl⟩)
      go_ret
      refine ⟨ret_bool ?_, (by repeat (first | exact Below.refl _ _ | refine Below.alloc ?_ (by first | exact Nat.le_refl _ | omega | (simp; done) | (simp; omega)) _ | refine Below.drew ?_))⟩
      unfold rightB at h0; unfold nodeB; rw [Bool.eq_iff_iff]; simp at h0 ⊢; omega
  · go_enter Try.func42, Try.ntmps42
    go_wp2_with (go_at_call 43; refine (refRight_any _ _ _).mono ?_; rintro e w' ⟨rfl, rfl⟩)
    go_ret
    refine ⟨ret_bool ?_, (by repeat (first | exact Below.refl _ _ | refine Below.alloc ?_ (by first | exact Nat.le_refl _ | omega | (simp; done) | (simp; omega)) _ | refine Below.drew ?_))⟩
    unfold rightB at h0; unfold nodeB; rw [Bool.eq_iff_iff]; simp at h0 ⊢; omega
end Go.Proofs.Ythhnglpkfcmjiaa
