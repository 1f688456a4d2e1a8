/- What Node, Next and Text do: of every stamp Node and the document's Node; the calls that 'awake' makes. -/
import Derived.Test.YtljmlbidbacdjabWalksA
namespace Go.Proofs.Ytljmlbidbacdjab
open Go.RowKit
set_option linter.unusedVariables false

set_option maxHeartbeats 400000 in
theorem node_any (c r : Int) (w : World) :
    Calls Try.prog 80 #[.agg #[.int .i64 c, .int .i64 r]] w fun e w' => e = .returned (.bool (nodeB c r)) ∧ Below w.heap.size w w' := by
  cases h0 : rootB c r
  · cases h1 : trashB c r
    · go_enter Try.func80, Try.ntmps80
      go_wp2_with (first
      | (go_at_call 95; refine (isRoot_any _ _ _).mono ?_; rintro e w' ⟨rfl, rfl⟩)
      | (go_at_call 96; refine (isTrash_any _ _ _).mono ?_; rintro e w' ⟨rfl, rfl⟩)
      | (go_at_call 81; refine (right_any _ _ _).mono ?_; rintro e w' ⟨rfl, rfl⟩))
      go_ret
      refine ⟨ret_bool ?_, (by repeat (first | exact Below.refl _ _ | refine Below.alloc ?_ (by first | exact Nat.le_refl _ | omega | (simp; done) | (simp; omega)) _ | refine Below.drew ?_))⟩
      unfold rootB at h0; unfold trashB at h1
      unfold nodeB rightB; rw [Bool.eq_iff_iff]; simp at h0 h1 ⊢; omega
    · go_enter Try.func80, Try.ntmps80
      go_wp2_with (first
      | (go_at_call 95; refine (isRoot_any _ _ _).mono ?_; rintro e w' ⟨rfl, rfl⟩)
      | (go_at_call 96; refine (isTrash_any _ _ _).mono ?_; rintro e w' ⟨rfl, rfl⟩)
      | (go_at_call 81; refine (right_any _ _ _).mono ?_; rintro e w' ⟨rfl, rfl⟩))
      go_ret
      refine ⟨ret_bool ?_, (by repeat (first | exact Below.refl _ _ | refine Below.alloc ?_ (by first | exact Nat.le_refl _ | omega | (simp; done) | (simp; omega)) _ | refine Below.drew ?_))⟩
      unfold trashB at h1
      unfold nodeB; rw [Bool.eq_iff_iff]; simp at h1 ⊢; omega
  · go_enter Try.func80, Try.ntmps80
    go_wp2_with (first
      | (go_at_call 95; refine (isRoot_any _ _ _).mono ?_; rintro e w' ⟨rfl, rfl⟩)
      | (go_at_call 96; refine (isTrash_any _ _ _).mono ?_; rintro e w' ⟨rfl, rfl⟩)
      | (go_at_call 81; refine (right_any _ _ _).mono ?_; rintro e w' ⟨rfl, rfl⟩))
    go_ret
    refine ⟨ret_bool ?_, (by repeat (first | exact Below.refl _ _ | refine Below.alloc ?_ (by first | exact Nat.le_refl _ | omega | (simp; done) | (simp; omega)) _ | refine Below.drew ?_))⟩
    unfold rootB at h0
    unfold nodeB; rw [Bool.eq_iff_iff]; simp at h0 ⊢; omega

end Go.Proofs.Ytljmlbidbacdjab
