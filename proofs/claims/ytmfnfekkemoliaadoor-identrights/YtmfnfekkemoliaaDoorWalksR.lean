/- The walk of IdentRights: for every stamp it returns true, and of what was there it turns nothing. -/
import Derived.Test.YtmfnfekkemoliaaDoorWalksB
import Derived.Test.YtmfnfekkemoliaaDoorWalksC
import Derived.Test.YtmfnfekkemoliaaDoorWalksK
namespace Go.Proofs.YtmfnfekkemoliaaDoor
open Go.RowKit
set_option linter.unusedVariables false

theorem right_bel (c r : Int) (w : World) :
    Calls Tryd.prog 9 #[.agg #[.int .i64 c, .int .i64 r]] w fun e w' => e = .returned (.bool (rightB c r)) ∧ Below w.heap.size w w' :=
  (right_any c r w).mono fun e w' ⟨h, hw⟩ => ⟨h, hw ▸ (Below.refl _ _).alloc (Nat.le_refl _) _⟩
theorem refRight_bel (c r : Int) (w : World) :
    Calls Tryd.prog 10 #[.agg #[.int .i64 c, .int .i64 r]] w fun e w' => e = .returned (.bool (rightB c r)) ∧ Below w.heap.size w w' :=
  (refRight_any c r w).mono fun e w' ⟨h, hw⟩ => ⟨h, hw ▸ (Below.refl _ _).alloc (Nat.le_refl _) _⟩

set_option maxHeartbeats 1000000 in
theorem identRights_walk (c r : Int) (w : World) (_ : (Lit.int .i64 c).wf = true) (_ : (Lit.int .i64 r).wf = true) :
    Calls Tryd.prog 3 #[.agg #[.int .i64 c, .int .i64 r]] w fun e w' => e = .returned (.bool true) ∧ Below w.heap.size w w' := by
  go_enter Tryd.func3, Tryd.ntmps3
  go_wp2
  go_region_held3 (fun w' => w'.cell? ⟨w.heap.size, 0, none⟩ = some (.int .i64 c) ∧ w'.cell? ⟨w.heap.size, 1, none⟩ = some (.int .i64 r) ∧ w.heap.size < w'.heap.size ∧ Below w.heap.size w w')
    (first | exact Kept1.start w c r | exact Kept1.step (by assumption) hb)
    (first
      | (go_at_call 9; refine (right_bel c r _).mono ?_; rintro e w' ⟨rfl, hb⟩)
      | (go_at_call 10; refine (refRight_bel c r _).mono ?_; rintro e w' ⟨rfl, hb⟩)
      | (go_at_call 11; refine (node_any c r _).mono ?_; rintro e w' ⟨rfl, hb⟩)
      | (go_at_call 12; refine (refNode_any c r _).mono ?_; rintro e w' ⟨rfl, hb⟩)
      | (go_at_call 13; refine (awake_any _).mono ?_; rintro e w' ⟨rfl, hb⟩))
  go_wp2
  go_ret
  refine ⟨rfl, ?_⟩

  exact (show Kept1 w c r _ by assumption).2.2.2

end Go.Proofs.YtmfnfekkemoliaaDoor
