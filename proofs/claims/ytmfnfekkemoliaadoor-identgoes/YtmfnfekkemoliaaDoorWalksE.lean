/- What the document's Less and Compare do, of any two stamps; the walk of IdentCompares. -/
import Derived.Test.YtmfnfekkemoliaaDoorWalksC
import Derived.Test.YtmfnfekkemoliaaDoorWalksD
import Derived.Test.YtmfnfekkemoliaaDoorWalksK
namespace Go.Proofs.YtmfnfekkemoliaaDoor
open Go.RowKit
set_option linter.unusedVariables false

set_option maxHeartbeats 400000 in
theorem refLess_any (c r c2 r2 : Int) (w : World) :
    Calls Tryd.prog 17 #[.agg #[.int .i64 c, .int .i64 r], .agg #[.int .i64 c2, .int .i64 r2]] w fun e w' => e = .returned (.bool (lessS c r c2 r2)) ∧ w' = (w.alloc (.cells #[.int .i64 c, .int .i64 r] 23)).alloc (.cells #[.int .i64 c2, .int .i64 r2] 23) := by
  by_cases h0 : c < c2
  · go_enter Tryd.func17, Tryd.ntmps17
    go_wp2
    go_ret
    exact ⟨ret_bool (by simp [lessS, h0]), rfl⟩
  · by_cases h1 : c = c2
    · subst h1
      by_cases h2 : r < r2
      · go_enter Tryd.func17, Tryd.ntmps17
        go_wp2
        go_ret
        exact ⟨ret_bool (by simp [lessS, h2]), rfl⟩
      · go_enter Tryd.func17, Tryd.ntmps17
        go_wp2
        go_ret
        exact ⟨ret_bool (by simp [lessS]; omega), rfl⟩
    · have h3 : (c == c2) = false := by simp; omega
      go_enter Tryd.func17, Tryd.ntmps17
      go_wp2
      go_ret
      exact ⟨ret_bool (by simp [lessS]; omega), rfl⟩

set_option maxHeartbeats 400000 in
theorem refCompare_any (c r c2 r2 : Int) (w : World) :
    Calls Tryd.prog 15 #[.agg #[.int .i64 c, .int .i64 r], .agg #[.int .i64 c2, .int .i64 r2]] w fun e w' => e = .returned (.int .i64 (cmpS c r c2 r2)) ∧ Below w.heap.size w w' := by
  have arm : cmpS c r c2 r2 = if lessS c r c2 r2 = true then -1 else if lessS c2 r2 c r = true then 1 else 0 := by
    unfold cmpS lessS
    simp only [decide_eq_true_eq]
    repeat' split
    all_goals omega
  have H := arm
  clear arm
  revert H
  cases e0 : lessS c r c2 r2
  · cases e1 : lessS c2 r2 c r
    all_goals
      intro H
      have H2 : Hid (cmpS c r c2 r2 = _) := H
      clear H
      go_enter Tryd.func15, Tryd.ntmps15
      go_wp2_with (go_at_call 17; refine (refLess_any _ _ _ _ _).mono ?_; rintro e w' ⟨rfl, rfl⟩)
      go_ret
      exact ⟨ret_int (by rw [H2.out]; simp), (by repeat (first | exact Below.refl _ _ | refine Below.alloc ?_ (by first | exact Nat.le_refl _ | omega | (simp; done) | (simp; omega)) _ | refine Below.drew ?_))⟩
  · intro H
    have H2 : Hid (cmpS c r c2 r2 = _) := H
    clear H
    go_enter Tryd.func15, Tryd.ntmps15
    go_wp2_with (go_at_call 17; refine (refLess_any _ _ _ _ _).mono ?_; rintro e w' ⟨rfl, rfl⟩)
    go_ret
    exact ⟨ret_int (by rw [H2.out]; simp), (by repeat (first | exact Below.refl _ _ | refine Below.alloc ?_ (by first | exact Nat.le_refl _ | omega | (simp; done) | (simp; omega)) _ | refine Below.drew ?_))⟩

theorem refLess_bel (c r c2 r2 : Int) (w : World) :
    Calls Tryd.prog 17 #[.agg #[.int .i64 c, .int .i64 r], .agg #[.int .i64 c2, .int .i64 r2]] w fun e w' => e = .returned (.bool (lessS c r c2 r2)) ∧ Below w.heap.size w w' :=
  (refLess_any c r c2 r2 w).mono fun e w' ⟨h, hw⟩ => ⟨h, hw ▸ ((Below.refl _ _).alloc (Nat.le_refl _) _).alloc (by simp) _⟩

set_option maxHeartbeats 1000000 in
theorem identCompares_walk (c r c2 r2 : Int) (w : World) (_ : (Lit.int .i64 c).wf = true) (_ : (Lit.int .i64 r).wf = true) (_ : (Lit.int .i64 c2).wf = true) (_ : (Lit.int .i64 r2).wf = true) :
    Calls Tryd.prog 4 #[.agg #[.int .i64 c, .int .i64 r], .agg #[.int .i64 c2, .int .i64 r2]] w fun e w' => e = .returned (.bool true) ∧ Below w.heap.size w w' := by
  go_enter Tryd.func4, Tryd.ntmps4
  go_wp2
  go_region_held3 (fun w' => (w'.cell? ⟨w.heap.size, 0, none⟩ = some (.int .i64 c) ∧ w'.cell? ⟨w.heap.size, 1, none⟩ = some (.int .i64 r) ∧ w'.cell? ⟨w.heap.size + 1, 0, none⟩ = some (.int .i64 c2) ∧ w'.cell? ⟨w.heap.size + 1, 1, none⟩ = some (.int .i64 r2)) ∧ w.heap.size + 1 < w'.heap.size ∧ Below w.heap.size w w')
    (first | exact Kept2.start w c r c2 r2 | exact Kept2.step (by assumption) hb)
    (first
      | (go_at_call 14; refine (compare_any c r c2 r2 _).mono ?_; rintro e w' ⟨rfl, hb⟩)
      | (go_at_call 15; refine (refCompare_any c r c2 r2 _).mono ?_; rintro e w' ⟨rfl, hb⟩)
      | (go_at_call 16; refine (less_any c r c2 r2 _).mono ?_; rintro e w' ⟨rfl, hb⟩)
      | (go_at_call 17; refine (refLess_bel c r c2 r2 _).mono ?_; rintro e w' ⟨rfl, hb⟩)
      | (go_at_call 13; refine (awake_any _).mono ?_; rintro e w' ⟨rfl, hb⟩))
  go_wp2
  go_ret
  refine ⟨rfl, ?_⟩
  exact (show Kept2 w c r c2 r2 _ by assumption).2.2

end Go.Proofs.YtmfnfekkemoliaaDoor
