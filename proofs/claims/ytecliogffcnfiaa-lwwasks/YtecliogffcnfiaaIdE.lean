/- What the document's Less does, of any two stamps. -/
import Derived.Test.YtecliogffcnfiaaWalksD
namespace Go.Proofs.Ytecliogffcnfiaa
open Go.RowKit
set_option linter.unusedVariables false

set_option maxHeartbeats 400000 in
theorem refLess_any (c r c2 r2 : Int) (w : World) :
    Calls Try.prog 31 #[.agg #[.int .i64 c, .int .i64 r], .agg #[.int .i64 c2, .int .i64 r2]] w fun e w' => e = .returned (.bool (lessS c r c2 r2)) ∧ w' = (w.alloc (.cells #[.int .i64 c, .int .i64 r] 24)).alloc (.cells #[.int .i64 c2, .int .i64 r2] 24) := by
  by_cases h0 : c < c2
  · go_enter Try.func31, Try.ntmps31
    go_wp2
    go_ret
    exact ⟨ret_bool (by simp [lessS, h0]), rfl⟩
  · by_cases h1 : c = c2
    · subst h1
      by_cases h2 : r < r2
      · go_enter Try.func31, Try.ntmps31
        go_wp2
        go_ret
        exact ⟨ret_bool (by simp [lessS, h2]), rfl⟩
      · go_enter Try.func31, Try.ntmps31
        go_wp2
        go_ret
        exact ⟨ret_bool (by simp [lessS]; omega), rfl⟩
    · have h3 : (c == c2) = false := by simp; omega
      go_enter Try.func31, Try.ntmps31
      go_wp2
      go_ret
      exact ⟨ret_bool (by simp [lessS]; omega), rfl⟩

theorem refLess_bel (c r c2 r2 : Int) (w : World) :
    Calls Try.prog 31 #[.agg #[.int .i64 c, .int .i64 r], .agg #[.int .i64 c2, .int .i64 r2]] w fun e w' => e = .returned (.bool (lessS c r c2 r2)) ∧ Below w.heap.size w w' :=
  (refLess_any c r c2 r2 w).mono fun e w' ⟨h, hw⟩ => ⟨h, hw ▸ ((Below.refl _ _).alloc (Nat.le_refl _) _).alloc (by simp) _⟩

end Go.Proofs.Ytecliogffcnfiaa
