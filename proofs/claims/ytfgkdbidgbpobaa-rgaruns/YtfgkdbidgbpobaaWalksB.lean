/- What Node, Next and Text do: of every stamp Node and the document's Node; the calls that 'awake' makes. -/
import Derived.Test.YtfgkdbidgbpobaaWalksA
namespace Go.Proofs.Ytfgkdbidgbpobaa
open Go.RowKit
set_option linter.unusedVariables false

set_option maxHeartbeats 400000 in
/-- The document's Right. -/
theorem refRight_any (c r : Int) (w : World) :
    Calls Try.prog 42 #[.agg #[.int .i64 c, .int .i64 r]] w fun e w' => e = .returned (.bool (rightB c r)) ∧ w' = w.alloc (.cells #[.int .i64 c, .int .i64 r] 33) := by
  by_cases h0 : 1 ≤ c
  · by_cases h1 : c ≤ 1099511627776
    · by_cases h2 : 0 ≤ r
      · by_cases h3 : r < 64
        all_goals
          go_enter Try.func42, Try.ntmps42
          go_wp2
          go_ret
          exact ⟨ret_bool (by unfold rightB; rw [Bool.eq_iff_iff]; simp; omega), rfl⟩
      · go_enter Try.func42, Try.ntmps42
        go_wp2
        go_ret
        exact ⟨ret_bool (by unfold rightB; rw [Bool.eq_iff_iff]; simp; omega), rfl⟩
    · go_enter Try.func42, Try.ntmps42
      go_wp2
      go_ret
      exact ⟨ret_bool (by unfold rightB; rw [Bool.eq_iff_iff]; simp; omega), rfl⟩
  · go_enter Try.func42, Try.ntmps42
    go_wp2
    go_ret
    exact ⟨ret_bool (by unfold rightB; rw [Bool.eq_iff_iff]; simp; omega), rfl⟩

end Go.Proofs.Ytfgkdbidgbpobaa
