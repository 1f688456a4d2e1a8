/- What 'awake' does, and the walks of ClockChecks and ClockMerges. -/
import Derived.Test.YthndgmnckpimmaaCkM
namespace Go.Proofs.Ythndgmnckpimmaa
open Go.RowKit
set_option linter.unusedVariables false

/-- A row just built. -/
theorem isI_new (w : World) (x : List Int) (hl : x.length ≤ 64) : IsI (w.alloc (.cells (x.map (Value.int .i64)).toArray 3)) (.slice (some ⟨w.heap.size, 0, none⟩) x.length x.length) x :=
  ⟨_, x.length, rfl, Nat.le_refl _, by omega, .inr ⟨w.heap.size, 0, rfl, fun i hi => by simp [go_sem, hi]⟩⟩

theorem mergeR_len (d1 d2 : List Int) : (mergeR d1 d2).length ≤ 64 := by
  by_cases h : twoL d1 d2 = 0
  · rw [mergeR_ok h]
    have h1 := ((twoL_ok d1 d2).1 h).1.1
    have h2 := ((twoL_ok d1 d2).1 h).2.1
    have := mergeL_length d1 d2
    omega
  · rw [mergeR_no h]; simp

end Go.Proofs.Ythndgmnckpimmaa
