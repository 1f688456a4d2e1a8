/- What 'awake' does, and the walks of ClockChecks and ClockMerges. -/
import Derived.Test.YtjcpnjobfedejabDoorCkM
namespace Go.Proofs.YtjcpnjobfedejabDoor
open Go.RowKit
set_option linter.unusedVariables false

/-- A row just built. -/
theorem isI_new (w : World) (x : List Int) (hl : x.length ≤ 64) : IsI (w.alloc (.cells (x.map (Value.int .i64)).toArray 3)) (.slice (some ⟨w.heap.size, 0, none⟩) x.length x.length) x :=
  ⟨_, x.length, rfl, Nat.le_refl _, by omega, .inr ⟨w.heap.size, 0, rfl, fun i hi => by simp [go_sem, hi]⟩⟩

set_option maxHeartbeats 1000000 in
theorem awake_any (w : World) : Calls Tryd.prog 10 #[] w fun e w' => e = .returned (.bool true) ∧ Below w.heap.size w w' := by
  have i1 : Hid (IsI ((w.alloc (.cells #[.int .i64 1, .int .i64 0, .int .i64 3] 3)).alloc (.cells #[.int .i64 0, .int .i64 2] 3)) (.slice (some ⟨w.heap.size, 0, none⟩) 3 3) [1, 0, 3]) :=
    (isI_new w [1, 0, 3] (by decide)).below ((Below.refl _ _).alloc (Nat.le_refl _) _)
  have i2 : Hid (IsI ((w.alloc (.cells #[.int .i64 1, .int .i64 0, .int .i64 3] 3)).alloc (.cells #[.int .i64 0, .int .i64 2] 3)) (.slice (some ⟨w.heap.size + 1, 0, none⟩) 2 2) [0, 2]) := by
    have := isI_new (w.alloc (.cells #[.int .i64 1, .int .i64 0, .int .i64 3] 3)) [0, 2] (by decide)
    show IsI _ _ _
    simpa using this
  have b0 : Hid (Below w.heap.size w ((w.alloc (.cells #[.int .i64 1, .int .i64 0, .int .i64 3] 3)).alloc (.cells #[.int .i64 0, .int .i64 2] 3))) := ((Below.refl _ _).alloc (Nat.le_refl _) _).alloc (by simp) _
  have tw : Hid (twoL [1, 0, 3] [0, 2] = 0) := by show _ = _; decide
  have mr : Hid (mergeR [1, 0, 3] [0, 2] = [1, 2, 3]) := by show _ = _; rw [mergeR_ok tw.out]; decide
  go_enter Tryd.func10, Tryd.ntmps10
  go_wp2_with fail
  refine (merge_any _ _ [1, 0, 3] [0, 2] _ i1.out i2.out).mono ?_
  rintro e w1 ⟨v1, rfl, ho, hb⟩
  rw [tw.out]
  rw [mr.out] at ho
  have bel1 : Below w.heap.size w w1 := b0.out.trans (hb.mono (by simp; omega))
  have z1 := bel1.size
  obtain ⟨a, cap, e1⟩ := ho.form
  subst e1
  have HI : Hid (IsI w1 (.slice a 3 cap) [1, 2, 3]) := ho.isI (by decide)
  have HN : Hid (IsI (w1.alloc (.cells #[.int .i64 1, .int .i64 2, .int .i64 3] 3)) (.slice (some ⟨w1.heap.size, 0, none⟩) 3 3) [1, 2, 3]) := isI_new w1 [1, 2, 3] (by decide)
  have bel2 : Below w.heap.size w (w1.alloc (.cells #[.int .i64 1, .int .i64 2, .int .i64 3] 3)) := bel1.alloc (by omega) _
  have HI2 : Hid (IsI (w1.alloc (.cells #[.int .i64 1, .int .i64 2, .int .i64 3] 3)) (.slice a 3 cap) [1, 2, 3]) := HI.out.below ((Below.refl _ _).alloc (Nat.le_refl _) _)
  clear ho hb i1 i2 b0 tw mr
  go_wp2_with fail
  refine (sameI_any _ _ [1, 2, 3] [1, 2, 3] _ HI2.out HN.out).mono ?_
  rintro e w2 ⟨rfl, hb2⟩
  have ds : decide (([1, 2, 3] : List Int) = [1, 2, 3]) = true := by decide
  rw [ds]
  have HI3 : Hid (IsI w2 (.slice a 3 cap) [1, 2, 3]) := HI2.out.below hb2
  have bel3 : Below w.heap.size w w2 := bel2.trans (hb2.mono (by simp; omega))
  clear hb2
  go_wp2_with fail
  refine (at_any _ [1, 2, 3] 1 _ HI3.out).mono ?_
  rintro e w' ⟨rfl, rfl⟩
  have da : atL [1, 2, 3] 1 = 2 := by decide
  rw [da]
  go_wp2
  go_ret
  exact ⟨rfl, bel3⟩

theorem mergeR_len (d1 d2 : List Int) : (mergeR d1 d2).length ≤ 64 := by
  by_cases h : twoL d1 d2 = 0
  · rw [mergeR_ok h]
    have h1 := ((twoL_ok d1 d2).1 h).1.1
    have h2 := ((twoL_ok d1 d2).1 h).2.1
    have := mergeL_length d1 d2
    omega
  · rw [mergeR_no h]; simp

end Go.Proofs.YtjcpnjobfedejabDoor
