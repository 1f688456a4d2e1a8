/- What 'awake' does, and the walks of ClockChecks and ClockMerges. -/
import Derived.Test.YtjcpnjobfedejaaCkM
namespace Go.Proofs.Ytjcpnjobfedejaa
open Go.RowKit
set_option linter.unusedVariables false

/-- A row just built. -/
theorem isI_new (w : World) (x : List Int) (hl : x.length ≤ 64) : IsI (w.alloc (.cells (x.map (Value.int .i64)).toArray 3)) (.slice (some ⟨w.heap.size, 0, none⟩) x.length x.length) x :=
  ⟨_, x.length, rfl, Nat.le_refl _, by omega, .inr ⟨w.heap.size, 0, rfl, fun i hi => by simp [go_sem, hi]⟩⟩

set_option maxHeartbeats 1000000 in
theorem awake_any (w : World) : Calls Try.prog 16 #[] w fun e w' => e = .returned (.bool true) ∧ Below w.heap.size w w' := by
  have i1 : Hid (IsI ((w.alloc (.cells #[.int .i64 1, .int .i64 0, .int .i64 3] 3)).alloc (.cells #[.int .i64 0, .int .i64 2] 3)) (.slice (some ⟨w.heap.size, 0, none⟩) 3 3) [1, 0, 3]) :=
    (isI_new w [1, 0, 3] (by decide)).below ((Below.refl _ _).alloc (Nat.le_refl _) _)
  have i2 : Hid (IsI ((w.alloc (.cells #[.int .i64 1, .int .i64 0, .int .i64 3] 3)).alloc (.cells #[.int .i64 0, .int .i64 2] 3)) (.slice (some ⟨w.heap.size + 1, 0, none⟩) 2 2) [0, 2]) := by
    have := isI_new (w.alloc (.cells #[.int .i64 1, .int .i64 0, .int .i64 3] 3)) [0, 2] (by decide)
    show IsI _ _ _
    simpa using this
  have b0 : Hid (Below w.heap.size w ((w.alloc (.cells #[.int .i64 1, .int .i64 0, .int .i64 3] 3)).alloc (.cells #[.int .i64 0, .int .i64 2] 3))) := ((Below.refl _ _).alloc (Nat.le_refl _) _).alloc (by simp) _
  have tw : Hid (twoL [1, 0, 3] [0, 2] = 0) := by show _ = _; decide
  have mr : Hid (mergeR [1, 0, 3] [0, 2] = [1, 2, 3]) := by show _ = _; rw [mergeR_ok tw.out]; decide
  go_enter Try.func16, Try.ntmps16
  go_wp2_with fail
  refine (merge_any _ _ [1, 0, 3] [0, 2] _ i1.out i2.out).mono ?_
  rintro e w1 ⟨v1, rfl, ho, hb⟩
  rw [tw.out]
  rw [mr.out] at ho
  have bel1 : Below w.heap.size w w1 := b0.out.trans (hb.mono (by simp; omega))
  have z1 := bel1.size
  obtain ⟨a, cap, e1⟩ := ho.form
  subst e1
  have HI : Hid (IsI w1 (.slice a 3 cap) [1, 2, 3]) := ho.isI (by decide)
  have HN : Hid (IsI (w1.alloc (.cells #[.int .i64 1, .int .i64 2, .int .i64 3] 3)) (.slice (some ⟨w1.heap.size, 0, none⟩) 3 3) [1, 2, 3]) := isI_new w1 [1, 2, 3] (by decide)
  have bel2 : Below w.heap.size w (w1.alloc (.cells #[.int .i64 1, .int .i64 2, .int .i64 3] 3)) := bel1.alloc (by omega) _
  have HI2 : Hid (IsI (w1.alloc (.cells #[.int .i64 1, .int .i64 2, .int .i64 3] 3)) (.slice a 3 cap) [1, 2, 3]) := HI.out.below ((Below.refl _ _).alloc (Nat.le_refl _) _)
  clear ho hb i1 i2 b0 tw mr
  go_wp2_with fail
  refine (sameI_any _ _ [1, 2, 3] [1, 2, 3] _ HI2.out HN.out).mono ?_
  rintro e w2 ⟨rfl, hb2⟩
  have ds : decide (([1, 2, 3] : List Int) = [1, 2, 3]) = true := by decide
  rw [ds]
  have HI3 : Hid (IsI w2 (.slice a 3 cap) [1, 2, 3]) := HI2.out.below hb2
  have bel3 : Below w.heap.size w w2 := bel2.trans (hb2.mono (by simp; omega))
  clear hb2
  go_wp2_with fail
  refine (at_any _ [1, 2, 3] 1 _ HI3.out).mono ?_
  rintro e w' ⟨rfl, rfl⟩
  have da : atL [1, 2, 3] 1 = 2 := by decide
  rw [da]
  go_wp2
  go_ret
  exact ⟨rfl, bel3⟩

set_option maxHeartbeats 1000000 in
theorem clockChecks_walk (v : Value) (d : List Int) (r : Int) (w : World) (h : IsI w v d) (_ : (Lit.int .i64 r).wf = true) :
    Calls Try.prog 3 #[v, .int .i64 r] w fun e w' => e = .returned (.bool true) ∧ Below w.heap.size w w' := by
  have H : Hid (IsI w v d) := h
  have hlen : d.length ≤ 17592186044416 := by obtain ⟨_, _, _, _, hl, _⟩ := h; exact hl
  have htl := trim_length d
  clear h
  have q1 : (checkL d == checkL d) = true := by simp
  have q2 : (atL d r == atL d r) = true := by simp
  go_enter Try.func3, Try.ntmps3
  go_wp2_with (first
    | (go_at_call 9; refine (check_any _ _ _ H.out).mono ?_; rintro e w' ⟨rfl, hw⟩; replace hw := hw.symm; subst hw)
    | (go_at_call 10; refine (refCheck_any _ _ _ H.out).mono ?_; rintro e w' ⟨rfl, hw⟩; replace hw := hw.symm; subst hw)
    | (go_at_call 11; refine (at_any _ _ _ _ H.out).mono ?_; rintro e w' ⟨rfl, hw⟩; replace hw := hw.symm; subst hw)
    | (go_at_call 12; refine (refAt_any _ _ _ _ H.out).mono ?_; rintro e w' ⟨rfl, hw⟩; replace hw := hw.symm; subst hw))
  refine (trim_any _ _ _ H.out).mono ?_
  rintro e w1 ⟨v1, rfl, ho1, hb1⟩
  have HI1 : Hid (IsI w1 v1 (trimL d)) := ho1.isI (by omega)
  have H1 : Hid (IsI w1 v d) := H.out.below hb1
  clear ho1
  go_wp2_with fail
  refine (refTrim_any _ _ _ H1.out).mono ?_
  rintro e w2 ⟨v2, rfl, ho2, hb2⟩
  have HI2 : Hid (IsI w2 v2 (trimL d)) := ho2.isI (by omega)
  have HI1b : Hid (IsI w2 v1 (trimL d)) := HI1.out.below hb2
  have bel2 : Below w.heap.size w w2 := hb1.trans (hb2.mono hb1.size)
  clear ho2 hb1 hb2 H1 HI1
  go_wp2_with fail
  refine (sameI_any _ _ _ _ _ HI1b.out HI2.out).mono ?_
  rintro e w3 ⟨rfl, hb3⟩
  have ds : decide (trimL d = trimL d) = true := by simp
  rw [ds]
  have bel3 : Below w.heap.size w w3 := bel2.trans (hb3.mono bel2.size)
  clear hb3 HI1b HI2
  go_wp2_with fail
  refine (awake_any _).mono ?_
  rintro e w4 ⟨rfl, hb4⟩
  go_wp2
  go_ret
  exact ⟨rfl, bel3.trans (hb4.mono bel3.size)⟩

theorem mergeR_len (d1 d2 : List Int) : (mergeR d1 d2).length ≤ 64 := by
  by_cases h : twoL d1 d2 = 0
  · rw [mergeR_ok h]
    have h1 := ((twoL_ok d1 d2).1 h).1.1
    have h2 := ((twoL_ok d1 d2).1 h).2.1
    have := mergeL_length d1 d2
    omega
  · rw [mergeR_no h]; simp

set_option maxHeartbeats 1000000 in
theorem clockMerges_walk (v1 : Value) (d1 : List Int) (v2 : Value) (d2 : List Int) (w : World) (h1 : IsI w v1 d1) (h2 : IsI w v2 d2) :
    Calls Try.prog 4 #[v1, v2] w fun e w' => e = .returned (.bool true) ∧ Below w.heap.size w w' := by
  have H1 : Hid (IsI w v1 d1) := h1
  have H2 : Hid (IsI w v2 d2) := h2
  have ml := mergeR_len d1 d2
  clear h1 h2
  go_enter Try.func4, Try.ntmps4
  go_wp2_with fail
  refine (merge_any _ _ d1 d2 _ H1.out H2.out).mono ?_
  rintro e w1 ⟨v3, rfl, ho1, hb1⟩
  have HI1 : Hid (IsI w1 v3 (mergeR d1 d2)) := ho1.isI (by omega)
  have J1 : Hid (IsI w1 v1 d1) := H1.out.below hb1
  have J2 : Hid (IsI w1 v2 d2) := H2.out.below hb1
  clear ho1
  go_wp2_with fail
  refine (refMerge_any _ _ d1 d2 _ J1.out J2.out).mono ?_
  rintro e w2 ⟨v4, rfl, ho2, hb2⟩
  have HI2 : Hid (IsI w2 v4 (mergeR d1 d2)) := ho2.isI (by omega)
  have HI1b : Hid (IsI w2 v3 (mergeR d1 d2)) := HI1.out.below hb2
  have bel2 : Below w.heap.size w w2 := hb1.trans (hb2.mono hb1.size)
  have q : (twoL d1 d2 == twoL d1 d2) = true := by simp
  clear ho2 hb1 hb2 J1 J2 HI1
  go_wp2_with fail
  refine (sameI_any _ _ _ _ _ HI1b.out HI2.out).mono ?_
  rintro e w3 ⟨rfl, hb3⟩
  have ds : decide (mergeR d1 d2 = mergeR d1 d2) = true := by simp
  rw [ds]
  have bel3 : Below w.heap.size w w3 := bel2.trans (hb3.mono bel2.size)
  clear hb3 HI1b HI2
  go_wp2_with fail
  refine (awake_any _).mono ?_
  rintro e w4 ⟨rfl, hb4⟩
  go_wp2
  go_ret
  exact ⟨rfl, bel3.trans (hb4.mono bel3.size)⟩

end Go.Proofs.Ytjcpnjobfedejaa
