/- What awake tells, and the walk of LisParts. -/
import Derived.Test.YtjnccmkhhnaaiaaLiA
import Derived.Test.YtjnccmkhhnaaiaaLiD
import Derived.Test.YtjnccmkhhnaaiaaCkA
namespace Go.Proofs.Ytjnccmkhhnaaiaa
open Go.RowKit
set_option linter.unusedVariables false

/-- A row just built. -/
theorem isI_new (w : World) (x : List Int) (hl : x.length ≤ 64) : IsI (w.alloc (.cells (x.map (Value.int .i64)).toArray 3)) (.slice (some ⟨w.heap.size, 0, none⟩) x.length x.length) x :=
  ⟨_, x.length, rfl, Nat.le_refl _, by omega, .inr ⟨w.heap.size, 0, rfl, fun i hi => by simp [go_sem, hi]⟩⟩

set_option maxHeartbeats 1000000 in
theorem awake_any (w : World) : Calls Try.prog 11 #[] w fun e w' => e = .returned (.bool true) ∧ Below w.heap.size w w' := by
  have i1 : Hid (IsI (w.alloc (.cells #[.int .i64 3, .int .i64 1, .int .i64 2, .int .i64 5, .int .i64 4] 3)) (.slice (some ⟨w.heap.size, 0, none⟩) 5 5) [3, 1, 2, 5, 4]) := isI_new w [3, 1, 2, 5, 4] (by decide)
  have b0 : Hid (Below w.heap.size w (w.alloc (.cells #[.int .i64 3, .int .i64 1, .int .i64 2, .int .i64 5, .int .i64 4] 3))) := (Below.refl _ _).alloc (Nat.le_refl _) _
  have tw : Hid (risL [3, 1, 2, 5, 4] = [1, 2, 3]) := by show _ = _; decide
  have ti : Hid (isB [1, 2] [0, 1] = true) := by show _ = _; decide
  go_enter Try.func11, Try.ntmps11
  go_wp2_with fail
  refine (rising_any _ [3, 1, 2, 5, 4] _ i1.out).mono ?_
  rintro e w1 ⟨v1, rfl, ho, hb⟩
  rw [tw.out] at ho
  have bel1 := hide9 (b0.out.trans (hb.mono (by simp)))
  have z1 := bel1.out.size
  obtain ⟨a, cap, e1⟩ := ho.form
  subst e1
  have HI := hide9 (ho.isI (by decide))
  clear ho hb i1 b0 tw
  obtain ⟨W2, eW⟩ : ∃ X, X = w1.alloc (.cells #[.int .i64 1, .int .i64 2, .int .i64 3] 3) := ⟨_, rfl⟩
  have hb2 : Below w1.heap.size w1 W2 := by rw [eW]; exact (Below.refl _ _).alloc (Nat.le_refl _) _
  have HN : Hid (IsI W2 (.slice (some ⟨w1.heap.size, 0, none⟩) 3 3) [1, 2, 3]) := by rw [eW]; exact isI_new w1 [1, 2, 3] (by decide)
  have HI2 := hide9 (HI.out.below hb2)
  have bel2 := hide9 (bel1.out.trans (hb2.mono z1))
  have HE := hide9 eW
  clear eW hb2
  go_wp2_with fail
  rw [← HE.out]
  refine (sameI_any _ _ [1, 2, 3] [1, 2, 3] _ HI2.out HN.out).mono ?_
  rintro e w3 ⟨rfl, hb3⟩
  have ds : decide (([1, 2, 3] : List Int) = [1, 2, 3]) = true := by decide
  rw [ds]
  have bel3 := hide9 (bel2.out.trans (hb3.mono bel2.out.size))
  have z3 := bel3.out.size
  clear hb3 HE
  obtain ⟨W4, eW⟩ : ∃ X, X = w3.alloc (.cells #[.int .i64 1, .int .i64 2] 3) := ⟨_, rfl⟩
  obtain ⟨W5, eX⟩ : ∃ X, X = W4.alloc (.cells #[.int .i64 0, .int .i64 1] 3) := ⟨_, rfl⟩
  have h4 : Below w3.heap.size w3 W4 := by rw [eW]; exact (Below.refl _ _).alloc (Nat.le_refl _) _
  have h5 : Below W4.heap.size W4 W5 := by rw [eX]; exact (Below.refl _ _).alloc (Nat.le_refl _) _
  have s4 : W4.heap.size = w3.heap.size + 1 := by rw [eW]; simp
  have N1 : Hid (IsI W5 (.slice (some ⟨w3.heap.size, 0, none⟩) 2 2) [1, 2]) := (show IsI W4 _ _ by rw [eW]; exact isI_new w3 [1, 2] (by decide)).below h5
  have N2 : Hid (IsI W5 (.slice (some ⟨w3.heap.size + 1, 0, none⟩) 2 2) [0, 1]) := by have := isI_new W4 [0, 1] (by decide); rw [s4] at this; rw [eX]; exact this
  have bel5 := hide9 (bel3.out.trans ((h4.trans (h5.mono h4.size)).mono z3))
  have HE : Hid ((w3.alloc (.cells #[.int .i64 1, .int .i64 2] 3)).alloc (.cells #[.int .i64 0, .int .i64 1] 3) = W5) := by rw [eX, eW]; rfl
  clear eW eX h4 h5 s4
  go_wp2_with fail
  rw [HE.out]
  refine (is_any _ _ [1, 2] [0, 1] _ N1.out N2.out).mono ?_
  rintro e w6 ⟨rfl, hb6⟩
  rw [ti.out]
  have bel6 := hide9 (bel5.out.trans (hb6.mono bel5.out.size))
  clear hb6 HE
  go_wp2
  go_ret
  exact ⟨rfl, bel6.out⟩

set_option maxHeartbeats 1000000 in
theorem lisParts_walk (v1 : Value) (d : List Int) (v2 : Value) (p : List Int) (w : World) (h1 : IsI w v1 d) (h2 : IsI w v2 p) :
    Calls Try.prog 3 #[v1, v2] w fun e w' => e = .returned (.bool true) ∧ Below w.heap.size w w' := by
  have H1 := hide9 h1
  have H2 := hide9 h2
  obtain ⟨a1, c1, e1⟩ := h1.form
  obtain ⟨a2, c2, e2⟩ := h2.form
  subst e1 e2
  clear h1 h2
  go_enter Try.func3, Try.ntmps3
  go_wp2_with fail
  refine (is_any _ _ d p _ H1.out H2.out).mono ?_
  rintro e w1 ⟨rfl, hb1⟩
  have B1 := hide9 hb1
  have H3 := hide9 (H1.out.below hb1)
  have H4 := hide9 (H2.out.below hb1)
  clear hb1
  go_wp2_with fail
  refine (refIs_any _ _ d p _ H3.out H4.out).mono ?_
  rintro e w2 ⟨rfl, hb2⟩
  have B2 := hide9 (B1.out.trans (hb2.mono B1.out.size))
  clear hb2
  have q : (isB d p == isB d p) = true := by simp
  go_wp2_with fail
  refine (awake_any _).mono ?_
  rintro e w3 ⟨rfl, hb3⟩
  have B3 := hide9 (B2.out.trans (hb3.mono B2.out.size))
  clear hb3
  go_wp2
  go_ret
  exact ⟨rfl, B3.out⟩

end Go.Proofs.Ytjnccmkhhnaaiaa
