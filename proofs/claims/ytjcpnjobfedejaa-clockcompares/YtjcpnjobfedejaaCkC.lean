/- What Compare does, the program's and the document's; the walk of ClockCompares. -/
import Derived.Test.YtjcpnjobfedejaaCkH
namespace Go.Proofs.Ytjcpnjobfedejaa
open Go.RowKit
set_option linter.unusedVariables false

def compR (a b : List Int) : Int := if twoL a b = 0 then compL a b else 0
theorem compR_ok {a b : List Int} (h : twoL a b = 0) : compR a b = compL a b := by unfold compR; rw [if_pos h]
theorem compR_no {a b : List Int} (h : twoL a b ≠ 0) : compR a b = 0 := by unfold compR; rw [if_neg h]
theorem ret_ii {a b c d : Int} (h : a = b) (h2 : c = d) : Ending.returned (.tuple #[.int .i64 a, .int .i64 c]) = .returned (.tuple #[.int .i64 b, .int .i64 d]) := by rw [h, h2]

set_option maxHeartbeats 1000000 in
theorem compare_no (v1 v2 : Value) (d1 d2 : List Int) (w : World) (h1 : IsI w v1 d1) (h2 : IsI w v2 d2) (hok : twoL d1 d2 ≠ 0) :
    Calls Try.prog 19 #[v1, v2] w fun e w' => e = .returned (.tuple #[.int .i64 (compR d1 d2), .int .i64 (twoL d1 d2)]) ∧ Below w.heap.size w w' := by
  have H1 : Hid (IsI w v1 d1) := h1
  have H2 : Hid (IsI w v2 d2) := h2
  have q : (twoL d1 d2 != 0) = true := by simp [hok]
  have HE : Hid (compR d1 d2 = 0) := compR_no hok
  clear h1 h2 hok
  go_enter Try.func19, Try.ntmps19
  go_wp2_with (go_at_call 27; refine (both_any _ _ _ _ _ H1.out H2.out).mono ?_; rintro e w' ⟨rfl, hw⟩; replace hw := hw.symm; subst hw)
  go_ret2
  exact ⟨ret_ii HE.out.symm rfl, Below.refl _ _⟩

set_option maxHeartbeats 1000000 in
theorem compare_ok (v1 v2 : Value) (d1 d2 : List Int) (w : World) (h1 : IsI w v1 d1) (h2 : IsI w v2 d2) (hok : twoL d1 d2 = 0) :
    Calls Try.prog 19 #[v1, v2] w fun e w' => e = .returned (.tuple #[.int .i64 (compR d1 d2), .int .i64 (twoL d1 d2)]) ∧ Below w.heap.size w w' := by
  have H1 : Hid (IsI w v1 d1) := h1
  have H2 : Hid (IsI w v2 d2) := h2
  have HE : Hid (compR d1 d2 = compL d1 d2) := compR_ok hok
  have HK : Hid (OkC d1 ∧ OkC d2) := (twoL_ok d1 d2).1 hok
  have HT : Hid (twoL d1 d2 = 0) := hok
  clear h1 h2
  cases u1 : underB d1 d2
  · cases u2 : underB d2 d1
    · have HV : Hid (compL d1 d2 = 3) := by show _ = _; simp [compL, u1, u2]
      go_enter Try.func19, Try.ntmps19
      go_wp2_with (go_at_call 27; refine (both_any _ _ _ _ _ H1.out H2.out).mono ?_; rintro e w' ⟨rfl, hw⟩; replace hw := hw.symm; subst hw)
      refine (hasMore_any _ _ d1 d2 _ (H1.out) (H2.out) HK.out.1 HK.out.2).mono ?_
      rintro e w1 ⟨rfl, hb1⟩
      rw [u1]
      have bel1 : Below w.heap.size w w1 := hb1
      clear hb1
      go_wp2_with fail
      refine (hasMore_any _ _ d2 d1 _ (H2.out.below bel1) (H1.out.below bel1) HK.out.2 HK.out.1).mono ?_
      rintro e w2 ⟨rfl, hb2⟩
      rw [u2]
      have bel2 : Below w.heap.size w w2 := bel1.trans (hb2.mono bel1.size)
      clear hb2
      go_wp2
      go_ret2
      exact ⟨ret_ii (by rw [HE.out, HV.out]) HT.out.symm, bel2⟩
    · have HV : Hid (compL d1 d2 = 2) := by show _ = _; simp [compL, u1, u2]
      go_enter Try.func19, Try.ntmps19
      go_wp2_with (go_at_call 27; refine (both_any _ _ _ _ _ H1.out H2.out).mono ?_; rintro e w' ⟨rfl, hw⟩; replace hw := hw.symm; subst hw)
      refine (hasMore_any _ _ d1 d2 _ (H1.out) (H2.out) HK.out.1 HK.out.2).mono ?_
      rintro e w1 ⟨rfl, hb1⟩
      rw [u1]
      have bel1 : Below w.heap.size w w1 := hb1
      clear hb1
      go_wp2_with fail
      refine (hasMore_any _ _ d2 d1 _ (H2.out.below bel1) (H1.out.below bel1) HK.out.2 HK.out.1).mono ?_
      rintro e w2 ⟨rfl, hb2⟩
      rw [u2]
      have bel2 : Below w.heap.size w w2 := bel1.trans (hb2.mono bel1.size)
      clear hb2
      go_wp2
      go_ret2
      exact ⟨ret_ii (by rw [HE.out, HV.out]) HT.out.symm, bel2⟩
  · cases u2 : underB d2 d1
    · have HV : Hid (compL d1 d2 = 1) := by show _ = _; simp [compL, u1, u2]
      go_enter Try.func19, Try.ntmps19
      go_wp2_with (go_at_call 27; refine (both_any _ _ _ _ _ H1.out H2.out).mono ?_; rintro e w' ⟨rfl, hw⟩; replace hw := hw.symm; subst hw)
      refine (hasMore_any _ _ d1 d2 _ (H1.out) (H2.out) HK.out.1 HK.out.2).mono ?_
      rintro e w1 ⟨rfl, hb1⟩
      rw [u1]
      have bel1 : Below w.heap.size w w1 := hb1
      clear hb1
      go_wp2_with fail
      refine (hasMore_any _ _ d2 d1 _ (H2.out.below bel1) (H1.out.below bel1) HK.out.2 HK.out.1).mono ?_
      rintro e w2 ⟨rfl, hb2⟩
      rw [u2]
      have bel2 : Below w.heap.size w w2 := bel1.trans (hb2.mono bel1.size)
      clear hb2
      go_wp2
      go_ret2
      exact ⟨ret_ii (by rw [HE.out, HV.out]) HT.out.symm, bel2⟩
    · have HV : Hid (compL d1 d2 = 0) := by show _ = _; simp [compL, u1, u2]
      go_enter Try.func19, Try.ntmps19
      go_wp2_with (go_at_call 27; refine (both_any _ _ _ _ _ H1.out H2.out).mono ?_; rintro e w' ⟨rfl, hw⟩; replace hw := hw.symm; subst hw)
      refine (hasMore_any _ _ d1 d2 _ (H1.out) (H2.out) HK.out.1 HK.out.2).mono ?_
      rintro e w1 ⟨rfl, hb1⟩
      rw [u1]
      have bel1 : Below w.heap.size w w1 := hb1
      clear hb1
      go_wp2_with fail
      refine (hasMore_any _ _ d2 d1 _ (H2.out.below bel1) (H1.out.below bel1) HK.out.2 HK.out.1).mono ?_
      rintro e w2 ⟨rfl, hb2⟩
      rw [u2]
      have bel2 : Below w.heap.size w w2 := bel1.trans (hb2.mono bel1.size)
      clear hb2
      go_wp2
      go_ret2
      exact ⟨ret_ii (by rw [HE.out, HV.out]) HT.out.symm, bel2⟩

theorem compare_any (v1 v2 : Value) (d1 d2 : List Int) (w : World) (h1 : IsI w v1 d1) (h2 : IsI w v2 d2) :
    Calls Try.prog 19 #[v1, v2] w fun e w' => e = .returned (.tuple #[.int .i64 (compR d1 d2), .int .i64 (twoL d1 d2)]) ∧ Below w.heap.size w w' := by
  by_cases hok : twoL d1 d2 = 0
  · exact compare_ok v1 v2 d1 d2 w h1 h2 hok
  · exact compare_no v1 v2 d1 d2 w h1 h2 hok

set_option maxHeartbeats 1000000 in
theorem refCompare_no (v1 v2 : Value) (d1 d2 : List Int) (w : World) (h1 : IsI w v1 d1) (h2 : IsI w v2 d2) (hok : twoL d1 d2 ≠ 0) :
    Calls Try.prog 20 #[v1, v2] w fun e w' => e = .returned (.tuple #[.int .i64 (compR d1 d2), .int .i64 (twoL d1 d2)]) ∧ Below w.heap.size w w' := by
  have H1 : Hid (IsI w v1 d1) := h1
  have H2 : Hid (IsI w v2 d2) := h2
  have q : (twoL d1 d2 != 0) = true := by simp [hok]
  have HE : Hid (compR d1 d2 = 0) := compR_no hok
  clear h1 h2 hok
  go_enter Try.func20, Try.ntmps20
  go_wp2_with (go_at_call 28; refine (two_any _ _ _ _ _ H1.out H2.out).mono ?_; rintro e w' ⟨rfl, hw⟩; replace hw := hw.symm; subst hw)
  go_ret2
  exact ⟨ret_ii HE.out.symm rfl, Below.refl _ _⟩

set_option maxHeartbeats 1000000 in
theorem refCompare_ok (v1 v2 : Value) (d1 d2 : List Int) (w : World) (h1 : IsI w v1 d1) (h2 : IsI w v2 d2) (hok : twoL d1 d2 = 0) :
    Calls Try.prog 20 #[v1, v2] w fun e w' => e = .returned (.tuple #[.int .i64 (compR d1 d2), .int .i64 (twoL d1 d2)]) ∧ Below w.heap.size w w' := by
  have H1 : Hid (IsI w v1 d1) := h1
  have H2 : Hid (IsI w v2 d2) := h2
  have HE : Hid (compR d1 d2 = compL d1 d2) := compR_ok hok
  have HK : Hid (OkC d1 ∧ OkC d2) := (twoL_ok d1 d2).1 hok
  have HT : Hid (twoL d1 d2 = 0) := hok
  clear h1 h2
  cases u1 : underB d1 d2
  · cases u2 : underB d2 d1
    · have HV : Hid (compL d1 d2 = 3) := by show _ = _; simp [compL, u1, u2]
      go_enter Try.func20, Try.ntmps20
      go_wp2_with (go_at_call 28; refine (two_any _ _ _ _ _ H1.out H2.out).mono ?_; rintro e w' ⟨rfl, hw⟩; replace hw := hw.symm; subst hw)
      refine (under_any _ _ d1 d2 _ (H1.out) (H2.out)).mono ?_
      rintro e w1 ⟨rfl, hb1⟩
      rw [u1]
      have bel1 : Below w.heap.size w w1 := hb1
      clear hb1
      go_wp2_with fail
      refine (under_any _ _ d1 d2 _ (H1.out.below bel1) (H2.out.below bel1)).mono ?_
      rintro e w2 ⟨rfl, hb2⟩
      rw [u1]
      have bel2 : Below w.heap.size w w2 := bel1.trans (hb2.mono bel1.size)
      clear hb2
      go_wp2_with fail
      refine (under_any _ _ d2 d1 _ (H2.out.below bel2) (H1.out.below bel2)).mono ?_
      rintro e w3 ⟨rfl, hb3⟩
      rw [u2]
      have bel3 : Below w.heap.size w w3 := bel2.trans (hb3.mono bel2.size)
      clear hb3
      go_wp2
      go_ret2
      exact ⟨ret_ii (by rw [HE.out, HV.out]) HT.out.symm, bel3⟩
    · have HV : Hid (compL d1 d2 = 2) := by show _ = _; simp [compL, u1, u2]
      go_enter Try.func20, Try.ntmps20
      go_wp2_with (go_at_call 28; refine (two_any _ _ _ _ _ H1.out H2.out).mono ?_; rintro e w' ⟨rfl, hw⟩; replace hw := hw.symm; subst hw)
      refine (under_any _ _ d1 d2 _ (H1.out) (H2.out)).mono ?_
      rintro e w1 ⟨rfl, hb1⟩
      rw [u1]
      have bel1 : Below w.heap.size w w1 := hb1
      clear hb1
      go_wp2_with fail
      refine (under_any _ _ d1 d2 _ (H1.out.below bel1) (H2.out.below bel1)).mono ?_
      rintro e w2 ⟨rfl, hb2⟩
      rw [u1]
      have bel2 : Below w.heap.size w w2 := bel1.trans (hb2.mono bel1.size)
      clear hb2
      go_wp2_with fail
      refine (under_any _ _ d2 d1 _ (H2.out.below bel2) (H1.out.below bel2)).mono ?_
      rintro e w3 ⟨rfl, hb3⟩
      rw [u2]
      have bel3 : Below w.heap.size w w3 := bel2.trans (hb3.mono bel2.size)
      clear hb3
      go_wp2
      go_ret2
      exact ⟨ret_ii (by rw [HE.out, HV.out]) HT.out.symm, bel3⟩
  · cases u2 : underB d2 d1
    · have HV : Hid (compL d1 d2 = 1) := by show _ = _; simp [compL, u1, u2]
      go_enter Try.func20, Try.ntmps20
      go_wp2_with (go_at_call 28; refine (two_any _ _ _ _ _ H1.out H2.out).mono ?_; rintro e w' ⟨rfl, hw⟩; replace hw := hw.symm; subst hw)
      refine (under_any _ _ d1 d2 _ (H1.out) (H2.out)).mono ?_
      rintro e w1 ⟨rfl, hb1⟩
      rw [u1]
      have bel1 : Below w.heap.size w w1 := hb1
      clear hb1
      go_wp2_with fail
      refine (under_any _ _ d2 d1 _ (H2.out.below bel1) (H1.out.below bel1)).mono ?_
      rintro e w2 ⟨rfl, hb2⟩
      rw [u2]
      have bel2 : Below w.heap.size w w2 := bel1.trans (hb2.mono bel1.size)
      clear hb2
      go_wp2_with fail
      refine (under_any _ _ d1 d2 _ (H1.out.below bel2) (H2.out.below bel2)).mono ?_
      rintro e w3 ⟨rfl, hb3⟩
      rw [u1]
      have bel3 : Below w.heap.size w w3 := bel2.trans (hb3.mono bel2.size)
      clear hb3
      go_wp2
      go_ret2
      exact ⟨ret_ii (by rw [HE.out, HV.out]) HT.out.symm, bel3⟩
    · have HV : Hid (compL d1 d2 = 0) := by show _ = _; simp [compL, u1, u2]
      go_enter Try.func20, Try.ntmps20
      go_wp2_with (go_at_call 28; refine (two_any _ _ _ _ _ H1.out H2.out).mono ?_; rintro e w' ⟨rfl, hw⟩; replace hw := hw.symm; subst hw)
      refine (under_any _ _ d1 d2 _ (H1.out) (H2.out)).mono ?_
      rintro e w1 ⟨rfl, hb1⟩
      rw [u1]
      have bel1 : Below w.heap.size w w1 := hb1
      clear hb1
      go_wp2_with fail
      refine (under_any _ _ d2 d1 _ (H2.out.below bel1) (H1.out.below bel1)).mono ?_
      rintro e w2 ⟨rfl, hb2⟩
      rw [u2]
      have bel2 : Below w.heap.size w w2 := bel1.trans (hb2.mono bel1.size)
      clear hb2
      go_wp2
      go_ret2
      exact ⟨ret_ii (by rw [HE.out, HV.out]) HT.out.symm, bel2⟩

theorem refCompare_any (v1 v2 : Value) (d1 d2 : List Int) (w : World) (h1 : IsI w v1 d1) (h2 : IsI w v2 d2) :
    Calls Try.prog 20 #[v1, v2] w fun e w' => e = .returned (.tuple #[.int .i64 (compR d1 d2), .int .i64 (twoL d1 d2)]) ∧ Below w.heap.size w w' := by
  by_cases hok : twoL d1 d2 = 0
  · exact refCompare_ok v1 v2 d1 d2 w h1 h2 hok
  · exact refCompare_no v1 v2 d1 d2 w h1 h2 hok

set_option maxHeartbeats 1000000 in
theorem clockCompares_walk (v1 : Value) (d1 : List Int) (v2 : Value) (d2 : List Int) (w : World) (h1 : IsI w v1 d1) (h2 : IsI w v2 d2) :
    Calls Try.prog 5 #[v1, v2] w fun e w' => e = .returned (.bool true) ∧ Below w.heap.size w w' := by
  have H1 : Hid (IsI w v1 d1) := h1
  have H2 : Hid (IsI w v2 d2) := h2
  clear h1 h2
  have q1 : (compR d1 d2 == compR d1 d2) = true := by simp
  have q2 : (twoL d1 d2 == twoL d1 d2) = true := by simp
  go_enter Try.func5, Try.ntmps5
  go_wp2_with fail
  refine (compare_any _ _ d1 d2 _ H1.out H2.out).mono ?_
  rintro e w1 ⟨rfl, hb1⟩
  go_wp2_with fail
  refine (refCompare_any _ _ d1 d2 _ (H1.out.below hb1) (H2.out.below hb1)).mono ?_
  rintro e w2 ⟨rfl, hb2⟩
  have bel2 : Below w.heap.size w w2 := hb1.trans (hb2.mono hb1.size)
  clear hb1 hb2
  go_wp2_with fail
  refine (awake_any _).mono ?_
  rintro e w4 ⟨rfl, hb4⟩
  go_wp2
  go_ret
  exact ⟨rfl, bel2.trans (hb4.mono bel2.size)⟩

end Go.Proofs.Ytjcpnjobfedejaa
