/- What a nil reader's methods do; and that the program answers at all. -/
import Derived.Test.YtfjejobakknipaaOcE
namespace Go.Proofs.Ytfjejobakknipaa
open Go.RowKit
set_option linter.unusedVariables false

set_option maxRecDepth 100000 in
set_option maxHeartbeats 1000000 in
theorem readsNothing_nil (w : World) :
    Calls Try.prog 30 #[.pointer none] w fun e w' => e = .returned (.bool true) ∧ w' = w := by
  go_enter Try.func30, Try.ntmps30
  go_wp2
  go_ret
  exact ⟨rfl, rfl⟩

set_option maxRecDepth 100000 in
set_option maxHeartbeats 1000000 in
theorem at_nil (w : World) :
    Calls Try.prog 23 #[.pointer none] w fun e w' => e = .returned (.int .i64 0) ∧ w' = w := by
  go_enter Try.func23, Try.ntmps23
  go_wp2
  go_ret
  exact ⟨rfl, rfl⟩

set_option maxRecDepth 100000 in
set_option maxHeartbeats 1000000 in
theorem left_nil (w : World) :
    Calls Try.prog 24 #[.pointer none] w fun e w' => e = .returned (.int .i64 0) ∧ w' = w := by
  go_enter Try.func24, Try.ntmps24
  go_wp2
  go_ret
  exact ⟨rfl, rfl⟩

set_option maxRecDepth 100000 in
set_option maxHeartbeats 1000000 in
theorem why_nil (w : World) :
    Calls Try.prog 22 #[.pointer none] w fun e w' => e = .returned (.tuple #[.int .i64 0, .int .i64 0]) ∧ w' = w := by
  go_enter Try.func22, Try.ntmps22
  go_wp2
  go_ret2
  exact ⟨rfl, rfl⟩

set_option maxRecDepth 100000 in
set_option maxHeartbeats 1000000 in
theorem done_nil (w : World) :
    Calls Try.prog 25 #[.pointer none] w fun e w' => e = .returned (.int .i64 0) ∧ w' = w := by
  go_enter Try.func25, Try.ntmps25
  go_wp2_with (first | (go_at_call 22; refine (why_nil _).mono ?_; rintro e w' ⟨rfl, hw⟩; replace hw := hw.symm; subst hw) | (go_at_call 24; refine (left_nil _).mono ?_; rintro e w' ⟨rfl, hw⟩; replace hw := hw.symm; subst hw))
  go_ret
  exact ⟨rfl, rfl⟩

set_option maxRecDepth 100000 in
set_option maxHeartbeats 1000000 in
theorem count_nil (most : Int) (w : World) :
    Calls Try.prog 19 #[.pointer none, .int .i64 most] w fun e w' => e = .returned (.int .i64 0) ∧ w' = w := by
  go_enter Try.func19, Try.ntmps19
  go_wp2_with (go_at_call 30; refine (readsNothing_nil _).mono ?_; rintro e w' ⟨rfl, hw⟩; replace hw := hw.symm; subst hw)
  go_ret
  exact ⟨rfl, rfl⟩

set_option maxRecDepth 100000 in
set_option maxHeartbeats 1000000 in
theorem num_nil (w : World) :
    Calls Try.prog 17 #[.pointer none] w fun e w' => e = .returned (.int .i64 0) ∧ w' = w := by
  go_enter Try.func17, Try.ntmps17
  go_wp2_with (go_at_call 19; refine (count_nil _ _).mono ?_; rintro e w' ⟨rfl, hw⟩; replace hw := hw.symm; subst hw)
  go_ret
  exact ⟨rfl, rfl⟩

set_option maxRecDepth 100000 in
set_option maxHeartbeats 1000000 in
theorem text_nil (most : Int) (w : World) :
    Calls Try.prog 21 #[.pointer none, .int .i64 most] w fun e w' => e = .returned (.string ⟨#[]⟩) ∧ w' = w := by
  go_enter Try.func21, Try.ntmps21
  go_wp2_with (go_at_call 30; refine (readsNothing_nil _).mono ?_; rintro e w' ⟨rfl, hw⟩; replace hw := hw.symm; subst hw)
  go_ret
  exact ⟨rfl, rfl⟩

theorem RdIs.grows {L : Nat} {w w' : World} {g : Nat} {p : List UInt8} {k : Nat} {y : Int} (h : RdIs L w g p k y) {B : Nat} {W : World} (hB : Below B W w) (hg : w.grownBy w' (some g)) (hL : B ≤ L) (hs : B ≤ w.heap.size) : Below B W w' :=
  hB.grown hg hs (fun k e => by injection e with e; subst e; exact Nat.le_trans hL h.low)
theorem numL_300 : numL [172, 2, 5] = some (300, 2) := by decide
theorem numL_5 : numL [5] = some (5, 1) := by decide
theorem rdC_300 : rdC [172, 2, 5] 0 0 9223372036854775807 = (300, 2, 0) := by decide
theorem rdC_5 : rdC [172, 2, 5] 2 0 9223372036854775807 = (5, 3, 0) := by decide
theorem doneL_3 : doneL [172, 2, 5] 3 0 = 0 := by decide
theorem puts_300 : putsL [300, 5] = [172, 2, 5] := by
  have e1 : putL 300 = [172, 2] := by rw [putL_ge (by decide), putL_lt (by decide)]; decide
  have e2 : putL 5 = [5] := by rw [putL_lt (by decide)]; decide
  show putL 300 ++ (putL 5 ++ []) = _
  rw [e1, e2]; rfl

set_option maxRecDepth 100000 in
set_option maxHeartbeats 2000000 in
/-- The program answers. -/
theorem awake_any (w : World) : Calls Try.prog 14 #[] w fun e w' => e = .returned (.bool true) ∧ Below w.heap.size w w' := by
  have HI : Hid (∀ W : World, IsB (W.alloc (.cells #[.int .u8 172, .int .u8 2, .int .u8 5] 5)) (.slice (some ⟨W.heap.size, 0, none⟩) 3 3) [172, 2, 5]) := fun W => by
    refine ⟨_, 3, rfl, by decide, by decide, .inr ⟨W.heap.size, 0, rfl, fun i hi => ?_⟩⟩
    have hi' : i < 3 := hi
    match i, hi' with
    | 0, _ => simp [go_sem]
    | 1, _ => simp [go_sem]
    | 2, _ => simp [go_sem]
  have HJ : Hid (∀ W : World, IsI (W.alloc (.cells #[.int .i64 300, .int .i64 5] 3)) (.slice (some ⟨W.heap.size, 0, none⟩) 2 2) [300, 5]) := fun W => by
    refine ⟨_, 2, rfl, by decide, by decide, .inr ⟨W.heap.size, 0, rfl, fun i hi => ?_⟩⟩
    have hi' : i < 2 := hi
    match i, hi' with
    | 0, _ => simp [go_sem]
    | 1, _ => simp [go_sem]
  go_enter Try.func14, Try.ntmps14
  go_wp2_with fail
  refine (new_any _ [172, 2, 5] _ (HI.out _)).mono ?_
  rintro e w1 ⟨g, rfl, hr1, hb1⟩
  have HB1 : Hid (Below w.heap.size w w1) := ((Below.refl _ _).alloc (Nat.le_refl _) _).trans (hb1.mono (by simp))
  have HR1 : Hid (RdIs w.heap.size w1 g [172, 2, 5] 0 0) := hr1.low' (by simp)
  clear hr1 hb1
  go_wp2_with fail
  refine (num_rd _ g _ _ _ _ HR1.out).mono ?_
  rintro e w2 ⟨rfl, hr2, hg2⟩
  rw [rdC_300] at hr2 ⊢
  have HR2 : Hid (RdIs w.heap.size w2 g [172, 2, 5] 2 0) := hr2
  have HB2 : Hid (Below w.heap.size w w2) := HR1.out.grows HB1.out hg2 (Nat.le_refl _) HB1.out.size
  clear hr2 hg2
  go_wp2_with fail
  refine (num_rd _ g _ _ _ _ HR2.out).mono ?_
  rintro e w3 ⟨rfl, hr3, hg3⟩
  rw [rdC_5] at hr3 ⊢
  have HR3 : Hid (RdIs w.heap.size w3 g [172, 2, 5] 3 0) := hr3
  have HB3 : Hid (Below w.heap.size w w3) := HR2.out.grows HB2.out hg3 (Nat.le_refl _) HB2.out.size
  clear hr3 hg3
  go_wp2_with fail
  refine (done_any _ g _ _ _ _ HR3.out).mono ?_
  rintro e w4 ⟨rfl, m, rfl⟩
  rw [doneL_3]
  have HB4 : Hid (Below w.heap.size w (w3.drewN m)) := below_drewN HB3.out m
  go_wp2_with fail
  refine (put_any _ _ [] [300, 5] _ (IsB.non _) (HJ.out _) (by decide) (by rw [puts_300]; decide)).mono ?_
  rintro e w5 ⟨v5, rfl, ho5, hb5⟩
  rw [puts_300, List.nil_append] at ho5
  obtain ⟨a5, c5, rfl⟩ := ho5.form
  have hcv : (convert 22 9 (.slice a5 3 c5)).run Try.prog w5 = .ok (.string ⟨#[172, 2, 5]⟩) w5 := conv_txt (ho5.isB (by decide))
  have hsz := HB4.out.size
  have HB5 : Hid (Below w.heap.size w w5) := (HB4.out.alloc hsz _).trans (hb5.mono (by simpa using Nat.le_succ_of_le hsz))
  clear ho5 hb5
  go_wp2
  go_ret
  exact ⟨rfl, HB5.out⟩

end Go.Proofs.Ytfjejobakknipaa
