/- The program answers (first, awake). -/
import Derived.Test.YtcnolipgmpjcbabOlV5
namespace Go.Proofs.Ytcnolipgmpjcbab
open Go.RowKit
set_option linter.unusedVariables false
set_option linter.unusedSimpArgs false

def firstC : Ch := ⟨1, 0, 1, [], 1, 1, 0, 0, 0, 0, 0, ⟨#[112]⟩, ⟨#[]⟩⟩
theorem first_sized : Sized firstC := ⟨by decide, by decide⟩
theorem why_first : whyR [] 3 firstC = 0 := by decide +kernel
theorem why_first2 : whyR [firstC] 3 firstC = 5 := by decide +kernel
theorem add_first : addL [] 3 firstC = [firstC] := by unfold addL; rw [if_pos why_first]; rfl
theorem add_first2 : addL [firstC] 3 firstC = [firstC] := by unfold addL; rw [if_neg (by rw [why_first2]; decide)]

set_option maxRecDepth 100000 in
set_option maxHeartbeats 2000000 in
theorem first_any (w : World) : Calls Try.prog 15 #[] w fun e w' => e = .returned (chV firstC (.slice none 0 0)) ∧ Below w.heap.size w w' := by
  go_enter Try.func15, Try.ntmps15
  go_wp2
  (try simp only [Exit.inBlock, Exit.then])
  refine bodyPost_ret (v := chV firstC (.slice none 0 0)) ?res rfl ?post
  case res => exact results_cell_row rfl _ _ w.heap.size _ _ _ _ rfl ((Below.heap_alloc _ _ _ (by simp)).trans (heap_alloc_new w _)) Try.underlying33 rfl (by kernel_rfl)
  exact ⟨rfl, ((Below.refl _ _).alloc (Nat.le_refl _) _).alloc (by simp) _⟩

set_option maxRecDepth 100000 in
set_option maxHeartbeats 4000000 in
theorem awake_any (w : World) : Calls Try.prog 5 #[] w fun e w' => e = .returned (.bool true) ∧ Below w.heap.size w w' := by
  have HF : Hid (∀ W, Calls Try.prog 15 #[] W fun e w' => e = .returned (chV firstC (.slice none 0 0)) ∧ Below W.heap.size W w') := fun W => first_any W
  go_enter Try.func5, Try.ntmps5
  go_wp2_with fail
  refine (new_any 3 _).mono ?_
  rintro e w1 ⟨h, hb1⟩
  rcases h with ⟨h, _⟩ | ⟨_, lb, F, rfl, hL, hF⟩
  · omega
  have HL : Hid (LogOk F w1 lb 3 []) := hL
  have HB1 : Hid (Below w.heap.size w w1) := hb1
  have HFn : Hid (∀ k, F k → w.heap.size ≤ k) := hF
  clear hL hb1 hF
  go_wp2_with fail
  refine (HF.out _).mono ?_
  rintro e w2 ⟨rfl, hb2⟩
  replace HL : Hid (LogOk F w2 lb 3 []) := HL.out.below hb2
  have HB2 : Hid (Below w.heap.size w w2) := HB1.out.trans (hb2.mono HB1.out.size)
  clear hb2 HB1
  go_wp2_with fail
  refine (add_any F lb 3 [] firstC (.slice none 0 0) _ HL.out Good.none (by simp) (by omega) (IsI.non 0) first_sized).mono ?_
  rintro e w3 ⟨rfl, F3, hL3, hf1, hf2, ht⟩
  rw [why_first]
  rw [add_first] at hL3
  have HL3 : Hid (LogOk F3 w3 lb 3 [firstC]) := hL3
  have HB3 : Hid (Below w.heap.size w w3) := HB2.out.trans (ht.below HFn.out HB2.out.size)
  have HF3 : Hid (∀ k, F3 k → w.heap.size ≤ k) := fun k hk => by
    rcases hf2 k hk with h | h
    · exact HFn.out k h
    · exact Nat.le_trans HB2.out.size h
  clear hL3 hf1 hf2 ht HL HB2 HFn
  go_wp2_with fail
  refine (HF.out _).mono ?_
  rintro e w4 ⟨rfl, hb4⟩
  replace HL3 : Hid (LogOk F3 w4 lb 3 [firstC]) := HL3.out.below hb4
  have HB4 : Hid (Below w.heap.size w w4) := HB3.out.trans (hb4.mono HB3.out.size)
  clear hb4 HB3
  go_wp2_with fail
  refine (add_any F3 lb 3 [firstC] firstC (.slice none 0 0) _ HL3.out (by rw [← add_first]; exact addL_good Good.none 3 firstC) (by simp) (by omega) (IsI.non 0) first_sized).mono ?_
  rintro e w5 ⟨rfl, F5, hL5, hf1, hf2, ht⟩
  rw [why_first2]
  rw [add_first2] at hL5
  have HL5 : Hid (LogOk F5 w5 lb 3 [firstC]) := hL5
  have HB5 : Hid (Below w.heap.size w w5) := HB4.out.trans (ht.below HF3.out HB4.out.size)
  clear hL5 hf1 hf2 ht HL3 HB4 HF3
  go_wp2_with fail
  refine (len_any _ 3 [firstC] F5 _ HL5.out.v).mono ?_
  rintro e w6 ⟨rfl, hb6⟩
  have HL6 : Hid (LogOk F5 w6 lb 3 [firstC]) := HL5.out.below hb6
  have HB6 : Hid (Below w.heap.size w w6) := HB5.out.trans (hb6.mono HB5.out.size)
  clear hb6 HB5 HL5
  rw [show ((([firstC] : List Ch).length : Nat) : Int) = 1 from rfl]
  go_wp2_with fail
  refine (last_any _ 3 [firstC] F5 _ HL6.out.v (by simp)).mono ?_
  rintro e w7 ⟨rfl, hb7⟩
  have HB7 : Hid (Below w.heap.size w w7) := HB6.out.trans (hb7.mono HB6.out.size)
  clear hb7 HB6 HL6
  rw [show lastL [firstC] = 1 from rfl]
  go_wp2
  go_ret
  exact ⟨rfl, HB7.out⟩

end Go.Proofs.Ytcnolipgmpjcbab
