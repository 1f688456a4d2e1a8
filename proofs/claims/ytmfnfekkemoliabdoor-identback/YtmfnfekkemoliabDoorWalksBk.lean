/- The walk of IdentBack: for every stamp and every text it returns true. -/
import Derived.Test.YtmfnfekkemoliabDoorWalksV
import Derived.Test.YtmfnfekkemoliabDoorWalksC
namespace Go.Proofs.YtmfnfekkemoliabDoor
open Go.RowKit
set_option linter.unusedVariables false

theorem textE_cases (c r : Int) : textE c r = 0 ∨ textE c r = 2 := by
  unfold textE; repeat' split
  all_goals simp
theorem rootB_iff (c r : Int) : rootB c r = true ↔ c = 0 ∧ r = 0 := by simp [rootB]
theorem trashB_iff (c r : Int) : trashB c r = true ↔ c = 0 ∧ r = 1 := by simp [trashB]
theorem parse_text (c r : Int) (h : textE c r = 0) : ParseIs (textL c r) c r 0 := by
  unfold textE at h
  unfold textL
  split
  · rename_i h0
    obtain ⟨rfl, rfl⟩ := (rootB_iff c r).1 h0
    exact .inl ⟨rfl, rfl, rfl, rfl⟩
  · rename_i h0
    rw [if_neg h0] at h
    split
    · rename_i h1
      obtain ⟨rfl, rfl⟩ := (trashB_iff c r).1 h1
      exact .inr (.inl ⟨rfl, rfl, rfl, rfl⟩)
    · rename_i h1
      rw [if_neg h1] at h
      split
      · rename_i h2
        exact .inr (.inr (.inl ⟨(rightP_iff c r).1 h2, rfl, rfl⟩))
      · rename_i h2
        rw [if_neg h2] at h
        cases h
theorem parse_cases {l : List UInt8} {c r k : Int} (h : ParseIs l c r k) : (k = 0 ∧ textL c r = l ∧ textE c r = 0) ∨ k = 2 := by
  rcases h with ⟨e, rfl, rfl, rfl⟩ | ⟨e, rfl, rfl, rfl⟩ | ⟨hr, e, rfl⟩ | ⟨_, _, _, rfl⟩
  · left; rw [e]; exact ⟨rfl, rfl, rfl⟩
  · left; rw [e]; exact ⟨rfl, rfl, rfl⟩
  · left
    have h2 := (rightP_iff c r).2 hr
    unfold RightP at hr
    have h0 : ¬ rootB c r = true := fun h => by have := (rootB_iff c r).1 h; omega
    have h1 : ¬ trashB c r = true := fun h => by have := (trashB_iff c r).1 h; omega
    unfold textL textE
    rw [if_neg h0, if_neg h1, if_pos h2, if_neg h0, if_neg h1, if_pos h2]
    exact ⟨rfl, e.symm, rfl⟩
  · exact .inr rfl
theorem textL_size (c r : Int) : (⟨(textL c r).toArray⟩ : ByteArray).size ≤ 281474976710656 := by
  show (textL c r).toArray.size ≤ _
  rw [List.size_toArray]
  unfold textL
  repeat' split
  · simp [rootL]
  · simp [trashL]
  · rename_i h
    have hb := (rightP_iff c r).1 h
    unfold RightP at hb
    have l1 := Lib.itoa_length_le c (by omega) (by omega)
    have l2 := Lib.itoa_length_le r (by omega) (by omega)
    unfold stampL
    simp
    omega
  · simp

set_option maxHeartbeats 1000000 in
theorem identBack_walk (c r : Int) (t : ByteArray) (w : World) (_ : (Lit.int .i64 c).wf = true) (_ : (Lit.int .i64 r).wf = true) (ht : t.size ≤ 281474976710656) (he : Env w) :
    Calls Tryd.prog 4 #[.agg #[.int .i64 c, .int .i64 r], .string t] w fun e w' => e = .returned (.bool true) ∧ Below w.heap.size w w' := by
  go_enter Tryd.func4, Tryd.ntmps4
  go_wp2_with fail
  refine (text_any _ _ _ (he.below ((Below.refl _ _).alloc (Nat.le_refl _) _))).mono ?_
  rintro e w1 ⟨rfl, hb1⟩
  have hc1 := fun (b o : Nat) (h : b < _) => hb1.cell (p := ⟨b, o, none⟩) h
  have z1 : w.heap.size < w1.heap.size := by have := hb1.size; simp at this; omega
  have bel1 : Below w.heap.size w w1 := ((Below.refl _ _).alloc (Nat.le_refl _) _).trans (hb1.mono (by simp))
  -- from a world on, in which the first half has been passed
  rcases textE_cases c r with h0 | h0
  · have hp := parse_text c r h0
    have hz := textL_size c r
    have HP : Hid (ParseIs (textL c r) c r 0) := hp
    clear hp
    go_wp2_with fail
    refine (parse_any _ hz _ (he.below bel1)).mono ?_
    rintro e w2 ⟨c2, r2, k2, rfl, h1, hb2⟩
    obtain ⟨rfl, rfl, rfl⟩ := ParseIs.unique HP.out (by simpa using h1)
    clear h1
    have hc2 := fun (b o : Nat) (h : b < _) => hb2.cell (p := ⟨b, o, none⟩) h
    have z2 : w.heap.size < w2.heap.size := by have := hb2.size; omega
    have bel2 : Below w.heap.size w w2 := bel1.trans (hb2.mono (by omega))
    have bel3 := bel2.alloc (Nat.le_of_lt z2) (.cells #[.int .i64 c, .int .i64 r] 23)
    go_wp2_with fail
    refine (parse_any t ht _ (he.below bel3)).mono ?_
    rintro e w4 ⟨c2, r2, k2, rfl, h1, hb4⟩
    have bel4 : Below w.heap.size w w4 := bel3.trans (hb4.mono (by simp; omega))
    have z4 : w.heap.size < w4.heap.size := by have := hb4.size; simp at this; omega
    rcases parse_cases h1 with ⟨rfl, e1, e2⟩ | rfl
    · have q : (textL c2 r2 == t.toList) = true := by rw [ByteArray.toList_eq, e1]; simp
      clear h1 e1
      have bel5 := bel4.alloc (Nat.le_of_lt z4) (.cells #[.int .i64 c2, .int .i64 r2] 23)
      go_wp2_with fail
      refine (text_any _ _ _ (he.below bel5)).mono ?_
      rintro e w6 ⟨rfl, hb6⟩
      have bel6 : Below w.heap.size w w6 := bel5.trans (hb6.mono (by simp; omega))
      have z6 : w.heap.size < w6.heap.size := by have := hb6.size; simp at this; omega
      go_wp2_with fail
      refine (awake_any _).mono ?_
      rintro e w7 ⟨rfl, hb7⟩
      go_wp2
      go_ret
      exact ⟨rfl, bel6.trans (hb7.mono (by omega))⟩
    · clear h1
      go_wp2_with fail
      refine (awake_any _).mono ?_
      rintro e w7 ⟨rfl, hb7⟩
      go_wp2
      go_ret
      exact ⟨rfl, (bel4.alloc (Nat.le_of_lt z4) _).trans (hb7.mono (by simp; omega))⟩
  · go_wp2_with fail
    refine (parse_any t ht _ (he.below bel1)).mono ?_
    rintro e w4 ⟨c2, r2, k2, rfl, h1, hb4⟩
    have bel4 : Below w.heap.size w w4 := bel1.trans (hb4.mono (by omega))
    have z4 : w.heap.size < w4.heap.size := by have := hb4.size; omega
    rcases parse_cases h1 with ⟨rfl, e1, e2⟩ | rfl
    · have q : (textL c2 r2 == t.toList) = true := by rw [ByteArray.toList_eq, e1]; simp
      clear h1 e1
      have bel5 := bel4.alloc (Nat.le_of_lt z4) (.cells #[.int .i64 c2, .int .i64 r2] 23)
      go_wp2_with fail
      refine (text_any _ _ _ (he.below bel5)).mono ?_
      rintro e w6 ⟨rfl, hb6⟩
      have bel6 : Below w.heap.size w w6 := bel5.trans (hb6.mono (by simp; omega))
      have z6 : w.heap.size < w6.heap.size := by have := hb6.size; simp at this; omega
      go_wp2_with fail
      refine (awake_any _).mono ?_
      rintro e w7 ⟨rfl, hb7⟩
      go_wp2
      go_ret
      exact ⟨rfl, bel6.trans (hb7.mono (by omega))⟩
    · clear h1
      go_wp2_with fail
      refine (awake_any _).mono ?_
      rintro e w7 ⟨rfl, hb7⟩
      go_wp2
      go_ret
      exact ⟨rfl, (bel4.alloc (Nat.le_of_lt z4) _).trans (hb7.mono (by simp; omega))⟩

end Go.Proofs.YtmfnfekkemoliabDoor
