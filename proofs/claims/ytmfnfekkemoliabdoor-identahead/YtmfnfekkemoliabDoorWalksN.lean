/- What Next and Seen do, of any numbers and any stamp: no condition but that the numbers are ints. -/
import Derived.Test.YtmfnfekkemoliabDoorWalksA
namespace Go.Proofs.YtmfnfekkemoliabDoor
open Go.RowKit
set_option linter.unusedVariables false

def nextC (n r : Int) : Int := if 0 ≤ n ∧ n < 1099511627776 ∧ 0 ≤ r ∧ r < 64 then n + 1 else 0
def nextR (n r : Int) : Int := if 0 ≤ n ∧ n < 1099511627776 ∧ 0 ≤ r ∧ r < 64 then r else 0
def nextE (n r : Int) : Int := if 0 ≤ n ∧ n ≤ 1099511627776 ∧ 0 ≤ r ∧ r < 64 then (if n = 1099511627776 then 6 else 0) else 1
theorem ret_ii {a b a2 b2 : Int} (h : a = a2) (h2 : b = b2) : Ending.returned (.tuple #[.int .i64 a, .int .i64 b]) = .returned (.tuple #[.int .i64 a2, .int .i64 b2]) := by rw [h, h2]
def maxI (a b : Int) : Int := if a < b then b else a
def seenN (n c r : Int) : Int := if 0 ≤ n ∧ n ≤ 1099511627776 ∧ rightB c r = true then maxI n c else 0
def seenE (n c r : Int) : Int := if 0 ≤ n ∧ n ≤ 1099511627776 then (if rightB c r = true then 0 else 2) else 1

set_option maxHeartbeats 400000 in
theorem next_any (n r : Int) (w : World) :
    Calls Tryd.prog 12 #[.int .i64 n, .int .i64 r] w fun e w' => e = .returned (.tuple #[.agg #[.int .i64 (nextC n r), .int .i64 (nextR n r)], .int .i64 (nextE n r)]) ∧ Below w.heap.size w w' := by
  cases h0 : seenB n
  · have H1 : Hid (nextC n r = 0) := by show nextC n r = 0; simp [nextC]; (unfold seenB at h0; simp at h0; omega)
    have H2 : Hid (nextR n r = 0) := by show nextR n r = 0; simp [nextR]; (unfold seenB at h0; simp at h0; omega)
    have H3 : Hid (nextE n r = 1) := by show nextE n r = 1; simp [nextE]; (unfold seenB at h0; simp at h0; omega)
    go_enter Tryd.func12, Tryd.ntmps12
    go_wp2_with (first
      | (go_at_call 19; refine (isSeen_any _ _).mono ?_; rintro e w' ⟨rfl, rfl⟩)
      | (go_at_call 20; refine (isReplica_any _ _).mono ?_; rintro e w' ⟨rfl, rfl⟩)
      | (go_at_call 13; refine (right_any _ _ _).mono ?_; rintro e w' ⟨rfl, rfl⟩))
    exact bodyPost_ret (v := .tuple #[.agg #[.int .i64 (0), .int .i64 (0)], .int .i64 1]) (by simp [results, Tryd.results12, go_sem]) rfl ⟨by rw [H1.out, H2.out, H3.out], (by repeat (first | exact Below.refl _ _ | refine Below.alloc ?_ (by first | exact Nat.le_refl _ | omega | (simp; done) | (simp; omega)) _ | refine Below.setCell ?_ (by first | exact Nat.le_refl _ | omega | (simp; done) | (simp; omega)) _ | refine Below.drew ?_))⟩
  · cases h1 : replB r
    · have H1 : Hid (nextC n r = 0) := by show nextC n r = 0; simp [nextC]; (unfold replB at h1; simp at h1; omega)
      have H2 : Hid (nextR n r = 0) := by show nextR n r = 0; simp [nextR]; (unfold replB at h1; simp at h1; omega)
      have H3 : Hid (nextE n r = 1) := by show nextE n r = 1; simp [nextE]; (unfold replB at h1; simp at h1; omega)
      go_enter Tryd.func12, Tryd.ntmps12
      go_wp2_with (first
      | (go_at_call 19; refine (isSeen_any _ _).mono ?_; rintro e w' ⟨rfl, rfl⟩)
      | (go_at_call 20; refine (isReplica_any _ _).mono ?_; rintro e w' ⟨rfl, rfl⟩)
      | (go_at_call 13; refine (right_any _ _ _).mono ?_; rintro e w' ⟨rfl, rfl⟩))
      exact bodyPost_ret (v := .tuple #[.agg #[.int .i64 (0), .int .i64 (0)], .int .i64 1]) (by simp [results, Tryd.results12, go_sem]) rfl ⟨by rw [H1.out, H2.out, H3.out], (by repeat (first | exact Below.refl _ _ | refine Below.alloc ?_ (by first | exact Nat.le_refl _ | omega | (simp; done) | (simp; omega)) _ | refine Below.setCell ?_ (by first | exact Nat.le_refl _ | omega | (simp; done) | (simp; omega)) _ | refine Below.drew ?_))⟩
    · by_cases h2 : n = 1099511627776
      · subst h2
        have H1 : Hid (nextC 1099511627776 r = 0) := by show nextC 1099511627776 r = 0; simp [nextC]
        have H2 : Hid (nextR 1099511627776 r = 0) := by show nextR 1099511627776 r = 0; simp [nextR]
        have H3 : Hid (nextE 1099511627776 r = 6) := by unfold replB at h1; simp at h1; show nextE 1099511627776 r = 6; simp [nextE]; omega
        go_enter Tryd.func12, Tryd.ntmps12
        go_wp2_with (first
      | (go_at_call 19; refine (isSeen_any _ _).mono ?_; rintro e w' ⟨rfl, rfl⟩)
      | (go_at_call 20; refine (isReplica_any _ _).mono ?_; rintro e w' ⟨rfl, rfl⟩)
      | (go_at_call 13; refine (right_any _ _ _).mono ?_; rintro e w' ⟨rfl, rfl⟩))
        exact bodyPost_ret (v := .tuple #[.agg #[.int .i64 (0), .int .i64 (0)], .int .i64 6]) (by simp [results, Tryd.results12, go_sem]) rfl ⟨by rw [H1.out, H2.out, H3.out], (by repeat (first | exact Below.refl _ _ | refine Below.alloc ?_ (by first | exact Nat.le_refl _ | omega | (simp; done) | (simp; omega)) _ | refine Below.setCell ?_ (by first | exact Nat.le_refl _ | omega | (simp; done) | (simp; omega)) _ | refine Below.drew ?_))⟩
      · have h3 : (n == 1099511627776) = false := by simp; omega
        have b : 0 ≤ n ∧ n < 1099511627776 := by unfold seenB at h0; simp at h0; omega
        have b2 : 0 ≤ r ∧ r < 64 := by unfold replB at h1; simp at h1; omega
        have H1 : Hid (nextC n r = n + 1) := by show nextC n r = n + 1; unfold nextC; rw [if_pos (by omega)]
        have H2 : Hid (nextR n r = r) := by show nextR n r = r; unfold nextR; rw [if_pos (by omega)]
        have H3 : Hid (nextE n r = 0) := by show nextE n r = 0; unfold nextE; rw [if_pos (by omega), if_neg h2]
        obtain ⟨b3, b4⟩ := b
        clear h2
        go_enter Tryd.func12, Tryd.ntmps12
        go_wp2_with (first
      | (go_at_call 19; refine (isSeen_any _ _).mono ?_; rintro e w' ⟨rfl, rfl⟩)
      | (go_at_call 20; refine (isReplica_any _ _).mono ?_; rintro e w' ⟨rfl, rfl⟩)
      | (go_at_call 13; refine (right_any _ _ _).mono ?_; rintro e w' ⟨rfl, rfl⟩))
        exact bodyPost_ret (v := .tuple #[.agg #[.int .i64 (n + 1), .int .i64 (r)], .int .i64 0]) (by simp [results, Tryd.results12, go_sem]) rfl ⟨by rw [H1.out, H2.out, H3.out], (by repeat (first | exact Below.refl _ _ | refine Below.alloc ?_ (by first | exact Nat.le_refl _ | omega | (simp; done) | (simp; omega)) _ | refine Below.setCell ?_ (by first | exact Nat.le_refl _ | omega | (simp; done) | (simp; omega)) _ | refine Below.drew ?_))⟩

set_option maxHeartbeats 400000 in
theorem seen_any (n c r : Int) (w : World) :
    Calls Tryd.prog 11 #[.int .i64 n, .agg #[.int .i64 c, .int .i64 r]] w fun e w' => e = .returned (.tuple #[.int .i64 (seenN n c r), .int .i64 (seenE n c r)]) ∧ Below w.heap.size w w' := by
  cases h0 : seenB n
  · have b : ¬ (0 ≤ n ∧ n ≤ 1099511627776) := by unfold seenB at h0; simp at h0; omega
    have H1 : Hid (seenN n c r = 0) := by show seenN n c r = 0; unfold seenN; rw [if_neg (by omega)]
    have H2 : Hid (seenE n c r = 1) := by show seenE n c r = 1; unfold seenE; rw [if_neg (by omega)]
    clear b
    go_enter Tryd.func11, Tryd.ntmps11
    go_wp2_with (first
      | (go_at_call 19; refine (isSeen_any _ _).mono ?_; rintro e w' ⟨rfl, rfl⟩)
      | (go_at_call 20; refine (isReplica_any _ _).mono ?_; rintro e w' ⟨rfl, rfl⟩)
      | (go_at_call 13; refine (right_any _ _ _).mono ?_; rintro e w' ⟨rfl, rfl⟩))
    go_ret2
    exact ⟨ret_ii H1.out.symm H2.out.symm, (by repeat (first | exact Below.refl _ _ | refine Below.alloc ?_ (by first | exact Nat.le_refl _ | omega | (simp; done) | (simp; omega)) _ | refine Below.setCell ?_ (by first | exact Nat.le_refl _ | omega | (simp; done) | (simp; omega)) _ | refine Below.drew ?_))⟩
  · have b : 0 ≤ n ∧ n ≤ 1099511627776 := by unfold seenB at h0; simp at h0; omega
    cases h1 : rightB c r
    · have H1 : Hid (seenN n c r = 0) := by show seenN n c r = 0; unfold seenN; rw [if_neg (by simp [h1])]
      have H2 : Hid (seenE n c r = 2) := by show seenE n c r = 2; unfold seenE; rw [if_pos b, if_neg (by simp [h1])]
      clear b
      go_enter Tryd.func11, Tryd.ntmps11
      go_wp2_with (first
      | (go_at_call 19; refine (isSeen_any _ _).mono ?_; rintro e w' ⟨rfl, rfl⟩)
      | (go_at_call 20; refine (isReplica_any _ _).mono ?_; rintro e w' ⟨rfl, rfl⟩)
      | (go_at_call 13; refine (right_any _ _ _).mono ?_; rintro e w' ⟨rfl, rfl⟩))
      go_ret2
      exact ⟨ret_ii H1.out.symm H2.out.symm, (by repeat (first | exact Below.refl _ _ | refine Below.alloc ?_ (by first | exact Nat.le_refl _ | omega | (simp; done) | (simp; omega)) _ | refine Below.setCell ?_ (by first | exact Nat.le_refl _ | omega | (simp; done) | (simp; omega)) _ | refine Below.drew ?_))⟩
    · have H1 : Hid (seenN n c r = maxI n c) := by show seenN n c r = maxI n c; unfold seenN; rw [if_pos ⟨b.1, b.2, h1⟩]
      have H2 : Hid (seenE n c r = 0) := by show seenE n c r = 0; unfold seenE; rw [if_pos b, if_pos h1]
      clear b
      by_cases h2 : n < c
      · go_enter Tryd.func11, Tryd.ntmps11
        go_wp2_with (first
      | (go_at_call 19; refine (isSeen_any _ _).mono ?_; rintro e w' ⟨rfl, rfl⟩)
      | (go_at_call 20; refine (isReplica_any _ _).mono ?_; rintro e w' ⟨rfl, rfl⟩)
      | (go_at_call 13; refine (right_any _ _ _).mono ?_; rintro e w' ⟨rfl, rfl⟩))
        go_ret2
        exact ⟨ret_ii (H1.out.trans (by unfold maxI; first | rw [if_pos (by omega)] | rw [if_neg (by omega)])).symm H2.out.symm, (by repeat (first | exact Below.refl _ _ | refine Below.alloc ?_ (by first | exact Nat.le_refl _ | omega | (simp; done) | (simp; omega)) _ | refine Below.setCell ?_ (by first | exact Nat.le_refl _ | omega | (simp; done) | (simp; omega)) _ | refine Below.drew ?_))⟩
      · go_enter Tryd.func11, Tryd.ntmps11
        go_wp2_with (first
      | (go_at_call 19; refine (isSeen_any _ _).mono ?_; rintro e w' ⟨rfl, rfl⟩)
      | (go_at_call 20; refine (isReplica_any _ _).mono ?_; rintro e w' ⟨rfl, rfl⟩)
      | (go_at_call 13; refine (right_any _ _ _).mono ?_; rintro e w' ⟨rfl, rfl⟩))
        go_ret2
        exact ⟨ret_ii (H1.out.trans (by unfold maxI; first | rw [if_pos (by omega)] | rw [if_neg (by omega)])).symm H2.out.symm, (by repeat (first | exact Below.refl _ _ | refine Below.alloc ?_ (by first | exact Nat.le_refl _ | omega | (simp; done) | (simp; omega)) _ | refine Below.setCell ?_ (by first | exact Nat.le_refl _ | omega | (simp; done) | (simp; omega)) _ | refine Below.drew ?_))⟩

end Go.Proofs.YtmfnfekkemoliabDoor
