/- The walk of IdentAhead. -/
import Derived.Test.YtmfnfekkemoliabDoorWalksC
import Derived.Test.YtmfnfekkemoliabDoorWalksD
import Derived.Test.YtmfnfekkemoliabDoorWalksN
namespace Go.Proofs.YtmfnfekkemoliabDoor
open Go.RowKit
set_option linter.unusedVariables false

set_option maxHeartbeats 1000000 in
theorem ahead_err1 (n q c r : Int) (w : World) (k : Int) (hk : k = 1 ∨ k = 2 ∨ k = 6) (e1 : seenN n c r = 0) (e2 : seenE n c r = k) (hq : (0 ≤ q ∧ q < 64)) :
    Calls Tryd.prog 5 #[.int .i64 n, .int .i64 q, .agg #[.int .i64 c, .int .i64 r]] w fun e w' => e = .returned (.bool true) ∧ Below w.heap.size w w' := by
  have f1 : nextC 0 q = 1 := by unfold nextC; rw [if_pos (by omega)]; rfl
  have f2 : nextR 0 q = q := by unfold nextR; rw [if_pos (by omega)]
  have f3 : nextE 0 q = 0 := by unfold nextE; rw [if_pos (by omega)]; rfl
  clear hq
  rcases hk with rfl | rfl | rfl
  all_goals
    go_enter Tryd.func5, Tryd.ntmps5
    go_wp2_with fail
    refine (seen_any _ _ _ _).mono ?_
    rintro e w1 ⟨rfl, hb1⟩
    have hc1 := fun (b o : Nat) (h : b < _) => hb1.cell (p := ⟨b, o, none⟩) h
    have z1 : w.heap.size < w1.heap.size := by have := hb1.size; simp at this; omega
    go_wp2_with fail
    refine (next_any _ _ _).mono ?_
    rintro e w2 ⟨rfl, hb2⟩
    have hc2 := fun (b o : Nat) (h : b < _) => hb2.cell (p := ⟨b, o, none⟩) h
    have z2 : w.heap.size < w2.heap.size := by have := hb2.size; omega
    have bel : Below w.heap.size w w2 := by
      refine Below.trans ?_ (hb2.mono (by omega))
      refine Below.trans ?_ (hb1.mono (by simp))
      exact (Below.refl _ _).alloc (Nat.le_refl _) _
    go_wp2_with fail
    refine (awake_any _).mono ?_
    rintro e w3 ⟨rfl, hb3⟩
    go_wp2
    go_ret
    exact ⟨rfl, (bel.alloc (by omega) _).trans (hb3.mono (by simp; omega))⟩

set_option maxHeartbeats 1000000 in
theorem ahead_err2 (n q c r : Int) (w : World) (k : Int) (hk : k = 1 ∨ k = 2 ∨ k = 6) (e1 : seenN n c r = 0) (e2 : seenE n c r = k) (hq : ¬ (0 ≤ q ∧ q < 64)) :
    Calls Tryd.prog 5 #[.int .i64 n, .int .i64 q, .agg #[.int .i64 c, .int .i64 r]] w fun e w' => e = .returned (.bool true) ∧ Below w.heap.size w w' := by
  have f1 : nextC 0 q = 0 := by unfold nextC; rw [if_neg (by omega)]
  have f2 : nextR 0 q = 0 := by unfold nextR; rw [if_neg (by omega)]
  have f3 : nextE 0 q = 1 := by unfold nextE; rw [if_neg (by omega)]
  clear hq
  rcases hk with rfl | rfl | rfl
  all_goals
    go_enter Tryd.func5, Tryd.ntmps5
    go_wp2_with fail
    refine (seen_any _ _ _ _).mono ?_
    rintro e w1 ⟨rfl, hb1⟩
    have hc1 := fun (b o : Nat) (h : b < _) => hb1.cell (p := ⟨b, o, none⟩) h
    have z1 : w.heap.size < w1.heap.size := by have := hb1.size; simp at this; omega
    go_wp2_with fail
    refine (next_any _ _ _).mono ?_
    rintro e w2 ⟨rfl, hb2⟩
    have hc2 := fun (b o : Nat) (h : b < _) => hb2.cell (p := ⟨b, o, none⟩) h
    have z2 : w.heap.size < w2.heap.size := by have := hb2.size; omega
    have bel : Below w.heap.size w w2 := by
      refine Below.trans ?_ (hb2.mono (by omega))
      refine Below.trans ?_ (hb1.mono (by simp))
      exact (Below.refl _ _).alloc (Nat.le_refl _) _
    go_wp2_with fail
    refine (awake_any _).mono ?_
    rintro e w3 ⟨rfl, hb3⟩
    go_wp2
    go_ret
    exact ⟨rfl, (bel.alloc (by omega) _).trans (hb3.mono (by simp; omega))⟩

set_option maxHeartbeats 1000000 in
theorem ahead_bad (n q c r : Int) (w : World) (m k : Int) (hk : k = 1 ∨ k = 2 ∨ k = 6) (e1 : seenN n c r = m) (e2 : seenE n c r = 0) (f1 : nextC m q = 0) (f2 : nextR m q = 0) (f3 : nextE m q = k) :
    Calls Tryd.prog 5 #[.int .i64 n, .int .i64 q, .agg #[.int .i64 c, .int .i64 r]] w fun e w' => e = .returned (.bool true) ∧ Below w.heap.size w w' := by
  rcases hk with rfl | rfl | rfl
  all_goals
    go_enter Tryd.func5, Tryd.ntmps5
    go_wp2_with fail
    refine (seen_any _ _ _ _).mono ?_
    rintro e w1 ⟨rfl, hb1⟩
    have hc1 := fun (b o : Nat) (h : b < _) => hb1.cell (p := ⟨b, o, none⟩) h
    have z1 : w.heap.size < w1.heap.size := by have := hb1.size; simp at this; omega
    go_wp2_with fail
    refine (next_any _ _ _).mono ?_
    rintro e w2 ⟨rfl, hb2⟩
    have hc2 := fun (b o : Nat) (h : b < _) => hb2.cell (p := ⟨b, o, none⟩) h
    have z2 : w.heap.size < w2.heap.size := by have := hb2.size; omega
    have bel : Below w.heap.size w w2 := by
      refine Below.trans ?_ (hb2.mono (by omega))
      refine Below.trans ?_ (hb1.mono (by simp))
      exact (Below.refl _ _).alloc (Nat.le_refl _) _
    go_wp2_with fail
    refine (awake_any _).mono ?_
    rintro e w3 ⟨rfl, hb3⟩
    go_wp2
    go_ret
    exact ⟨rfl, (bel.alloc (by omega) _).trans (hb3.mono (by simp; omega))⟩

set_option maxHeartbeats 1000000 in
theorem ahead_ok (n q c r : Int) (w : World) (m : Int) (hm : 0 ≤ m ∧ m < 1099511627776) (hc : c ≤ m) (hn : n ≤ m) (e1 : seenN n c r = m) (e2 : seenE n c r = 0) (hq : 0 ≤ q ∧ q < 64) :
    Calls Tryd.prog 5 #[.int .i64 n, .int .i64 q, .agg #[.int .i64 c, .int .i64 r]] w fun e w' => e = .returned (.bool true) ∧ Below w.heap.size w w' := by
  have f1 : nextC m q = m + 1 := by unfold nextC; rw [if_pos (by omega)]
  have f2 : nextR m q = q := by unfold nextR; rw [if_pos (by omega)]
  have f3 : nextE m q = 0 := by unfold nextE; rw [if_pos (by omega), if_neg (by omega)]
  have l1 : lessS c r (m + 1) q = true := by unfold lessS; simp; omega
  have l2 : n < m + 1 := by omega
  have l3 : rightB (m + 1) q = true := by unfold rightB; simp; omega
  obtain ⟨m1, m2⟩ := hm
  clear hq hc hn
  go_enter Tryd.func5, Tryd.ntmps5
  go_wp2_with fail
  refine (seen_any _ _ _ _).mono ?_
  rintro e w1 ⟨rfl, hb1⟩
  have hc1 := fun (b o : Nat) (h : b < _) => hb1.cell (p := ⟨b, o, none⟩) h
  have z1 : w.heap.size < w1.heap.size := by have := hb1.size; simp at this; omega
  go_wp2_with fail
  refine (next_any _ _ _).mono ?_
  rintro e w2 ⟨rfl, hb2⟩
  have hc2 := fun (b o : Nat) (h : b < _) => hb2.cell (p := ⟨b, o, none⟩) h
  have z2 : w.heap.size < w2.heap.size := by have := hb2.size; omega
  have bel : Below w.heap.size w w2 := by
    refine Below.trans ?_ (hb2.mono (by omega))
    refine Below.trans ?_ (hb1.mono (by simp))
    exact (Below.refl _ _).alloc (Nat.le_refl _) _
  have z3 : w.heap.size < w2.heap.size + 1 := by omega
  go_wp2_with fail
  refine (less_any _ _ _ _ _).mono ?_
  rintro e w3 ⟨rfl, hb3⟩
  have hc3 := fun (b o : Nat) (h : b < _) => hb3.cell (p := ⟨b, o, none⟩) h
  have z4 : w2.heap.size < w3.heap.size := by have := hb3.size; simp at this; omega
  go_wp2_with fail
  refine (right_any _ _ _).mono ?_
  rintro e w4 ⟨rfl, rfl⟩
  go_wp2_with fail
  refine (awake_any _).mono ?_
  rintro e w5 ⟨rfl, hb5⟩
  go_wp2
  go_ret
  refine ⟨rfl, ?_⟩
  refine Below.trans ?_ (hb5.mono (by simp; omega))
  refine Below.alloc ?_ (by omega) _
  exact (bel.alloc (by omega) _).trans (hb3.mono (by simp; omega))

theorem identAhead_walk (n q c r : Int) (w : World) (_ : (Lit.int .i64 n).wf = true) (_ : (Lit.int .i64 q).wf = true) (_ : (Lit.int .i64 c).wf = true) (_ : (Lit.int .i64 r).wf = true) :
    Calls Tryd.prog 5 #[.int .i64 n, .int .i64 q, .agg #[.int .i64 c, .int .i64 r]] w fun e w' => e = .returned (.bool true) ∧ Below w.heap.size w w' := by
  by_cases g0 : 0 ≤ n ∧ n ≤ 1099511627776
  · cases g2 : rightB c r
    · have e1 : seenN n c r = 0 := by unfold seenN; rw [if_neg (by simp [g2])]
      have e2 : seenE n c r = 2 := by unfold seenE; rw [if_pos (by omega), if_neg (by simp [g2])]
      by_cases hq : 0 ≤ q ∧ q < 64
      · exact ahead_err1 n q c r w 2 (by simp) e1 e2 hq
      · exact ahead_err2 n q c r w 2 (by simp) e1 e2 hq
    · have e1 : seenN n c r = maxI n c := by unfold seenN; rw [if_pos ⟨by omega, by omega, g2⟩]
      have e2 : seenE n c r = 0 := by unfold seenE; rw [if_pos (by omega), if_pos g2]
      have g3 : 1 ≤ c ∧ c ≤ 1099511627776 := by unfold rightB at g2; simp at g2; omega
      have g4 : n ≤ maxI n c ∧ c ≤ maxI n c ∧ maxI n c ≤ 1099511627776 := by unfold maxI; split <;> omega
      by_cases hq : 0 ≤ q ∧ q < 64
      · by_cases g5 : maxI n c = 1099511627776
        · exact ahead_bad n q c r w _ 6 (by simp) e1 e2 (by unfold nextC; rw [if_neg (by omega)]) (by unfold nextR; rw [if_neg (by omega)]) (by unfold nextE; rw [if_pos (by omega), if_pos g5])
        · exact ahead_ok n q c r w _ (by omega) (by omega) (by omega) e1 e2 hq
      · exact ahead_bad n q c r w _ 1 (by simp) e1 e2 (by unfold nextC; rw [if_neg (by omega)]) (by unfold nextR; rw [if_neg (by omega)]) (by unfold nextE; rw [if_neg (by omega)])
  · have e1 : seenN n c r = 0 := by unfold seenN; rw [if_neg (by omega)]
    have e2 : seenE n c r = 1 := by unfold seenE; rw [if_neg (by omega)]
    by_cases hq : 0 ≤ q ∧ q < 64
    · exact ahead_err1 n q c r w 1 (by simp) e1 e2 hq
    · exact ahead_err2 n q c r w 1 (by simp) e1 e2 hq

end Go.Proofs.YtmfnfekkemoliabDoor
