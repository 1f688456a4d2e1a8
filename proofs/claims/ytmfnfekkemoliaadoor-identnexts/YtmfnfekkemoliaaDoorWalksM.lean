/- What the document's Next does; the walk of IdentNexts. -/
import Derived.Test.YtmfnfekkemoliaaDoorWalksB
import Derived.Test.YtmfnfekkemoliaaDoorWalksC
import Derived.Test.YtmfnfekkemoliaaDoorWalksN
namespace Go.Proofs.YtmfnfekkemoliaaDoor
open Go.RowKit
set_option linter.unusedVariables false

set_option maxHeartbeats 400000 in
theorem refNext_any (n r : Int) (w : World) :
    Calls Tryd.prog 19 #[.int .i64 n, .int .i64 r] w fun e w' => e = .returned (.tuple #[.agg #[.int .i64 (nextC n r), .int .i64 (nextR n r)], .int .i64 (nextE n r)]) ∧ Below w.heap.size w w' := by
  by_cases g0 : n < 0
  · have H1 : Hid (nextC n r = 0) := by show nextC n r = 0; simp [nextC]; omega
    have H2 : Hid (nextR n r = 0) := by show nextR n r = 0; simp [nextR]; omega
    have H3 : Hid (nextE n r = 1) := by show nextE n r = 1; simp [nextE]; omega
    go_enter Tryd.func19, Tryd.ntmps19
    go_wp2
    exact bodyPost_ret (v := .tuple #[.agg #[.int .i64 (0), .int .i64 (0)], .int .i64 1]) (by simp [results, Tryd.results19, go_sem]) rfl ⟨by rw [H1.out, H2.out, H3.out], (by repeat (first | exact Below.refl _ _ | refine Below.alloc ?_ (by first | exact Nat.le_refl _ | omega | (simp; done) | (simp; omega)) _ | refine Below.setCell ?_ (by first | exact Nat.le_refl _ | omega | (simp; done) | (simp; omega)) _ | refine Below.drew ?_))⟩
  by_cases g1 : 1099511627776 < n
  · have H1 : Hid (nextC n r = 0) := by show nextC n r = 0; simp [nextC]; omega
    have H2 : Hid (nextR n r = 0) := by show nextR n r = 0; simp [nextR]; omega
    have H3 : Hid (nextE n r = 1) := by show nextE n r = 1; simp [nextE]; omega
    go_enter Tryd.func19, Tryd.ntmps19
    go_wp2
    exact bodyPost_ret (v := .tuple #[.agg #[.int .i64 (0), .int .i64 (0)], .int .i64 1]) (by simp [results, Tryd.results19, go_sem]) rfl ⟨by rw [H1.out, H2.out, H3.out], (by repeat (first | exact Below.refl _ _ | refine Below.alloc ?_ (by first | exact Nat.le_refl _ | omega | (simp; done) | (simp; omega)) _ | refine Below.setCell ?_ (by first | exact Nat.le_refl _ | omega | (simp; done) | (simp; omega)) _ | refine Below.drew ?_))⟩
  by_cases g2 : r < 0
  · have H1 : Hid (nextC n r = 0) := by show nextC n r = 0; simp [nextC]; omega
    have H2 : Hid (nextR n r = 0) := by show nextR n r = 0; simp [nextR]; omega
    have H3 : Hid (nextE n r = 1) := by show nextE n r = 1; simp [nextE]; omega
    go_enter Tryd.func19, Tryd.ntmps19
    go_wp2
    exact bodyPost_ret (v := .tuple #[.agg #[.int .i64 (0), .int .i64 (0)], .int .i64 1]) (by simp [results, Tryd.results19, go_sem]) rfl ⟨by rw [H1.out, H2.out, H3.out], (by repeat (first | exact Below.refl _ _ | refine Below.alloc ?_ (by first | exact Nat.le_refl _ | omega | (simp; done) | (simp; omega)) _ | refine Below.setCell ?_ (by first | exact Nat.le_refl _ | omega | (simp; done) | (simp; omega)) _ | refine Below.drew ?_))⟩
  by_cases g3 : 64 ≤ r
  · have H1 : Hid (nextC n r = 0) := by show nextC n r = 0; simp [nextC]; omega
    have H2 : Hid (nextR n r = 0) := by show nextR n r = 0; simp [nextR]; omega
    have H3 : Hid (nextE n r = 1) := by show nextE n r = 1; simp [nextE]; omega
    go_enter Tryd.func19, Tryd.ntmps19
    go_wp2
    exact bodyPost_ret (v := .tuple #[.agg #[.int .i64 (0), .int .i64 (0)], .int .i64 1]) (by simp [results, Tryd.results19, go_sem]) rfl ⟨by rw [H1.out, H2.out, H3.out], (by repeat (first | exact Below.refl _ _ | refine Below.alloc ?_ (by first | exact Nat.le_refl _ | omega | (simp; done) | (simp; omega)) _ | refine Below.setCell ?_ (by first | exact Nat.le_refl _ | omega | (simp; done) | (simp; omega)) _ | refine Below.drew ?_))⟩
  by_cases h2 : n = 1099511627776
  · subst h2
    have H1 : Hid (nextC 1099511627776 r = 0) := by show nextC 1099511627776 r = 0; simp [nextC]
    have H2 : Hid (nextR 1099511627776 r = 0) := by show nextR 1099511627776 r = 0; simp [nextR]
    have H3 : Hid (nextE 1099511627776 r = 6) := by show nextE 1099511627776 r = 6; simp [nextE]; omega
    clear g0 g1
    go_enter Tryd.func19, Tryd.ntmps19
    go_wp2
    exact bodyPost_ret (v := .tuple #[.agg #[.int .i64 (0), .int .i64 (0)], .int .i64 6]) (by simp [results, Tryd.results19, go_sem]) rfl ⟨by rw [H1.out, H2.out, H3.out], (by repeat (first | exact Below.refl _ _ | refine Below.alloc ?_ (by first | exact Nat.le_refl _ | omega | (simp; done) | (simp; omega)) _ | refine Below.setCell ?_ (by first | exact Nat.le_refl _ | omega | (simp; done) | (simp; omega)) _ | refine Below.drew ?_))⟩
  · have h3 : (n == 1099511627776) = false := by simp; omega
    have H1 : Hid (nextC n r = n + 1) := by show nextC n r = n + 1; unfold nextC; rw [if_pos (by omega)]
    have H2 : Hid (nextR n r = r) := by show nextR n r = r; unfold nextR; rw [if_pos (by omega)]
    have H3 : Hid (nextE n r = 0) := by show nextE n r = 0; unfold nextE; rw [if_pos (by omega), if_neg h2]
    have b3 : 0 ≤ n := by omega
    have b4 : n < 1099511627776 := by omega
    clear h2 g0 g1
    go_enter Tryd.func19, Tryd.ntmps19
    go_wp2
    exact bodyPost_ret (v := .tuple #[.agg #[.int .i64 (n + 1), .int .i64 (r)], .int .i64 0]) (by simp [results, Tryd.results19, go_sem]) rfl ⟨by rw [H1.out, H2.out, H3.out], (by repeat (first | exact Below.refl _ _ | refine Below.alloc ?_ (by first | exact Nat.le_refl _ | omega | (simp; done) | (simp; omega)) _ | refine Below.setCell ?_ (by first | exact Nat.le_refl _ | omega | (simp; done) | (simp; omega)) _ | refine Below.drew ?_))⟩

set_option maxHeartbeats 1000000 in
theorem identNexts_walk (n q c r : Int) (w : World) (_ : (Lit.int .i64 n).wf = true) (_ : (Lit.int .i64 q).wf = true) (_ : (Lit.int .i64 c).wf = true) (_ : (Lit.int .i64 r).wf = true) :
    Calls Tryd.prog 5 #[.int .i64 n, .int .i64 q, .agg #[.int .i64 c, .int .i64 r]] w fun e w' => e = .returned (.bool true) ∧ Below w.heap.size w w' := by
  go_enter Tryd.func5, Tryd.ntmps5
  go_wp2_with fail
  refine (next_any _ _ _).mono ?_
  rintro e w1 ⟨rfl, hb1⟩
  go_wp2_with fail
  refine (refNext_any _ _ _).mono ?_
  rintro e w2 ⟨rfl, hb2⟩
  have hc1 := fun (b o : Nat) (h : b < _) => hb1.cell (p := ⟨b, o, none⟩) h
  have hc2 := fun (b o : Nat) (h : b < _) => hb2.cell (p := ⟨b, o, none⟩) h
  have z1 : w.heap.size < w1.heap.size := by have := hb1.size; simp at this; omega
  have z2 : w1.heap.size < w2.heap.size := by have := hb2.size; simp at this; omega
  have z3 : w.heap.size < w2.heap.size := by omega
  have z4 : w.heap.size < w1.heap.size + 1 := by omega
  go_wp2_with fail
  refine (awake_any _).mono ?_
  rintro e w3 ⟨rfl, hb3⟩
  have hc3 := fun (b o : Nat) (h : b < _) => hb3.cell (p := ⟨b, o, none⟩) h
  have z5 : w2.heap.size < w3.heap.size := by have := hb3.size; simp at this; omega
  have z6 : w.heap.size < w2.heap.size + 1 := by omega
  have z7 : w.heap.size < w3.heap.size := by omega
  go_wp2_with fail
  refine (seen_any _ _ _ _).mono ?_
  rintro e w4 ⟨rfl, hb4⟩
  have hc4 := fun (b o : Nat) (h : b < _) => hb4.cell (p := ⟨b, o, none⟩) h
  have z8 : w.heap.size < w4.heap.size := by have := hb4.size; omega
  have bel : Below w.heap.size w w4 := by
    refine Below.trans ?_ (hb4.mono (by omega))
    refine Below.trans ?_ (hb3.mono (by simp; omega))
    refine Below.alloc ?_ (by omega) _
    refine Below.trans ?_ (hb2.mono (by simp; omega))
    refine Below.alloc ?_ (by omega) _
    refine Below.trans ?_ (hb1.mono (by simp))
    exact (Below.refl _ _).alloc (Nat.le_refl _) _
  by_cases g0 : n < 0
  · have e1 : seenN n c r = 0 := by unfold seenN; rw [if_neg (by omega)]
    have e2 : seenE n c r = 1 := by unfold seenE; rw [if_neg (by omega)]
    go_wp2
    go_ret
    exact ⟨rfl, bel⟩
  by_cases g1 : 1099511627776 < n
  · have e1 : seenN n c r = 0 := by unfold seenN; rw [if_neg (by omega)]
    have e2 : seenE n c r = 1 := by unfold seenE; rw [if_neg (by omega)]
    go_wp2
    go_ret
    exact ⟨rfl, bel⟩
  cases g2 : rightB c r
  · have e1 : seenN n c r = 0 := by unfold seenN; rw [if_neg (by simp [g2])]
    have e2 : seenE n c r = 2 := by unfold seenE; rw [if_pos (by omega), if_neg (by simp [g2])]
    go_wp2_with (go_at_call 10; refine (refRight_any _ _ _).mono ?_; rintro e w5 ⟨rfl, rfl⟩)
    go_ret
    exact ⟨rfl, bel.alloc (by omega) _⟩
  · have e1 : seenN n c r = maxI n c := by unfold seenN; rw [if_pos ⟨by omega, by omega, g2⟩]
    have e2 : seenE n c r = 0 := by unfold seenE; rw [if_pos (by omega), if_pos g2]
    by_cases g3 : n < c
    · have e3 : maxI n c = c := by unfold maxI; rw [if_pos g3]
      go_wp2_with (go_at_call 10; refine (refRight_any _ _ _).mono ?_; rintro e w5 ⟨rfl, rfl⟩)
      go_ret
      exact ⟨rfl, bel.alloc (by omega) _⟩
    · have e3 : maxI n c = n := by unfold maxI; rw [if_neg g3]
      go_wp2_with (go_at_call 10; refine (refRight_any _ _ _).mono ?_; rintro e w5 ⟨rfl, rfl⟩)
      go_ret
      exact ⟨rfl, bel.alloc (by omega) _⟩

end Go.Proofs.YtmfnfekkemoliaaDoor
