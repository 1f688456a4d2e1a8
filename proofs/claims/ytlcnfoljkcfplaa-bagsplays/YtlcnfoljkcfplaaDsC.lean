/- The document's Peek; its list of what was sent, link by link. -/
import Derived.Test.YtlcnfoljkcfplaaDsB
namespace Go.Proofs.Ytlcnfoljkcfplaa
open Go.RowKit
set_option linter.unusedVariables false
set_option linter.unusedSimpArgs false

/-- The frames of a link, in their order. -/
def linkL (L : List Sn) (f t : Int) : List Sn := L.filter (onL f t)
theorem placeF_spec (f t i : Int) : ∀ (L : List Sn) (n k : Nat), (n : Int) ≤ i →
    (placeF f t i L (n : Int) k = -1 ∧ (linkL L f t).length + n ≤ i.toNat) ∨ ∃ (j : Nat) (hj : j < L.length), placeF f t i L (n : Int) k = ((k + j : Nat) : Int) ∧ onL f t L[j] = true ∧ (linkL (L.take j) f t).length + n = i.toNat
  | [], n, k, hi => .inl ⟨rfl, by simp [linkL]; omega⟩
  | s :: r, n, k, hi => by
    unfold placeF
    by_cases hs : onL f t s = true
    · rw [if_pos hs]
      by_cases hn : (n : Int) = i
      · rw [if_pos hn]
        exact .inr ⟨0, by simp, by simp, hs, by simp [linkL]; omega⟩
      · rw [if_neg hn]
        rcases placeF_spec f t i r (n + 1) (k + 1) (by omega) with ⟨h1, h2⟩ | ⟨j, hj, h1, h2, h3⟩
        · refine .inl ⟨h1, ?_⟩
          simp only [linkL, List.filter_cons, hs, if_true, List.length_cons] at h2 ⊢
          omega
        · refine .inr ⟨j + 1, by simpa using hj, by rw [show k + (j + 1) = k + 1 + j by omega]; exact h1, by simpa using h2, ?_⟩
          simp only [linkL, List.take_succ_cons, List.filter_cons, hs, if_true, List.length_cons] at h3 ⊢
          omega
    · rw [if_neg hs]
      rcases placeF_spec f t i r n (k + 1) hi with ⟨h1, h2⟩ | ⟨j, hj, h1, h2, h3⟩
      · refine .inl ⟨h1, ?_⟩
        simp only [linkL, List.filter_cons, hs] at h2 ⊢
        simpa using h2
      · refine .inr ⟨j + 1, by simpa using hj, by rw [show k + (j + 1) = k + 1 + j by omega]; exact h1, by simpa using h2, ?_⟩
        simp only [linkL, List.take_succ_cons, List.filter_cons, hs] at h3 ⊢
        simpa using h3
theorem placeF_neg (f t i : Int) : ∀ (L : List Sn) (n : Int) (k : Nat), i < n → placeF f t i L n k = -1
  | [], n, k, h => rfl
  | s :: r, n, k, h => by
    unfold placeF
    split
    · rw [if_neg (by omega)]
      exact placeF_neg f t i r (n + 1) (k + 1) (by omega)
    · exact placeF_neg f t i r n (k + 1) h
/-- A link has a frame number i, or it has not. -/
theorem placeL_or (L : List Sn) (f t i : Int) : (placeL L f t i = -1 ∧ (i < 0 ∨ (waitL L f t : Int) ≤ i)) ∨ ∃ (j : Nat) (hj : j < L.length), placeL L f t i = (j : Int) ∧ onL f t L[j] = true ∧ 0 ≤ i ∧ waitL (L.take j) f t = i.toNat ∧ i < (waitL L f t : Int) := by
  by_cases h : i < 0
  · exact .inl ⟨placeF_neg f t i L 0 0 h, .inl h⟩
  · rcases placeF_spec f t i L 0 0 (by omega) with ⟨h1, h2⟩ | ⟨j, hj, h1, h2, h3⟩
    · refine .inl ⟨h1, .inr ?_⟩
      simp only [linkL] at h2
      unfold waitL
      omega
    · refine .inr ⟨j, hj, by rw [show j = 0 + j by omega]; exact h1, h2, by omega, by simpa [linkL, waitL] using h3, ?_⟩
      have h4 := wait_next hj f t
      rw [if_pos h2] at h4
      have h5 : waitL (L.take (j + 1)) f t ≤ waitL L f t := by
        unfold waitL
        exact (List.Sublist.filter _ (List.take_sublist _ _)).length_le
      simp only [linkL] at h3
      unfold waitL at h4 h5 ⊢
      omega

end Go.Proofs.Ytlcnfoljkcfplaa
