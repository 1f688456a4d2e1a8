/- What the document's list is link by link, behind each call: plainly. -/
import Derived.Test.YtlcnfoljkcfplaaDsC
namespace Go.Proofs.Ytlcnfoljkcfplaa
set_option linter.unusedVariables false
set_option linter.unusedSimpArgs false

theorem link_snoc (L : List Sn) (s : Sn) (f t : Int) : linkL (L ++ [s]) f t = if onL f t s = true then linkL L f t ++ [s] else linkL L f t := by
  unfold linkL
  rw [List.filter_append]
  by_cases h : onL f t s = true
  · simp [h]
  · simp [h]
theorem link_get (f t : Int) : ∀ (L : List Sn) (j : Nat) (hj : j < L.length), onL f t L[j] = true → (linkL L f t)[waitL (L.take j) f t]? = some L[j]
  | [], j, hj, _ => by simp at hj
  | s :: r, 0, hj, h => by
    have h' : onL f t s = true := h
    simp [linkL, waitL, h']
  | s :: r, j + 1, hj, h => by
    have ih := link_get f t r j (by simpa using hj) (by simpa using h)
    by_cases hs : onL f t s = true
    · simpa [linkL, waitL, hs, List.take_succ_cons, List.filter_cons] using ih
    · simpa [linkL, waitL, hs, List.take_succ_cons, List.filter_cons] using ih
theorem link_erase_off (f t : Int) : ∀ (L : List Sn) (j : Nat) (hj : j < L.length), onL f t L[j] = false → linkL (L.eraseIdx j) f t = linkL L f t
  | [], j, hj, _ => by simp at hj
  | s :: r, 0, hj, h => by
    have h' : onL f t s = false := h
    simp [linkL, h']
  | s :: r, j + 1, hj, h => by
    have ih := link_erase_off f t r j (by simpa using hj) (by simpa using h)
    simp only [linkL, List.eraseIdx_cons_succ, List.filter_cons] at ih ⊢
    rw [ih]
theorem link_erase_on (f t : Int) : ∀ (L : List Sn) (j : Nat) (hj : j < L.length), onL f t L[j] = true → linkL (L.eraseIdx j) f t = (linkL L f t).eraseIdx (waitL (L.take j) f t)
  | [], j, hj, _ => by simp at hj
  | s :: r, 0, hj, h => by
    have h' : onL f t s = true := h
    simp [linkL, waitL, h']
  | s :: r, j + 1, hj, h => by
    have ih := link_erase_on f t r j (by simpa using hj) (by simpa using h)
    by_cases hs : onL f t s = true
    · simp only [linkL, waitL, List.eraseIdx_cons_succ, List.take_succ_cons, List.filter_cons, hs, if_true, List.length_cons] at ih ⊢
      rw [ih]
    · simp only [linkL, waitL, List.eraseIdx_cons_succ, List.take_succ_cons, List.filter_cons, hs] at ih ⊢
      exact ih
theorem link_set_off (f t : Int) (s' : Sn) (h' : onL f t s' = false) : ∀ (L : List Sn) (j : Nat) (hj : j < L.length), onL f t L[j] = false → linkL (L.set j s') f t = linkL L f t
  | [], j, hj, _ => by simp at hj
  | s :: r, 0, hj, h => by
    have h2 : onL f t s = false := h
    simp [linkL, h2, h']
  | s :: r, j + 1, hj, h => by
    have ih := link_set_off f t s' h' r j (by simpa using hj) (by simpa using h)
    simp only [linkL, List.set_cons_succ, List.filter_cons] at ih ⊢
    rw [ih]
theorem link_set_on (f t : Int) (s' : Sn) (h' : onL f t s' = true) : ∀ (L : List Sn) (j : Nat) (hj : j < L.length), onL f t L[j] = true → linkL (L.set j s') f t = (linkL L f t).set (waitL (L.take j) f t) s'
  | [], j, hj, _ => by simp at hj
  | s :: r, 0, hj, h => by
    have h2 : onL f t s = true := h
    simp [linkL, waitL, h2, h']
  | s :: r, j + 1, hj, h => by
    have ih := link_set_on f t s' h' r j (by simpa using hj) (by simpa using h)
    by_cases hs : onL f t s = true
    · simp only [linkL, waitL, List.set_cons_succ, List.take_succ_cons, List.filter_cons, hs, if_true, List.length_cons] at ih ⊢
      rw [ih]
    · simp only [linkL, waitL, List.set_cons_succ, List.take_succ_cons, List.filter_cons, hs] at ih ⊢
      exact ih
theorem link_len (L : List Sn) (f t : Int) : (linkL L f t).length = waitL L f t := rfl
/-- A frame is on one link alone. -/
theorem onL_iff (f t : Int) (s : Sn) : onL f t s = true ↔ s.fr = f ∧ s.to = t := by simp [onL]

end Go.Proofs.Ytlcnfoljkcfplaa
