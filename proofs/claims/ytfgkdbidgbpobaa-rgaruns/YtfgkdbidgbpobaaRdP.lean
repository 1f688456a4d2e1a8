/- The document's Place. -/
import Derived.Test.YtfgkdbidgbpobaaRdL
namespace Go.Proofs.Ytfgkdbidgbpobaa
open Go.RowKit
set_option linter.unusedVariables false
set_option linter.unusedSimpArgs false

/-- The place of a stamp; -1: there is none. -/
def PlR (l : List St) (a : St) (n : Int) : Prop := (∃ p q, l = p ++ a :: q ∧ a ∉ p ∧ n = (p.length : Int)) ∨ (a ∉ l ∧ n = -1)
theorem nodup_split {l p q p2 q2 : List St} {a : St} (h1 : l = p ++ a :: q) (h2 : l = p2 ++ a :: q2) (n1 : a ∉ p) (n2 : a ∉ p2) : p = p2 ∧ q = q2 := by
  subst h1
  induction p generalizing p2 with
  | nil =>
    cases p2 with
    | nil => simp at h2; exact ⟨rfl, h2⟩
    | cons x p2 => simp at h2; rw [h2.1] at n2; simp at n2
  | cons x p ih =>
    cases p2 with
    | nil => simp at h2; rw [h2.1] at n1; simp at n1
    | cons y p2 =>
      simp only [List.cons_append, List.cons.injEq] at h2
      obtain ⟨e, e2⟩ := ih (p2 := p2) (fun h => n1 (by simp [h])) (fun h => n2 (by simp [h])) h2.2
      exact ⟨by rw [h2.1, e], e2⟩

end Go.Proofs.Ytfgkdbidgbpobaa
