/- Plain facts on clocks: lists of numbers, trimmed, merged, held against one another. No program is named here. -/
namespace Go.Proofs.Ythhnglpkfcmjiaa
theorem getD_mem {l : List Int} {k : Nat} (h : k < l.length) : l.getD k 0 ∈ l := by
  rw [List.getD_eq_getElem?_getD, List.getElem?_eq_getElem h]; exact List.getElem_mem h
theorem getD_out {l : List Int} {k : Nat} (h : l.length ≤ k) : l.getD k 0 = 0 := by
  rw [List.getD_eq_getElem?_getD, List.getElem?_eq_none h]; rfl
def OkC (d : List Int) : Prop := d.length ≤ 64 ∧ ∀ x ∈ d, 0 ≤ x ∧ x ≤ 1099511627776
theorem OkC.getD {d : List Int} (h : OkC d) (k : Nat) : 0 ≤ d.getD k 0 ∧ d.getD k 0 ≤ 1099511627776 := by
  rcases Nat.lt_or_ge k d.length with hk | hk
  · exact h.2 _ (getD_mem hk)
  · rw [getD_out hk]; omega
end Go.Proofs.Ythhnglpkfcmjiaa
