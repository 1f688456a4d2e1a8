/- 'append(out, x...)' of numbers; the document's Copy of a change, and the program's. -/
import Derived.Test.YtcnolipgmpjcbabOlJ
namespace Go.Proofs.Ytcnolipgmpjcbab
open Go.RowKit
set_option linter.unusedVariables false
set_option linter.unusedSimpArgs false

theorem row_set_other {W : World} {g k i : Nat} {cs : Array Value} {t : TypeId} {v : Value} (h : W.heap[k]? = some (.cells cs t)) (hne : k ≠ g) : (W.setCell ⟨g, i, none⟩ v).heap[k]? = some (.cells cs t) := by
  rw [heap_setCell_other W ⟨g, i, none⟩ k v hne]; exact h

theorem row_below {k : Nat} {W W' : World} {cs : Array Value} {t : TypeId} (h : W.heap[k]? = some (.cells cs t)) (hb : Below W.heap.size W W') : W'.heap[k]? = some (.cells cs t) := (hb.block k (Array.getElem?_eq_some_iff.1 h).1).trans h

theorem row_cells {W : World} {b : Nat} {v0 v1 v2 v3 v4 v5 v6 v7 v8 v9 v10 v11 v12 : Value} {t : TypeId} (h : W.heap[b]? = some (.cells #[v0, v1, v2, v3, v4, v5, v6, v7, v8, v9, v10, v11, v12] t)) : W.cell? ⟨b, 0, none⟩ = some v0 ∧ W.cell? ⟨b, 1, none⟩ = some v1 ∧ W.cell? ⟨b, 2, none⟩ = some v2 ∧ W.cell? ⟨b, 3, none⟩ = some v3 ∧ W.cell? ⟨b, 4, none⟩ = some v4 ∧ W.cell? ⟨b, 5, none⟩ = some v5 ∧ W.cell? ⟨b, 6, none⟩ = some v6 ∧ W.cell? ⟨b, 7, none⟩ = some v7 ∧ W.cell? ⟨b, 8, none⟩ = some v8 ∧ W.cell? ⟨b, 9, none⟩ = some v9 ∧ W.cell? ⟨b, 10, none⟩ = some v10 ∧ W.cell? ⟨b, 11, none⟩ = some v11 ∧ W.cell? ⟨b, 12, none⟩ = some v12 :=
  ⟨cell_of_row W b 0 _ _ _ h, cell_of_row W b 1 _ _ _ h, cell_of_row W b 2 _ _ _ h, cell_of_row W b 3 _ _ _ h, cell_of_row W b 4 _ _ _ h, cell_of_row W b 5 _ _ _ h, cell_of_row W b 6 _ _ _ h, cell_of_row W b 7 _ _ _ h, cell_of_row W b 8 _ _ _ h, cell_of_row W b 9 _ _ _ h, cell_of_row W b 10 _ _ _ h, cell_of_row W b 11 _ _ _ h, cell_of_row W b 12 _ _ _ h⟩

theorem row_free {W : World} {b : Nat} {cs : Array Value} {t : TypeId} (h : W.heap[b]? = some (.cells cs t)) : ∀ i, W.frozen? ⟨b, i, none⟩ = false := fun i => frozen_of_row W b i _ _ h

theorem row_set13 {W : World} {b : Nat} {z0 z1 z2 z3 z4 z5 z6 z7 z8 z9 z10 z11 z12 v0 v1 v2 v3 v4 v5 v6 v7 v8 v9 v10 v11 v12 : Value} {t : TypeId} (h : W.heap[b]? = some (.cells #[z0, z1, z2, z3, z4, z5, z6, z7, z8, z9, z10, z11, z12] t)) : (((((((((((((W.setCell ⟨b, 0, none⟩ (v0)).setCell ⟨b, 1, none⟩ (v1)).setCell ⟨b, 2, none⟩ (v2)).setCell ⟨b, 3, none⟩ (v3)).setCell ⟨b, 4, none⟩ (v4)).setCell ⟨b, 5, none⟩ (v5)).setCell ⟨b, 6, none⟩ (v6)).setCell ⟨b, 7, none⟩ (v7)).setCell ⟨b, 8, none⟩ (v8)).setCell ⟨b, 9, none⟩ (v9)).setCell ⟨b, 10, none⟩ (v10)).setCell ⟨b, 11, none⟩ (v11)).setCell ⟨b, 12, none⟩ (v12)).heap[b]? = some (.cells #[v0, v1, v2, v3, v4, v5, v6, v7, v8, v9, v10, v11, v12] t) := by
  have h := heap_setCell_same _ b 0 _ _ v0 h
  simp only [List.setIfInBounds_toArray, List.set_cons_zero, List.set_cons_succ] at h
  have h := heap_setCell_same _ b 1 _ _ v1 h
  simp only [List.setIfInBounds_toArray, List.set_cons_zero, List.set_cons_succ] at h
  have h := heap_setCell_same _ b 2 _ _ v2 h
  simp only [List.setIfInBounds_toArray, List.set_cons_zero, List.set_cons_succ] at h
  have h := heap_setCell_same _ b 3 _ _ v3 h
  simp only [List.setIfInBounds_toArray, List.set_cons_zero, List.set_cons_succ] at h
  have h := heap_setCell_same _ b 4 _ _ v4 h
  simp only [List.setIfInBounds_toArray, List.set_cons_zero, List.set_cons_succ] at h
  have h := heap_setCell_same _ b 5 _ _ v5 h
  simp only [List.setIfInBounds_toArray, List.set_cons_zero, List.set_cons_succ] at h
  have h := heap_setCell_same _ b 6 _ _ v6 h
  simp only [List.setIfInBounds_toArray, List.set_cons_zero, List.set_cons_succ] at h
  have h := heap_setCell_same _ b 7 _ _ v7 h
  simp only [List.setIfInBounds_toArray, List.set_cons_zero, List.set_cons_succ] at h
  have h := heap_setCell_same _ b 8 _ _ v8 h
  simp only [List.setIfInBounds_toArray, List.set_cons_zero, List.set_cons_succ] at h
  have h := heap_setCell_same _ b 9 _ _ v9 h
  simp only [List.setIfInBounds_toArray, List.set_cons_zero, List.set_cons_succ] at h
  have h := heap_setCell_same _ b 10 _ _ v10 h
  simp only [List.setIfInBounds_toArray, List.set_cons_zero, List.set_cons_succ] at h
  have h := heap_setCell_same _ b 11 _ _ v11 h
  simp only [List.setIfInBounds_toArray, List.set_cons_zero, List.set_cons_succ] at h
  have h := heap_setCell_same _ b 12 _ _ v12 h
  simp only [List.setIfInBounds_toArray, List.set_cons_zero, List.set_cons_succ] at h
  exact h

theorem IntsAt.block {w w' : World} {b o : Nat} {d : List Int} (h : IntsAt w b o d) (hb : w'.heap[b]? = w.heap[b]?) : IntsAt w' b o d := fun i hi => (World.cell?_of_block hb).trans (h i hi)


theorem OwnI.setFar {B g i : Nat} {w : World} {u v : Value} {D : List Int} (h : OwnI B w v D) (hg : g < B) : OwnI B (w.setCell ⟨g, i, none⟩ u) v D := by
  refine ⟨h.1, ?_⟩
  rcases h.2 with hn | ⟨k, cap, cur, hv, hk, hc, rest⟩
  · exact .inl hn
  · refine .inr ⟨k, cap, cur, hv, hk, ?_, rest⟩
    rw [heap_setCell_other w ⟨g, i, none⟩ k u (by show k ≠ g; omega)]
    exact hc

end Go.Proofs.Ytcnolipgmpjcbab
