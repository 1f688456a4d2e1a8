/- Rows of numbers of a fixed length in a block of their own. -/
import Derived.Test.YthhnglpkfcmjiaaKRowI
import Derived.Test.YthhnglpkfcmjiaaKPlainLi
import Derived.Test.YthhnglpkfcmjiaaKTk
import Derived.Deep.Cut
namespace Go.Proofs.Ythhnglpkfcmjiaa
open Go.RowKit
set_option linter.unusedVariables false
theorem hide9 {p : Prop} (h : p) : Hid p := h
/-- The block g holds just these numbers. -/
def RowF (w : World) (g : Nat) (D : List Int) : Prop := w.heap[g]? = some (.cells (cellsI D).toArray 3)
theorem RowF.lt {w : World} {g : Nat} {D : List Int} (h : RowF w g D) : g < w.heap.size := (Array.getElem?_eq_some_iff.1 h).1
theorem RowF.below {w w' : World} {g : Nat} {D : List Int} (h : RowF w g D) (hb : Below w.heap.size w w') : RowF w' g D := by
  unfold RowF; rw [hb.block g h.lt]; exact h
theorem RowF.cell {w : World} {g : Nat} {D : List Int} (h : RowF w g D) {i : Nat} (hi : i < D.length) : w.cell? ⟨g, i, none⟩ = some (.int .i64 (atD D i)) := by
  unfold RowF at h
  simp [World.cell?, h, cellsI, hi, atD]
theorem RowF.isI {w : World} {g cap : Nat} {D : List Int} (h : RowF w g D) (hc : D.length ≤ cap) (hl : D.length ≤ 17592186044416) : IsI w (.slice (some ⟨g, 0, none⟩) D.length cap) D :=
  ⟨_, cap, rfl, hc, hl, .inr ⟨g, 0, rfl, fun i hi => by rw [Nat.zero_add, h.cell hi, atD_eq hi]⟩⟩
theorem cellsI_set (D : List Int) (j : Nat) (c : Int) : cellsI (D.set j c) = (cellsI D).set j (.int .i64 c) := by simp [cellsI, List.map_set]
theorem RowF.set {w : World} {g : Nat} {D : List Int} (h : RowF w g D) (j : Nat) (c : Int) : RowF (w.setCell ⟨g, j, none⟩ (.int .i64 c)) g (D.set j c) := by
  unfold RowF at h ⊢
  rw [cellsI_set, heap_setCell_same w g j _ _ _ h]
  simp
theorem RowF.other {w : World} {g k i : Nat} {u : Value} {D : List Int} (h : RowF w g D) (hne : g ≠ k) : RowF (w.setCell ⟨k, i, none⟩ u) g D := by
  unfold RowF; rw [RowKit.Below.heap_setCell _ _ _ _ hne]; exact h
theorem RowF.at {w : World} {g : Nat} {D : List Int} (h : RowF w g D) {i : Nat} (hi : i < D.length) : w.cell? ⟨g, i, none⟩ = some (.int .i64 (atD D i)) ∧ w.frozen? ⟨g, i, none⟩ = false := ⟨h.cell hi, frozen_of_row w g i _ _ h⟩
theorem OwnI.write {B : Nat} {w : World} {g cap n : Nat} {D : List Int} (h : OwnI B w (.slice (some ⟨g, 0, none⟩) n cap) D) (hn : n = D.length) (j : Nat) (c : Int) : OwnI B (w.setCell ⟨g, j, none⟩ (.int .i64 c)) (.slice (some ⟨g, 0, none⟩) n cap) (D.set j c) := by
  subst hn
  obtain ⟨h1, h2⟩ := World.ownsRow.stored h j (.int .i64 c)
  unfold OwnI
  rw [List.length_set, cellsI_set]
  exact h1
theorem OwnI.at {B : Nat} {w : World} {g cap n : Nat} {D : List Int} (h : OwnI B w (.slice (some ⟨g, 0, none⟩) n cap) D) {j : Nat} (hj : j < D.length) : w.cell? ⟨g, j, none⟩ = some (.int .i64 (atD D j)) ∧ w.frozen? ⟨g, j, none⟩ = false := by
  rcases h.2 with ⟨e, hn⟩ | ⟨g', cap', cur, e, hg, hc, hcap, rest⟩
  · cases e
  · cases e
    refine ⟨?_, frozen_of_row w g j _ _ hc⟩
    have := World.ownsRow.cellAt h j (by omega)
    rw [this]
    simp [cellsI, hj, atD]
theorem OwnI.keepB {B : Nat} {w w' : World} {v : Value} {D : List Int} (h : OwnI B w v D) (hk : ∀ k, v.ownBlock = some k → w'.heap[k]? = w.heap[k]?) : OwnI B w' v D := by
  refine ⟨h.1, ?_⟩
  rcases h.2 with hn | ⟨g, cap, cur, hv, hg, hc, rest⟩
  · exact .inl hn
  · refine .inr ⟨g, cap, cur, hv, hg, ?_, rest⟩
    rw [hk g (by rw [hv]; rfl)]
    exact hc
theorem cell_off {W : World} {b j g i : Nat} {u v : Value} (h : W.cell? ⟨b, j, none⟩ = some v) (hne : b ≠ g) : (W.setCell ⟨g, i, none⟩ u).cell? ⟨b, j, none⟩ = some v := by
  rw [World.cell?_setCell_other _ _ _ _ (by intro e2; cases e2; exact hne rfl)]; exact h
end Go.Proofs.Ythhnglpkfcmjiaa
