/- What lies where while a change is read: the text that is left, the change's box, the box of the result, the box of what its kind has, its clock. -/
import Derived.Test.YtaocjmipjibiaabGreatDoorChS
import Derived.Test.YtaocjmipjibiaabGreatDoorChUq
namespace Go.Proofs.YtaocjmipjibiaabGreatDoor
open Go.RowKit
set_option linter.unusedVariables false
set_option linter.unusedSimpArgs false

theorem row_set_other {W : World} {g k i : Nat} {cs : Array Value} {t : TypeId} {v : Value} (h : W.heap[k]? = some (.cells cs t)) (hne : k ≠ g) : (W.setCell ⟨g, i, none⟩ v).heap[k]? = some (.cells cs t) := by
  rw [heap_setCell_other W ⟨g, i, none⟩ k v hne]; exact h
theorem row_out {g k : Nat} {W W' : World} {cs : Array Value} {t : TypeId} (h : W.heap[k]? = some (.cells cs t)) (ho : Out g W W') (hne : k ≠ g) : W'.heap[k]? = some (.cells cs t) := (ho.2 k (Array.getElem?_eq_some_iff.1 h).1 hne).trans h
theorem row_below {k : Nat} {W W' : World} {cs : Array Value} {t : TypeId} (h : W.heap[k]? = some (.cells cs t)) (hb : Below W.heap.size W W') : W'.heap[k]? = some (.cells cs t) := (hb.block k (Array.getElem?_eq_some_iff.1 h).1).trans h
theorem row_lt {k : Nat} {W : World} {cs : Array Value} {t : TypeId} (h : W.heap[k]? = some (.cells cs t)) : k < W.heap.size := (Array.getElem?_eq_some_iff.1 h).1
theorem row_cells {W : World} {b : Nat} {v0 v1 v2 v3 v4 v5 v6 v7 v8 v9 v10 v11 v12 : Value} {t : TypeId} (h : W.heap[b]? = some (.cells #[v0, v1, v2, v3, v4, v5, v6, v7, v8, v9, v10, v11, v12] t)) : W.cell? ⟨b, 0, none⟩ = some v0 ∧ W.cell? ⟨b, 1, none⟩ = some v1 ∧ W.cell? ⟨b, 2, none⟩ = some v2 ∧ W.cell? ⟨b, 3, none⟩ = some v3 ∧ W.cell? ⟨b, 4, none⟩ = some v4 ∧ W.cell? ⟨b, 5, none⟩ = some v5 ∧ W.cell? ⟨b, 6, none⟩ = some v6 ∧ W.cell? ⟨b, 7, none⟩ = some v7 ∧ W.cell? ⟨b, 8, none⟩ = some v8 ∧ W.cell? ⟨b, 9, none⟩ = some v9 ∧ W.cell? ⟨b, 10, none⟩ = some v10 ∧ W.cell? ⟨b, 11, none⟩ = some v11 ∧ W.cell? ⟨b, 12, none⟩ = some v12 :=
  ⟨cell_of_row W b 0 _ _ _ h, cell_of_row W b 1 _ _ _ h, cell_of_row W b 2 _ _ _ h, cell_of_row W b 3 _ _ _ h, cell_of_row W b 4 _ _ _ h, cell_of_row W b 5 _ _ _ h, cell_of_row W b 6 _ _ _ h, cell_of_row W b 7 _ _ _ h, cell_of_row W b 8 _ _ _ h, cell_of_row W b 9 _ _ _ h, cell_of_row W b 10 _ _ _ h, cell_of_row W b 11 _ _ _ h, cell_of_row W b 12 _ _ _ h⟩
theorem row_free {W : World} {b : Nat} {cs : Array Value} {t : TypeId} (h : W.heap[b]? = some (.cells cs t)) : ∀ i, W.frozen? ⟨b, i, none⟩ = false := fun i => frozen_of_row W b i _ _ h
theorem row_set13 {W : World} {b : Nat} {z0 z1 z2 z3 z4 z5 z6 z7 z8 z9 z10 z11 z12 v0 v1 v2 v3 v4 v5 v6 v7 v8 v9 v10 v11 v12 : Value} {t : TypeId} (h : W.heap[b]? = some (.cells #[z0, z1, z2, z3, z4, z5, z6, z7, z8, z9, z10, z11, z12] t)) : (((((((((((((W.setCell ⟨b, 0, none⟩ (v0)).setCell ⟨b, 1, none⟩ (v1)).setCell ⟨b, 2, none⟩ (v2)).setCell ⟨b, 3, none⟩ (v3)).setCell ⟨b, 4, none⟩ (v4)).setCell ⟨b, 5, none⟩ (v5)).setCell ⟨b, 6, none⟩ (v6)).setCell ⟨b, 7, none⟩ (v7)).setCell ⟨b, 8, none⟩ (v8)).setCell ⟨b, 9, none⟩ (v9)).setCell ⟨b, 10, none⟩ (v10)).setCell ⟨b, 11, none⟩ (v11)).setCell ⟨b, 12, none⟩ (v12)).heap[b]? = some (.cells #[v0, v1, v2, v3, v4, v5, v6, v7, v8, v9, v10, v11, v12] t) := by
  have h := heap_setCell_same _ b 0 _ _ v0 h
  simp only [List.setIfInBounds_toArray, List.set_cons_zero, List.set_cons_succ] at h
  have h := heap_setCell_same _ b 1 _ _ v1 h
  simp only [List.setIfInBounds_toArray, List.set_cons_zero, List.set_cons_succ] at h
  have h := heap_setCell_same _ b 2 _ _ v2 h
  simp only [List.setIfInBounds_toArray, List.set_cons_zero, List.set_cons_succ] at h
  have h := heap_setCell_same _ b 3 _ _ v3 h
  simp only [List.setIfInBounds_toArray, List.set_cons_zero, List.set_cons_succ] at h
  have h := heap_setCell_same _ b 4 _ _ v4 h
  simp only [List.setIfInBounds_toArray, List.set_cons_zero, List.set_cons_succ] at h
  have h := heap_setCell_same _ b 5 _ _ v5 h
  simp only [List.setIfInBounds_toArray, List.set_cons_zero, List.set_cons_succ] at h
  have h := heap_setCell_same _ b 6 _ _ v6 h
  simp only [List.setIfInBounds_toArray, List.set_cons_zero, List.set_cons_succ] at h
  have h := heap_setCell_same _ b 7 _ _ v7 h
  simp only [List.setIfInBounds_toArray, List.set_cons_zero, List.set_cons_succ] at h
  have h := heap_setCell_same _ b 8 _ _ v8 h
  simp only [List.setIfInBounds_toArray, List.set_cons_zero, List.set_cons_succ] at h
  have h := heap_setCell_same _ b 9 _ _ v9 h
  simp only [List.setIfInBounds_toArray, List.set_cons_zero, List.set_cons_succ] at h
  have h := heap_setCell_same _ b 10 _ _ v10 h
  simp only [List.setIfInBounds_toArray, List.set_cons_zero, List.set_cons_succ] at h
  have h := heap_setCell_same _ b 11 _ _ v11 h
  simp only [List.setIfInBounds_toArray, List.set_cons_zero, List.set_cons_succ] at h
  have h := heap_setCell_same _ b 12 _ _ v12 h
  simp only [List.setIfInBounds_toArray, List.set_cons_zero, List.set_cons_succ] at h
  exact h

/-- A clock that lies from N on. -/
def DpIs (N : Nat) (W : World) (v : Value) (d : List Int) : Prop := ∃ (a : Option Addr) (cap : Nat), v = .slice a d.length cap ∧ d.length ≤ cap ∧ d.length ≤ 64 ∧ (d = [] ∨ ∃ b o, a = some ⟨b, o, none⟩ ∧ N ≤ b ∧ IntsAt W b o d)
theorem IntsAt.block {w w' : World} {b o : Nat} {d : List Int} (h : IntsAt w b o d) (hb : w'.heap[b]? = w.heap[b]?) : IntsAt w' b o d := fun i hi => (World.cell?_of_block hb).trans (h i hi)
theorem DpIs.of {N : Nat} {W : World} {v : Value} {d : List Int} (h : OwnI N W v d) (hl : d.length ≤ 64) : DpIs N W v d := by
  have h0 := h.isI (by omega)
  obtain ⟨a, cap, e, hc, _, r⟩ := h0
  refine ⟨a, cap, e, hc, hl, r.imp id fun ⟨b, o, e2, hr⟩ => ⟨b, o, e2, ?_, hr⟩⟩
  exact h.block b (by rw [e, e2]; rfl)
theorem DpIs.isI {N : Nat} {W : World} {v : Value} {d : List Int} (h : DpIs N W v d) : IsI W v d := by
  obtain ⟨a, cap, e, hc, hl, r⟩ := h
  exact ⟨a, cap, e, hc, by omega, r.imp id fun ⟨b, o, e2, _, hr⟩ => ⟨b, o, e2, hr⟩⟩
theorem DpIs.mono {N M : Nat} {W : World} {v : Value} {d : List Int} (h : DpIs N W v d) (hm : M ≤ N) : DpIs M W v d := by
  obtain ⟨a, cap, e, hc, hl, r⟩ := h
  exact ⟨a, cap, e, hc, hl, r.imp id fun ⟨b, o, e2, hb, hr⟩ => ⟨b, o, e2, by omega, hr⟩⟩
theorem DpIs.form {N : Nat} {W : World} {v : Value} {d : List Int} (h : DpIs N W v d) : ∃ a cap, v = .slice a d.length cap := by obtain ⟨a, cap, e, _⟩ := h; exact ⟨a, cap, e⟩
theorem DpIs.keep {N : Nat} {W W' : World} {v : Value} {d : List Int} (h : DpIs N W v d) (hk : ∀ j, N ≤ j → j < W.heap.size → W'.heap[j]? = W.heap[j]?) : DpIs N W' v d := by
  obtain ⟨a, cap, e, hc, hl, r⟩ := h
  refine ⟨a, cap, e, hc, hl, ?_⟩
  by_cases hd : d = []
  · exact .inl hd
  · obtain ⟨b, o, e2, hN, hr⟩ := r.resolve_left hd
    exact .inr ⟨b, o, e2, hN, hr.block (hk b hN (hr.lt hd))⟩
theorem DpIs.below {N : Nat} {W W' : World} {v : Value} {d : List Int} (h : DpIs N W v d) (hb : Below W.heap.size W W') : DpIs N W' v d := h.keep fun j _ hj => hb.block j hj
theorem DpIs.out {N g : Nat} {W W' : World} {v : Value} {d : List Int} (h : DpIs N W v d) (ho : Out g W W') (hg : g < N) : DpIs N W' v d := h.keep fun j hN hj => ho.2 j hj (by omega)
theorem DpIs.set {N g i : Nat} {W : World} {u v : Value} {d : List Int} (h : DpIs N W v d) (hg : g < N) : DpIs N (W.setCell ⟨g, i, none⟩ u) v d := h.keep fun j hN hj => heap_setCell_other W ⟨g, i, none⟩ j u (by show j ≠ g; omega)

/-- The reader, the box of the result, the change's box. -/
def Rst (w0 : World) (g gr gc : Nat) (s : ByteArray) (cs : Array Value) (W : World) : Prop :=
  RdSt w0 g s W ∧ W.heap[gr]? = some (.cells #[.int .i64 0, .int .i64 0, .int .i64 0, .slice none 0 0, .int .i64 0, .int .i64 0, .int .i64 0, .int .i64 0, .int .i64 0, .int .i64 0, .int .i64 0, .string ⟨#[]⟩, .string ⟨#[]⟩] 26) ∧ W.heap[gc]? = some (.cells cs 26) ∧ (gr ≠ g ∧ gc ≠ g ∧ gr ≠ gc) ∧ w0.heap.size ≤ gr ∧ w0.heap.size ≤ gc
theorem RdSt.set {w0 : World} {g k i : Nat} {s : ByteArray} {W : World} {v : Value} (h : RdSt w0 g s W) (hk : w0.heap.size ≤ k) (hne : g ≠ k) : RdSt w0 g s (W.setCell ⟨k, i, none⟩ v) :=
  ⟨h.1, h.2.1.setCell hk _, h.2.2.1, row_set_other h.2.2.2.1 hne, h.2.2.2.2⟩
theorem Rst.out {w0 : World} {g gr gc : Nat} {s s2 : ByteArray} {cs : Array Value} {W W' : World} (h : Rst w0 g gr gc s cs W) (hr : RdSt w0 g s2 W') (ho : Out g W W') : Rst w0 g gr gc s2 cs W' :=
  ⟨hr, row_out h.2.1 ho h.2.2.2.1.1, row_out h.2.2.1 ho h.2.2.2.1.2.1, h.2.2.2⟩
theorem Rst.below {w0 : World} {g gr gc : Nat} {s : ByteArray} {cs : Array Value} {W W' : World} (h : Rst w0 g gr gc s cs W) (hb : Below W.heap.size W W') : Rst w0 g gr gc s cs W' :=
  ⟨h.1.below hb, row_below h.2.1 hb, row_below h.2.2.1 hb, h.2.2.2⟩
theorem Rst.set {w0 : World} {g gr gc : Nat} {s : ByteArray} {cs : Array Value} {W : World} (h : Rst w0 g gr gc s cs W) (i : Nat) (v : Value) : Rst w0 g gr gc s (cs.setIfInBounds i v) (W.setCell ⟨gc, i, none⟩ v) :=
  ⟨h.1.set h.2.2.2.2.2 (fun e => h.2.2.2.1.2.1 e.symm), row_set_other h.2.1 h.2.2.2.1.2.2, heap_setCell_same W gc i _ _ v h.2.2.1, h.2.2.2⟩
/-- .. with the clock, and the box of what the kind has. -/
def Rs2 (w0 : World) (g gr gc gh N : Nat) (s : ByteArray) (cs hs : Array Value) (dv : Value) (ds : List Int) (W : World) : Prop :=
  Rst w0 g gr gc s cs W ∧ (DpIs N W dv ds ∧ g < N ∧ gc < N ∧ gr < N) ∧ W.heap[gh]? = some (.cells hs 45) ∧ gh ≠ g ∧ gh ≠ gc
theorem Rs2.out {w0 : World} {g gr gc gh N : Nat} {s s2 : ByteArray} {cs hs : Array Value} {dv : Value} {ds : List Int} {W W' : World} (h : Rs2 w0 g gr gc gh N s cs hs dv ds W) (hr : RdSt w0 g s2 W') (ho : Out g W W') : Rs2 w0 g gr gc gh N s2 cs hs dv ds W' :=
  ⟨h.1.out hr ho, ⟨h.2.1.1.out ho h.2.1.2.1, h.2.1.2⟩, row_out h.2.2.1 ho h.2.2.2.1, h.2.2.2⟩
theorem Rs2.below {w0 : World} {g gr gc gh N : Nat} {s : ByteArray} {cs hs : Array Value} {dv : Value} {ds : List Int} {W W' : World} (h : Rs2 w0 g gr gc gh N s cs hs dv ds W) (hb : Below W.heap.size W W') : Rs2 w0 g gr gc gh N s cs hs dv ds W' :=
  ⟨h.1.below hb, ⟨h.2.1.1.below hb, h.2.1.2⟩, row_below h.2.2.1 hb, h.2.2.2⟩
theorem Rs2.set {w0 : World} {g gr gc gh N : Nat} {s : ByteArray} {cs hs : Array Value} {dv : Value} {ds : List Int} {W : World} (h : Rs2 w0 g gr gc gh N s cs hs dv ds W) (i : Nat) (v : Value) : Rs2 w0 g gr gc gh N s (cs.setIfInBounds i v) hs dv ds (W.setCell ⟨gc, i, none⟩ v) :=
  ⟨h.1.set i v, ⟨h.2.1.1.set h.2.1.2.2.1, h.2.1.2⟩, row_set_other h.2.2.1 h.2.2.2.2, h.2.2.2⟩

end Go.Proofs.YtaocjmipjibiaabGreatDoor
