/- under, Ahead. -/
import Derived.Test.YtfgkdbidgbpobaaRwH
namespace Go.Proofs.Ytfgkdbidgbpobaa
open Go.RowKit
set_option linter.unusedVariables false
set_option linter.unusedSimpArgs false

theorem results_cell_row2 {P : Program} {fn : Func} {p u : Tmp} {ty : TypeId} (h : fn.results = #[.cell p ty, .tmp u]) (tmps : Array Value) (w : World) (g : Nat) (t : TypeId) (cs : Array Value) (fr : Nat × Nat) (d : TypeDesc)
    (hp : tmps.getD p undef = .pointer (some ⟨g, 0, none⟩)) (hg : w.heap[g]? = some (.cells cs t fr))
    (hu : P.underlying ty = some d) (hd : (match d with | .struct _ | .array _ _ => true | _ => false) = true) (hi : (P.info? ty).map (·.size) = some cs.size) {k : Value} (hk : tmps.getD u undef = k) :
    (results fn tmps).run P w = .ok (.tuple #[.agg cs, k]) w := by
  rw [results_cell_tmp h, hp, hk]
  simp [asAddr, run_loadVar_row w g t ty cs fr d hg hu hd hi]
/-- What under answers. -/
def UnP (F : Nat → Prop) (w : World) (L : List Sl) (s : St) (e : Ending) (w' : World) : Prop := ∃ sv, e = .returned (.tuple #[.agg #[.int .i64 (upO L s).1, .int .i64 (upO L s).2], sv]) ∧ OwnSt 0 w' sv (kidL L (upO L s)) ∧ (∀ k, sv.ownBlock = some k → F k) ∧ Below w.heap.size w w'

theorem RowIs.cell0 {F : Nat → Prop} {W : World} {rb : Nat} {L : List Sl} {ma mb : Nat} {fv : Value} {E : List (St × Value)} (h : RowIs F W rb L (behZ L) (frL L) ma mb fv E) {c k : St} {ks : List St} {g n cp : Nat} (hv : vB E c = .slice (some ⟨g, 0, none⟩) n cp) (hk : behZ L c = k :: ks) : W.cell? ⟨g, 0, none⟩ = some (.int .i64 k.1) ∧ W.cell? ⟨g, 1, none⟩ = some (.int .i64 k.2) := by
  have ho := h.ownB c
  rw [hk] at ho
  obtain ⟨g', cap, e, _, hcs, _⟩ := ho.cells stCells_len (i := 0) (by simp)
  rw [hv] at e
  cases e
  exact ⟨hcs 0 _ rfl, hcs 1 _ rfl⟩
/-- What stands while Ahead goes down. -/
structure AhL (F : Nat → Prop) (w : World) (bx bl rb : Nat) (L : List Sl) (ma mb : Nat) (fv : Value) (E : List (St × Value)) (c : St) (W : World) : Prop where
  row : RowIs F W rb L (behZ L) (frL L) ma mb fv E
  l : BxC bl (stCells c) 33 W
  r : BxC (bx + 1) [.int .i64 0, .int .i64 0] 33 W
  has : hasL L c = true
  bel : Below w.heap.size w W
  q : w.heap.size ≤ bx ∧ bx + 1 < bl ∧ ∀ k, F k → k < bx
theorem AhL.below {F : Nat → Prop} {w : World} {bx bl rb : Nat} {L : List Sl} {ma mb : Nat} {fv : Value} {E : List (St × Value)} {c : St} {W W' : World} (h : AhL F w bx bl rb L ma mb fv E c W) (hb : Below W.heap.size W W') : AhL F w bx bl rb L ma mb fv E c W' := ⟨h.row.below hb, h.l.below hb, h.r.below hb, h.has, h.bel.trans (hb.mono h.bel.size), h.q⟩
theorem AhL.set {F : Nat → Prop} {w : World} {bx bl rb : Nat} {L : List Sl} {ma mb : Nat} {fv : Value} {E : List (St × Value)} {c k : St} {W : World} (h : AhL F w bx bl rb L ma mb fv E c W) (hk : hasL L k = true) : AhL F w bx bl rb L ma mb fv E k (W.setRow bl (stCells k).toArray) := by
  have ht : Touch (fun j => j = bl) W (W.setRow bl (stCells k).toArray) := Touch.of_grown (grown_setRow _ _ _) fun j e _ => by cases e; rfl
  obtain ⟨q1, q2, q3⟩ := h.q
  exact ⟨h.row.touch ht (fun j hj e => by have := q3 j hj; omega), setRow_same h.l, h.r.touch ht (fun e => by omega), hk, h.bel.trans (ht.below (fun j e => by omega) h.bel.size), h.q⟩


end Go.Proofs.Ytfgkdbidgbpobaa
