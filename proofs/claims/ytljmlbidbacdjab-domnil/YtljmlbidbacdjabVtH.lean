/- The tree of a Doc with nothing in it; does the program answer? -/
import Derived.Test.YtljmlbidbacdjabVtG
import Derived.Deep.Cut
namespace Go.Proofs.Ytljmlbidbacdjab
open Go.RowKit
set_option linter.unusedVariables false
set_option linter.unusedSimpArgs false

theorem Touch.setNew {F : Nat → Prop} {w W : World} (h : Touch F w W) {b : Nat} (hb : w.heap.size ≤ b) (i : Nat) (v : Value) : Touch F w (W.setCell ⟨b, i, none⟩ v) := ⟨h.os, h.tape, h.output, by simp [World.setCell]; exact h.size, fun k hk hF => (RowKit.Below.heap_setCell _ _ _ _ (fun (e : k = b) => by omega)).trans (h.block k hk hF)⟩
theorem Touch.setRowNew {F : Nat → Prop} {w W : World} (h : Touch F w W) {b : Nat} (hb : w.heap.size ≤ b) (c : Array Value) : Touch F w (W.setRow b c) := ⟨h.os, h.tape, h.output, by simp; exact h.size, fun k hk hF => (setRow_other W b k c (by omega)).trans (h.block k hk hF)⟩
theorem Touch.belowW {F : Nat → Prop} {w W W' : World} (h : Touch F w W) (hb : Below W.heap.size W W') : Touch F w W' := Touch.trans h (Touch.of_below (F := F) hb) (fun j q => .inl q)
theorem row6f {W : World} {b : Nat} {cs : Array Value} {ty : TypeId} (h : W.heap[b]? = some (.cells cs ty)) (j : Nat) : W.frozen? ⟨b, j, none⟩ = false := frozen_of_row W b j _ _ h
theorem row_set6 {W : World} {b : Nat} {x0 x1 x2 x3 x4 x5 v0 v1 v2 v3 v4 v5 : Value} {ty : TypeId} (h : W.heap[b]? = some (.cells #[x0, x1, x2, x3, x4, x5] ty)) : ((((((W.setCell ⟨b, 0, none⟩ (v0)).setCell ⟨b, 1, none⟩ (v1)).setCell ⟨b, 2, none⟩ (v2)).setCell ⟨b, 3, none⟩ (v3)).setCell ⟨b, 4, none⟩ (v4)).setCell ⟨b, 5, none⟩ (v5)).heap[b]? = some (.cells #[v0, v1, v2, v3, v4, v5] ty) := by
  have h1 := heap_setCell_same W b 0 _ _ v0 h
  have h2 := heap_setCell_same _ b 1 _ _ v1 h1
  have h3 := heap_setCell_same _ b 2 _ _ v2 h2
  have h4 := heap_setCell_same _ b 3 _ _ v3 h3
  have h5 := heap_setCell_same _ b 4 _ _ v4 h4
  have h6 := heap_setCell_same _ b 5 _ _ v5 h5
  simpa using h6

theorem len_set {w : World} {b : Nat} {D : List St} (h : MapIs id kU w b D) : (Builtin.len_ #[94] 3 #[.map (some b)]).run Try.prog w = .ok (.int .i64 (D.length : Int)) w := by
  obtain ⟨es, cl, hb, he⟩ := h
  have hz : es.size = D.length := by
    have h1 := congrArg List.length he.ent
    simpa only [List.length_map, Array.length_toList] using h1
  simp [Builtin.len_, run_underlying Try.underlying94, run_underlying Try.underlying3, MapKept.run_getObj_map hb, hz, Result.andThen]
  rfl

theorem sizeVN : (Try.prog.info? 42).map (·.size) = some 6 := by kernel_rfl

end Go.Proofs.Ytljmlbidbacdjab
