/- A struct into the variable that was just made: in one step. -/
import Derived.Test.YthndgmnckpimmaaOlH
import Derived.Deep.MidRow
import Derived.Deep.WholeRow
import Derived.Deep.Cut
namespace Go.Proofs.Ythndgmnckpimmaa
open Go.RowKit
set_option linter.unusedVariables false

theorem wp_store_new {P : Program} {op : Oper} {a : Act} {w : World} {K : Act → World → Prop} {Q : Exit → Act → World → Prop} (ty : TypeId) (x y : Operand) (ho : op.op = .store ty x y)
    (c c' : Array Value) (hx : a.eval x = .pointer (some ⟨w.heap.size, 0, none⟩)) (hy : a.eval y = .agg c')
    (hi : (P.info? ty).map (·.size) = some c'.size) (hs : c.size = c'.size) (h1 : c'.all (·.oneCell') = true)
    (h : K (a.put op.dst undef) (w.alloc (.cells c' ty))) : op.wp P a (w.alloc (.cells c ty)) K Q := by
  unfold Oper.wp execOp
  simp only [ho, hx, hy, Sem.run_bind, run_storeAt_new w ty c c' hi hs h1, Result.andThen_ok, Sem.run_pure]
  exact h
theorem wpList_store_new {P : Program} {ops : Array Oper} {rest : List Oper} {op : Oper} {a : Act} {w : World} {Q : Exit → Act → World → Prop} (hgd : op.guard = none) (ty : TypeId) (x y : Operand) (ho : op.op = .store ty x y)
    (c c' : Array Value) (hx : a.eval x = .pointer (some ⟨w.heap.size, 0, none⟩)) (hy : a.eval y = .agg c')
    (hi : (P.info? ty).map (·.size) = some c'.size) (hs : c.size = c'.size) (h1 : c'.all (·.oneCell') = true)
    (h : wpList P ops Q rest (a.put op.dst undef) (w.alloc (.cells c' ty))) : wpList P ops Q (op :: rest) a (w.alloc (.cells c ty)) :=
  wpList_plain hgd fun _ hK => wp_store_new ty x y ho c c' hx hy hi hs h1 (hK _ _ h)
theorem sizeChange : (Try.prog.info? 35).map (·.size) = some 13 := by kernel_rfl
theorem ChAt.range {w : World} {b o : Nat} {c : Ch} {a : Option Addr} {cap : Nat} (h : ∀ j u, (chCells c (.slice a c.deps.length cap))[j]? = some u → w.cell? ⟨b, o + j, none⟩ = some u) : w.rangeAt b o (chCells c (.slice a c.deps.length cap)) := h
theorem ChAt.open {w : World} {b o : Nat} {c : Ch} (h : ChAt w b o c) : ∃ (a : Option Addr) (cap : Nat), IsI w (.slice a c.deps.length cap) c.deps ∧ Sized c ∧ w.rangeAt b o (chCells c (.slice a c.deps.length cap)) := by
  obtain ⟨dv, h, hi, hs⟩ := h
  obtain ⟨a, cap, rfl⟩ := hi.form
  exact ⟨a, cap, hi, hs, h⟩
theorem chCells_one (c : Ch) (a : Option Addr) (n cap : Nat) : (chCells c (.slice a n cap)).toArray.all (·.oneCell') = true := by simp [chCells, Value.oneCell']
theorem row_lt {k : Nat} {W : World} {cs : Array Value} {t : TypeId} (h : W.heap[k]? = some (.cells cs t)) : k < W.heap.size := (Array.getElem?_eq_some_iff.1 h).1
theorem row_keptC {w0 W : World} {b : Nat} {v0 v1 v2 v3 v4 v5 v6 v7 v8 v9 v10 v11 v12 : Value} {t : TypeId} (h : W.heap[b]? = some (.cells #[v0, v1, v2, v3, v4, v5, v6, v7, v8, v9, v10, v11, v12] t)) (hb : Below w0.heap.size w0 W) : KeptC w0 b [v0, v1, v2, v3, v4, v5, v6, v7, v8, v9, v10, v11, v12] W := by
  refine ⟨fun i v hv => ?_, row_lt h, hb⟩
  rw [cell_of_row W b i _ _ _ h]
  simpa using hv

end Go.Proofs.Ythndgmnckpimmaa
