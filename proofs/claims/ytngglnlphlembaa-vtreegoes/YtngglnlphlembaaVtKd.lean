/- The last of a row of stamps; what stands while Parent goes over the nodes. -/
import Derived.Test.YtngglnlphlembaaVtKc
namespace Go.Proofs.Ytngglnlphlembaa
open Go.RowKit Go.Shelf
set_option linter.unusedVariables false
set_option linter.unusedSimpArgs false

attribute [local go_sem] Oper.semAt_some

/-- The last one, if there is one. -/
def lastS (D : List St) : St × Bool := match D.getLast? with | some s => (s, true) | none => ((0, 0), false)
theorem lastS_nil : lastS [] = ((0, 0), false) := rfl
theorem lastS_pos {D : List St} {n : Nat} (h : D.length = n + 1) : lastS D = (D[n]'(by omega), true) := by
  have e : D.getLast? = some (D[n]'(by omega)) := by
    rw [List.getLast?_eq_getElem?, show D.length - 1 = n by omega, List.getElem?_eq_getElem (by omega)]
  unfold lastS
  rw [e]
theorem results_cell_tmp9 {fn : Func} {p u : Tmp} {ty : TypeId} (h : fn.results = #[.cell p ty, .tmp u]) (tmps : Array Value) (w : World) (g : Nat) (cs : Array Value)
    (hp : tmps.getD p undef = .pointer (some ⟨g, 0, none⟩)) (e1 : (loadVar ty ⟨g, 0, none⟩).run Try.prog w = .ok (.agg cs) w) :
    (results fn tmps).run Try.prog w = .ok (.tuple #[.agg cs, tmps.getD u undef]) w := by
  have hp' : tmps[p]?.getD undef = .pointer (some ⟨g, 0, none⟩) := by simpa using hp
  simp [results, h, hp', asAddr, e1]
theorem row_set2k {W : World} {b : Nat} {z0 z1 v0 v1 : Value} {t : TypeId} (h : W.heap[b]? = some (.cells #[z0, z1] t)) : ((W.setCell ⟨b, 0, none⟩ v0).setCell ⟨b, 1, none⟩ v1).heap[b]? = some (.cells #[v0, v1] t) := by
  have h0 := heap_setCell_same W b 0 _ _ v0 h
  have h1 := heap_setCell_same _ b 1 _ _ v1 h0
  simpa using h1

end Go.Proofs.Ytngglnlphlembaa
