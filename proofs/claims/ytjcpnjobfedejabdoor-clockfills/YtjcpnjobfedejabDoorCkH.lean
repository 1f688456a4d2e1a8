/- What hasMore and Compare do; the document's Compare; the walk of ClockCompares. -/
import Derived.Test.YtjcpnjobfedejabDoorCkG
import Derived.Test.YtjcpnjobfedejabDoorCkN
import Derived.Test.YtjcpnjobfedejabDoorCkW
namespace Go.Proofs.YtjcpnjobfedejabDoor
open Go.RowKit Go.Shelf
set_option linter.unusedVariables false

attribute [local go_sem] Oper.semAt_some

theorem results_boolCell {fn : Func} (hr : fn.results = #[.cell 4 4]) (tmps : Array Value) (R : Nat) (w : World) (b : Bool) (hp : tmps.getD 4 undef = .pointer (some ⟨R, 0, none⟩)) (hc : w.cell? ⟨R, 0, none⟩ = some (.bool b)) : (results fn tmps).run Tryd.prog w = .ok (.bool b) w := by
  have hp' : tmps[4]?.getD undef = .pointer (some ⟨R, 0, none⟩) := by simpa using hp
  simp [results, hr, hp', asAddr, loadVar, isAgg, run_underlying Tryd.underlying4, load, go_sem]
  simp [Sem.run, hc]

/-- Two lists in boxes, behind a box of the caller's. -/
theorem rowIn_of {w W : World} {a : Option Addr} {d : List Int} (S : Nat → Prop) (hr : d = [] ∨ ∃ b o, a = some ⟨b, o, none⟩ ∧ IntsAt w b o d) (hb : Below w.heap.size w W) (hS : ∀ k, k < w.heap.size → S k) : RowIn S W a d := by
  by_cases hd : d = []
  · exact .inl hd
  · obtain ⟨b, o, e, g⟩ := hr.resolve_left hd
    exact .inr ⟨b, o, e, hS b (g.lt hd), g.below hb⟩

end Go.Proofs.YtjcpnjobfedejabDoor
