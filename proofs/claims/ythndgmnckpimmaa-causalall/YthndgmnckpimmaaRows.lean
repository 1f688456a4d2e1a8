/-
  No cell of these rows narrows 'for every input' (looked for: loops, veiled, ifaces, maps, wideKeys, modest, calm, conditions, laid).
  DERIVED. THE GIVEN ROWS OF THIS SEAT. 3 by the template 'for every input the law returns true; each argument reads behind the call as it read before'; 0 by the template 'total and deterministic' (their statements: YthndgmnckpimmaaTotals.lean).
  GIVEN WITH THE SEED: the statements are not yours to turn. If you find one false, say at which input.
  Laid BY PROGRAM, IN A SANDBOX (cutbox-rows.mjs): the forced cells as the released guide's own fill.sh prints them over the translation 627effb366c47e59… (all of the seat's roots in one cut). By AI agents, Wed Nov 11 2026. No macro, syntax, notation, axiom, sorry.
-/
import Derived.Test.YthndgmnckpimmaaChecked
import GoSem.Claim
import GoSem.ClaimJoined
import GoSem.ClaimMapViews
import Derived.JoinedTies
import Derived.KernelRfl
namespace Go.Proofs.Ythndgmnckpimmaa
/- THE CELL 'sum', in the pinned program and in every row, IS THE sha256 OF THE DUMP (.gsa) THAT YthndgmnckpimmaaProg.lean LOADS. Nothing in Lean hashes anything: it is a label: what it is worth is what the hold of that sum in a sandbox is worth. -/
noncomputable def Try.pinned : Pinned := { name := "ythndgmnckpimmaa", sum := "627effb366c47e5903962a757353c0accd26a548b2e540674f5f859ffb3401c3", checked := Try.checked }
namespace Rows
def none {H : Type} : Left H := { results := [], args := [] }

/-- 'topiarylaw09.CausalTakes': WHATEVER THE INPUT: true; the input reads as it did. -/
def causalTakesSpec : ChangeSpec := { name := "causalTakes", fn := fun _ => fun
  | [d1, d2] => { results := [.lit (.bool true)], args := [d1, d2] }
  | _ => none }
def causalTakesRow : OpenClaim := { program := "ythndgmnckpimmaa", sum := "627effb366c47e5903962a757353c0accd26a548b2e540674f5f859ffb3401c3", func := "topiary/topiarylaw09.CausalTakes", spec := "causalTakes", unfollowed := true, recurses := true, plainKeys := false, apart := false }
def CausalTakesSaid : Prop := causalTakesRow.holds Try.pinned (OpenSpec.ofChange causalTakesSpec)

/-- ITS FALSE NEIGHBOUR: 'it returns false'. Refute it at one input. -/
def causalTakesWrong : ChangeSpec := { name := "causalTakes", fn := fun _ => fun
  | [d1, d2] => { results := [.lit (.bool false)], args := [d1, d2] }
  | _ => none }
def CausalTakesWrongFalsely : Prop := causalTakesRow.holds Try.pinned (OpenSpec.ofChange causalTakesWrong)

/-- 'topiarylaw09.CausalAll': WHATEVER THE INPUT: true; the input reads as it did. -/
def causalAllSpec : ChangeSpec := { name := "causalAll", fn := fun _ => fun
  | [d1, d2] => { results := [.lit (.bool true)], args := [d1, d2] }
  | _ => none }
def causalAllRow : OpenClaim := { program := "ythndgmnckpimmaa", sum := "627effb366c47e5903962a757353c0accd26a548b2e540674f5f859ffb3401c3", func := "topiary/topiarylaw09.CausalAll", spec := "causalAll", unfollowed := true, recurses := true, plainKeys := false, apart := false }
def CausalAllSaid : Prop := causalAllRow.holds Try.pinned (OpenSpec.ofChange causalAllSpec)

/-- ITS FALSE NEIGHBOUR: 'it returns false'. Refute it at one input. -/
def causalAllWrong : ChangeSpec := { name := "causalAll", fn := fun _ => fun
  | [d1, d2] => { results := [.lit (.bool false)], args := [d1, d2] }
  | _ => none }
def CausalAllWrongFalsely : Prop := causalAllRow.holds Try.pinned (OpenSpec.ofChange causalAllWrong)

/-- 'topiarylaw09.CausalOwn': WHATEVER THE INPUT: true; the input reads as it did. -/
def causalOwnSpec : ChangeSpec := { name := "causalOwn", fn := fun _ => fun
  | [d1, d2] => { results := [.lit (.bool true)], args := [d1, d2] }
  | _ => none }
def causalOwnRow : OpenClaim := { program := "ythndgmnckpimmaa", sum := "627effb366c47e5903962a757353c0accd26a548b2e540674f5f859ffb3401c3", func := "topiary/topiarylaw09.CausalOwn", spec := "causalOwn", unfollowed := true, recurses := true, plainKeys := false, apart := false }
def CausalOwnSaid : Prop := causalOwnRow.holds Try.pinned (OpenSpec.ofChange causalOwnSpec)

/-- ITS FALSE NEIGHBOUR: 'it returns false'. Refute it at one input. -/
def causalOwnWrong : ChangeSpec := { name := "causalOwn", fn := fun _ => fun
  | [d1, d2] => { results := [.lit (.bool false)], args := [d1, d2] }
  | _ => none }
def CausalOwnWrongFalsely : Prop := causalOwnRow.holds Try.pinned (OpenSpec.ofChange causalOwnWrong)

/- THE SECOND FORM. 'bulk': how many values and letters a reading holds, each counted each time it is reached (what is shared counts as often as it is met; a slice's spare places count too). A statement '..UptoSaid' is the law's where the arguments, and the package variables that the reading takes, are together of bulk at most 1048576: NARROWER than '..Said'. Prove '..Said' where nothing that the law and all that it calls make is longer than what came in: it says more and counts as full. Else prove '..UptoSaid'. A law counts once. -/
mutual
def uptoBulk {H : Type} : DataW H → Nat
  | .lit (.string bytes) => bytes.length + 1
  | .lit _ => 1
  | .nil => 1
  | .ptr d => uptoBulk d + 1
  | .slice elems spare => uptoBulkAll elems + uptoBulkAll spare + 1
  | .agg parts => uptoBulkAll parts + 1
  | .iface _ d => uptoBulk d + 1
  | .map entries => uptoBulkEntries entries + 1
  | .held _ => 1
def uptoBulkAll {H : Type} : List (DataW H) → Nat
  | [] => 0
  | d :: r => uptoBulk d + uptoBulkAll r
def uptoBulkEntries {H : Type} : List (Lit × DataW H) → Nat
  | [] => 0
  | x :: r => uptoBulkEntry x + uptoBulkEntries r
def uptoBulkEntry {H : Type} : Lit × DataW H → Nat
  | (.string bytes, d) => bytes.length + uptoBulk d + 1
  | (_, d) => uptoBulk d + 1
 end
def uptoSmall : (H : Type) → List (DataW H) → Bool := fun _ ds => decide (uptoBulkAll ds ≤ 1048576)
def OpenSpec.upto (s : _root_.Go.ChangeSpec) : _root_.Go.OpenSpec := { _root_.Go.OpenSpec.ofChange s with cond := some uptoSmall }

/-- 'topiarylaw09.CausalTakes', WHERE WHAT IT READS IS OF BULK AT MOST 1048576: true; the input reads as it did. -/
def causalTakesUptoRow : OpenClaim := { program := "ythndgmnckpimmaa", sum := "627effb366c47e5903962a757353c0accd26a548b2e540674f5f859ffb3401c3", func := "topiary/topiarylaw09.CausalTakes", spec := "causalTakes", unfollowed := true, recurses := true, plainKeys := false, apart := false, narrowed := true }
def CausalTakesUptoSaid : Prop := causalTakesUptoRow.holds Try.pinned (OpenSpec.upto causalTakesSpec)

/-- 'topiarylaw09.CausalAll', WHERE WHAT IT READS IS OF BULK AT MOST 1048576: true; the input reads as it did. -/
def causalAllUptoRow : OpenClaim := { program := "ythndgmnckpimmaa", sum := "627effb366c47e5903962a757353c0accd26a548b2e540674f5f859ffb3401c3", func := "topiary/topiarylaw09.CausalAll", spec := "causalAll", unfollowed := true, recurses := true, plainKeys := false, apart := false, narrowed := true }
def CausalAllUptoSaid : Prop := causalAllUptoRow.holds Try.pinned (OpenSpec.upto causalAllSpec)

/-- 'topiarylaw09.CausalOwn', WHERE WHAT IT READS IS OF BULK AT MOST 1048576: true; the input reads as it did. -/
def causalOwnUptoRow : OpenClaim := { program := "ythndgmnckpimmaa", sum := "627effb366c47e5903962a757353c0accd26a548b2e540674f5f859ffb3401c3", func := "topiary/topiarylaw09.CausalOwn", spec := "causalOwn", unfollowed := true, recurses := true, plainKeys := false, apart := false, narrowed := true }
def CausalOwnUptoSaid : Prop := causalOwnUptoRow.holds Try.pinned (OpenSpec.upto causalOwnSpec)

end Rows
end Go.Proofs.Ythndgmnckpimmaa
