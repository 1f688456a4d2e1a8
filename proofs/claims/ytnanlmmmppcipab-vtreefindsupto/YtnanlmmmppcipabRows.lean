/-
  NARROWER THAN 'FOR EVERY INPUT', by the rows' own cells (each row's printed sentence says how): VtreeFinds: loops.
  DERIVED. THE GIVEN ROWS OF THIS SEAT. 2 by the template 'for every input the law returns true; each argument reads behind the call as it read before'; 0 by the template 'total and deterministic' (their statements: YtnanlmmmppcipabTotals.lean).
  GIVEN WITH THE SEED: the statements are not yours to turn. If you find one false, say at which input.
  Laid BY PROGRAM, IN A SANDBOX (cutbox-rows.mjs): the forced cells as the released guide's own fill.sh prints them over the translation d5a1f60ebb4e397e… (all of the seat's roots in one cut). By AI agents, Wed Nov 11 2026. No macro, syntax, notation, axiom, sorry.
-/
import Derived.Test.YtnanlmmmppcipabChecked
import GoSem.Claim
import GoSem.ClaimJoined
import GoSem.ClaimMapViews
import Derived.JoinedTies
import Derived.KernelRfl
namespace Go.Proofs.Ytnanlmmmppcipab
/- THE CELL 'sum', in the pinned program and in every row, IS THE sha256 OF THE DUMP (.gsa) THAT YtnanlmmmppcipabProg.lean LOADS. Nothing in Lean hashes anything: it is a label: what it is worth is what the hold of that sum in a sandbox is worth. -/
noncomputable def Try.pinned : Pinned := { name := "ytnanlmmmppcipab", sum := "d5a1f60ebb4e397e9570cb3dc31bf587513a01bea0c182e603e013d8c2048635", checked := Try.checked }
namespace Rows
def none {H : Type} : Left H := { results := [], args := [] }

/-- 'topiarylaw15.VtreeLive': WHATEVER THE INPUT: true; the input reads as it did. -/
def vtreeLiveSpec : ChangeSpec := { name := "vtreeLive", fn := fun _ => fun
  | [d] => { results := [.lit (.bool true)], args := [d] }
  | _ => none }
def vtreeLiveRow : OpenClaim := { program := "ytnanlmmmppcipab", sum := "d5a1f60ebb4e397e9570cb3dc31bf587513a01bea0c182e603e013d8c2048635", func := "topiary/topiarylaw15.VtreeLive", spec := "vtreeLive", unfollowed := true, recurses := true, plainKeys := false, apart := false }
def VtreeLiveSaid : Prop := vtreeLiveRow.holds Try.pinned (OpenSpec.ofChange vtreeLiveSpec)

/-- ITS FALSE NEIGHBOUR: 'it returns false'. Refute it at one input. -/
def vtreeLiveWrong : ChangeSpec := { name := "vtreeLive", fn := fun _ => fun
  | [d] => { results := [.lit (.bool false)], args := [d] }
  | _ => none }
def VtreeLiveWrongFalsely : Prop := vtreeLiveRow.holds Try.pinned (OpenSpec.ofChange vtreeLiveWrong)

/-- 'topiarylaw15.VtreeFinds': WHATEVER THE INPUT: true; the input reads as it did. -/
def vtreeFindsSpec : ChangeSpec := { name := "vtreeFinds", fn := fun _ => fun
  | [d] => { results := [.lit (.bool true)], args := [d] }
  | _ => none }
def vtreeFindsRow : OpenClaim := { program := "ytnanlmmmppcipab", sum := "d5a1f60ebb4e397e9570cb3dc31bf587513a01bea0c182e603e013d8c2048635", func := "topiary/topiarylaw15.VtreeFinds", spec := "vtreeFinds", unfollowed := true, recurses := true, loops := true, plainKeys := false, apart := false }
def VtreeFindsSaid : Prop := vtreeFindsRow.holds Try.pinned (OpenSpec.ofChange vtreeFindsSpec)

/-- ITS FALSE NEIGHBOUR: 'it returns false'. Refute it at one input. -/
def vtreeFindsWrong : ChangeSpec := { name := "vtreeFinds", fn := fun _ => fun
  | [d] => { results := [.lit (.bool false)], args := [d] }
  | _ => none }
def VtreeFindsWrongFalsely : Prop := vtreeFindsRow.holds Try.pinned (OpenSpec.ofChange vtreeFindsWrong)

/- THE SECOND FORM. 'bulk': how many values and letters a reading holds, each counted each time it is reached (what is shared counts as often as it is met; a slice's spare places count too). A statement '..UptoSaid' is the law's where the arguments, and the package variables that the reading takes, are together of bulk at most 1048576: NARROWER than '..Said'. Prove '..Said' where nothing that the law and all that it calls make is longer than what came in: it says more and counts as full. Else prove '..UptoSaid'. A law counts once. -/
mutual
def uptoBulk {H : Type} : DataW H → Nat
  | .lit (.string bytes) => bytes.length + 1
  | .lit _ => 1
  | .nil => 1
  | .ptr d => uptoBulk d + 1
  | .slice elems spare => uptoBulkAll elems + uptoBulkAll spare + 1
  | .agg parts => uptoBulkAll parts + 1
  | .iface _ d => uptoBulk d + 1
  | .map entries => uptoBulkEntries entries + 1
  | .held _ => 1
def uptoBulkAll {H : Type} : List (DataW H) → Nat
  | [] => 0
  | d :: r => uptoBulk d + uptoBulkAll r
def uptoBulkEntries {H : Type} : List (Lit × DataW H) → Nat
  | [] => 0
  | x :: r => uptoBulkEntry x + uptoBulkEntries r
def uptoBulkEntry {H : Type} : Lit × DataW H → Nat
  | (.string bytes, d) => bytes.length + uptoBulk d + 1
  | (_, d) => uptoBulk d + 1
 end
def uptoSmall : (H : Type) → List (DataW H) → Bool := fun _ ds => decide (uptoBulkAll ds ≤ 1048576)
def OpenSpec.upto (s : _root_.Go.ChangeSpec) : _root_.Go.OpenSpec := { _root_.Go.OpenSpec.ofChange s with cond := some uptoSmall }

/-- 'topiarylaw15.VtreeLive', WHERE WHAT IT READS IS OF BULK AT MOST 1048576: true; the input reads as it did. -/
def vtreeLiveUptoRow : OpenClaim := { program := "ytnanlmmmppcipab", sum := "d5a1f60ebb4e397e9570cb3dc31bf587513a01bea0c182e603e013d8c2048635", func := "topiary/topiarylaw15.VtreeLive", spec := "vtreeLive", unfollowed := true, recurses := true, plainKeys := false, apart := false, narrowed := true }
def VtreeLiveUptoSaid : Prop := vtreeLiveUptoRow.holds Try.pinned (OpenSpec.upto vtreeLiveSpec)

/-- 'topiarylaw15.VtreeFinds', WHERE WHAT IT READS IS OF BULK AT MOST 1048576: true; the input reads as it did. -/
def vtreeFindsUptoRow : OpenClaim := { program := "ytnanlmmmppcipab", sum := "d5a1f60ebb4e397e9570cb3dc31bf587513a01bea0c182e603e013d8c2048635", func := "topiary/topiarylaw15.VtreeFinds", spec := "vtreeFinds", unfollowed := true, recurses := true, loops := true, plainKeys := false, apart := false, narrowed := true }
def VtreeFindsUptoSaid : Prop := vtreeFindsUptoRow.holds Try.pinned (OpenSpec.upto vtreeFindsSpec)

end Rows
end Go.Proofs.Ytnanlmmmppcipab
