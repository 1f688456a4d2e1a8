/-
  No cell of these rows narrows 'for every input' (looked for: loops, veiled, ifaces, maps, wideKeys, modest, calm, conditions, laid).
  DERIVED. THE GIVEN ROWS OF THIS SEAT. 2 by the template 'for every input the law returns true; each argument reads behind the call as it read before'; 0 by the template 'total and deterministic' (their statements: YtfgkdbidgbpobaaTotals.lean).
  GIVEN WITH THE SEED: the statements are not yours to turn. If you find one false, say at which input.
  Laid BY PROGRAM, IN A SANDBOX (cutbox-rows.mjs): the forced cells as the released guide's own fill.sh prints them over the translation 8756d4246ca9f8bf… (all of the seat's roots in one cut). By AI agents, Wed Nov 11 2026. No macro, syntax, notation, axiom, sorry.
-/
import Derived.Test.YtfgkdbidgbpobaaChecked
import GoSem.Claim
import GoSem.ClaimJoined
import GoSem.ClaimMapViews
import Derived.JoinedTies
import Derived.KernelRfl
namespace Go.Proofs.Ytfgkdbidgbpobaa
/- THE CELL 'sum', in the pinned program and in every row, IS THE sha256 OF THE DUMP (.gsa) THAT YtfgkdbidgbpobaaProg.lean LOADS. Nothing in Lean hashes anything: it is a label: what it is worth is what the hold of that sum in a sandbox is worth. -/
noncomputable def Try.pinned : Pinned := { name := "ytfgkdbidgbpobaa", sum := "8756d4246ca9f8bfb2d62a9a3d0ec0d044c5bdc3294fc7bbd56504191607535e", checked := Try.checked }
namespace Rows
def none {H : Type} : Left H := { results := [], args := [] }

/-- 'topiarylaw12.RgaGoes': WHATEVER THE INPUT: true; the input reads as it did. -/
def rgaGoesSpec : ChangeSpec := { name := "rgaGoes", fn := fun _ => fun
  | [d1, d2] => { results := [.lit (.bool true)], args := [d1, d2] }
  | _ => none }
def rgaGoesRow : OpenClaim := { program := "ytfgkdbidgbpobaa", sum := "8756d4246ca9f8bfb2d62a9a3d0ec0d044c5bdc3294fc7bbd56504191607535e", func := "topiary/topiarylaw12.RgaGoes", spec := "rgaGoes", inPlace := ["slices.overlaps[topiary/api.Stamp]", "maps.clone"], unfollowed := true, recurses := true, plainKeys := false, apart := false }
def RgaGoesSaid : Prop := rgaGoesRow.holds Try.pinned (OpenSpec.ofChange rgaGoesSpec)

/-- ITS FALSE NEIGHBOUR: 'it returns false'. Refute it at one input. -/
def rgaGoesWrong : ChangeSpec := { name := "rgaGoes", fn := fun _ => fun
  | [d1, d2] => { results := [.lit (.bool false)], args := [d1, d2] }
  | _ => none }
def RgaGoesWrongFalsely : Prop := rgaGoesRow.holds Try.pinned (OpenSpec.ofChange rgaGoesWrong)

/-- 'topiarylaw12.RgaRuns': WHATEVER THE INPUT: true; the input reads as it did. -/
def rgaRunsSpec : ChangeSpec := { name := "rgaRuns", fn := fun _ => fun
  | [d1, d2, d3] => { results := [.lit (.bool true)], args := [d1, d2, d3] }
  | _ => none }
def rgaRunsRow : OpenClaim := { program := "ytfgkdbidgbpobaa", sum := "8756d4246ca9f8bfb2d62a9a3d0ec0d044c5bdc3294fc7bbd56504191607535e", func := "topiary/topiarylaw12.RgaRuns", spec := "rgaRuns", inPlace := ["slices.overlaps[topiary/api.Stamp]"], unfollowed := true, recurses := true, plainKeys := false, apart := false }
def RgaRunsSaid : Prop := rgaRunsRow.holds Try.pinned (OpenSpec.ofChange rgaRunsSpec)

/-- ITS FALSE NEIGHBOUR: 'it returns false'. Refute it at one input. -/
def rgaRunsWrong : ChangeSpec := { name := "rgaRuns", fn := fun _ => fun
  | [d1, d2, d3] => { results := [.lit (.bool false)], args := [d1, d2, d3] }
  | _ => none }
def RgaRunsWrongFalsely : Prop := rgaRunsRow.holds Try.pinned (OpenSpec.ofChange rgaRunsWrong)

/- THE SECOND FORM. 'bulk': how many values and letters a reading holds, each counted each time it is reached (what is shared counts as often as it is met; a slice's spare places count too). A statement '..UptoSaid' is the law's where the arguments, and the package variables that the reading takes, are together of bulk at most 1048576: NARROWER than '..Said'. Prove '..Said' where nothing that the law and all that it calls make is longer than what came in: it says more and counts as full. Else prove '..UptoSaid'. A law counts once. -/
mutual
def uptoBulk {H : Type} : DataW H → Nat
  | .lit (.string bytes) => bytes.length + 1
  | .lit _ => 1
  | .nil => 1
  | .ptr d => uptoBulk d + 1
  | .slice elems spare => uptoBulkAll elems + uptoBulkAll spare + 1
  | .agg parts => uptoBulkAll parts + 1
  | .iface _ d => uptoBulk d + 1
  | .map entries => uptoBulkEntries entries + 1
  | .held _ => 1
def uptoBulkAll {H : Type} : List (DataW H) → Nat
  | [] => 0
  | d :: r => uptoBulk d + uptoBulkAll r
def uptoBulkEntries {H : Type} : List (Lit × DataW H) → Nat
  | [] => 0
  | x :: r => uptoBulkEntry x + uptoBulkEntries r
def uptoBulkEntry {H : Type} : Lit × DataW H → Nat
  | (.string bytes, d) => bytes.length + uptoBulk d + 1
  | (_, d) => uptoBulk d + 1
 end
def uptoSmall : (H : Type) → List (DataW H) → Bool := fun _ ds => decide (uptoBulkAll ds ≤ 1048576)
def OpenSpec.upto (s : _root_.Go.ChangeSpec) : _root_.Go.OpenSpec := { _root_.Go.OpenSpec.ofChange s with cond := some uptoSmall }

/-- 'topiarylaw12.RgaGoes', WHERE WHAT IT READS IS OF BULK AT MOST 1048576: true; the input reads as it did. -/
def rgaGoesUptoRow : OpenClaim := { program := "ytfgkdbidgbpobaa", sum := "8756d4246ca9f8bfb2d62a9a3d0ec0d044c5bdc3294fc7bbd56504191607535e", func := "topiary/topiarylaw12.RgaGoes", spec := "rgaGoes", inPlace := ["slices.overlaps[topiary/api.Stamp]", "maps.clone"], unfollowed := true, recurses := true, plainKeys := false, apart := false, narrowed := true }
def RgaGoesUptoSaid : Prop := rgaGoesUptoRow.holds Try.pinned (OpenSpec.upto rgaGoesSpec)

/-- 'topiarylaw12.RgaRuns', WHERE WHAT IT READS IS OF BULK AT MOST 1048576: true; the input reads as it did. -/
def rgaRunsUptoRow : OpenClaim := { program := "ytfgkdbidgbpobaa", sum := "8756d4246ca9f8bfb2d62a9a3d0ec0d044c5bdc3294fc7bbd56504191607535e", func := "topiary/topiarylaw12.RgaRuns", spec := "rgaRuns", inPlace := ["slices.overlaps[topiary/api.Stamp]"], unfollowed := true, recurses := true, plainKeys := false, apart := false, narrowed := true }
def RgaRunsUptoSaid : Prop := rgaRunsUptoRow.holds Try.pinned (OpenSpec.upto rgaRunsSpec)

end Rows
end Go.Proofs.Ytfgkdbidgbpobaa
