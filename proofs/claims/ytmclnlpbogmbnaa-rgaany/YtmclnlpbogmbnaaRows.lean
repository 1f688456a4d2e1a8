/-
  No cell of these rows narrows 'for every input' (looked for: loops, veiled, ifaces, maps, wideKeys, modest, calm, conditions, laid).
  DERIVED. THE GIVEN ROWS OF THIS SEAT. 6 by the template 'for every input the law returns true; each argument reads behind the call as it read before'; 0 by the template 'total and deterministic' (their statements: YtmclnlpbogmbnaaTotals.lean).
  GIVEN WITH THE SEED: the statements are not yours to turn. If you find one false, say at which input.
  Laid BY PROGRAM, IN A SANDBOX (cutbox-rows.mjs): the forced cells as the released guide's own fill.sh prints them over the translation 56ecf1ac2881fc48… (all of the seat's roots in one cut). By AI agents, Wed Nov 11 2026. No macro, syntax, notation, axiom, sorry.
-/
import Derived.Test.YtmclnlpbogmbnaaChecked
import GoSem.Claim
import GoSem.ClaimJoined
import GoSem.ClaimMapViews
import Derived.JoinedTies
import Derived.KernelRfl
namespace Go.Proofs.Ytmclnlpbogmbnaa
/- THE CELL 'sum', in the pinned program and in every row, IS THE sha256 OF THE DUMP (.gsa) THAT YtmclnlpbogmbnaaProg.lean LOADS. Nothing in Lean hashes anything: it is a label: what it is worth is what the hold of that sum in a sandbox is worth. -/
noncomputable def Try.pinned : Pinned := { name := "ytmclnlpbogmbnaa", sum := "56ecf1ac2881fc48c11e899225dc57deba4c9dd6fc2035eeb44f892d1778fe31", checked := Try.checked }
namespace Rows
def none {H : Type} : Left H := { results := [], args := [] }

/-- 'topiarylaw12.RgaAdds': WHATEVER THE INPUT: true; the input reads as it did. -/
def rgaAddsSpec : ChangeSpec := { name := "rgaAdds", fn := fun _ => fun
  | [d] => { results := [.lit (.bool true)], args := [d] }
  | _ => none }
def rgaAddsRow : OpenClaim := { program := "ytmclnlpbogmbnaa", sum := "56ecf1ac2881fc48c11e899225dc57deba4c9dd6fc2035eeb44f892d1778fe31", func := "topiary/topiarylaw12.RgaAdds", spec := "rgaAdds", inPlace := ["slices.overlaps[topiary/api.Stamp]"], unfollowed := true, recurses := true, plainKeys := false, apart := false }
def RgaAddsSaid : Prop := rgaAddsRow.holds Try.pinned (OpenSpec.ofChange rgaAddsSpec)

/-- ITS FALSE NEIGHBOUR: 'it returns false'. Refute it at one input. -/
def rgaAddsWrong : ChangeSpec := { name := "rgaAdds", fn := fun _ => fun
  | [d] => { results := [.lit (.bool false)], args := [d] }
  | _ => none }
def RgaAddsWrongFalsely : Prop := rgaAddsRow.holds Try.pinned (OpenSpec.ofChange rgaAddsWrong)

/-- 'topiarylaw12.RgaAsks': WHATEVER THE INPUT: true; the input reads as it did. -/
def rgaAsksSpec : ChangeSpec := { name := "rgaAsks", fn := fun _ => fun
  | [d1, d2] => { results := [.lit (.bool true)], args := [d1, d2] }
  | _ => none }
def rgaAsksRow : OpenClaim := { program := "ytmclnlpbogmbnaa", sum := "56ecf1ac2881fc48c11e899225dc57deba4c9dd6fc2035eeb44f892d1778fe31", func := "topiary/topiarylaw12.RgaAsks", spec := "rgaAsks", inPlace := ["slices.overlaps[topiary/api.Stamp]"], unfollowed := true, recurses := true, plainKeys := false, apart := false }
def RgaAsksSaid : Prop := rgaAsksRow.holds Try.pinned (OpenSpec.ofChange rgaAsksSpec)

/-- ITS FALSE NEIGHBOUR: 'it returns false'. Refute it at one input. -/
def rgaAsksWrong : ChangeSpec := { name := "rgaAsks", fn := fun _ => fun
  | [d1, d2] => { results := [.lit (.bool false)], args := [d1, d2] }
  | _ => none }
def RgaAsksWrongFalsely : Prop := rgaAsksRow.holds Try.pinned (OpenSpec.ofChange rgaAsksWrong)

/-- 'topiarylaw12.RgaGoes': WHATEVER THE INPUT: true; the input reads as it did. -/
def rgaGoesSpec : ChangeSpec := { name := "rgaGoes", fn := fun _ => fun
  | [d1, d2] => { results := [.lit (.bool true)], args := [d1, d2] }
  | _ => none }
def rgaGoesRow : OpenClaim := { program := "ytmclnlpbogmbnaa", sum := "56ecf1ac2881fc48c11e899225dc57deba4c9dd6fc2035eeb44f892d1778fe31", func := "topiary/topiarylaw12.RgaGoes", spec := "rgaGoes", inPlace := ["slices.overlaps[topiary/api.Stamp]", "maps.clone"], unfollowed := true, recurses := true, plainKeys := false, apart := false }
def RgaGoesSaid : Prop := rgaGoesRow.holds Try.pinned (OpenSpec.ofChange rgaGoesSpec)

/-- ITS FALSE NEIGHBOUR: 'it returns false'. Refute it at one input. -/
def rgaGoesWrong : ChangeSpec := { name := "rgaGoes", fn := fun _ => fun
  | [d1, d2] => { results := [.lit (.bool false)], args := [d1, d2] }
  | _ => none }
def RgaGoesWrongFalsely : Prop := rgaGoesRow.holds Try.pinned (OpenSpec.ofChange rgaGoesWrong)

/-- 'topiarylaw12.RgaAny': WHATEVER THE INPUT: true; the input reads as it did. -/
def rgaAnySpec : ChangeSpec := { name := "rgaAny", fn := fun _ => fun
  | [d1, d2] => { results := [.lit (.bool true)], args := [d1, d2] }
  | _ => none }
def rgaAnyRow : OpenClaim := { program := "ytmclnlpbogmbnaa", sum := "56ecf1ac2881fc48c11e899225dc57deba4c9dd6fc2035eeb44f892d1778fe31", func := "topiary/topiarylaw12.RgaAny", spec := "rgaAny", inPlace := ["slices.overlaps[topiary/api.Stamp]"], unfollowed := true, recurses := true, plainKeys := false, apart := false }
def RgaAnySaid : Prop := rgaAnyRow.holds Try.pinned (OpenSpec.ofChange rgaAnySpec)

/-- ITS FALSE NEIGHBOUR: 'it returns false'. Refute it at one input. -/
def rgaAnyWrong : ChangeSpec := { name := "rgaAny", fn := fun _ => fun
  | [d1, d2] => { results := [.lit (.bool false)], args := [d1, d2] }
  | _ => none }
def RgaAnyWrongFalsely : Prop := rgaAnyRow.holds Try.pinned (OpenSpec.ofChange rgaAnyWrong)

/-- 'topiarylaw12.RgaKeeps': WHATEVER THE INPUT: true; the input reads as it did. -/
def rgaKeepsSpec : ChangeSpec := { name := "rgaKeeps", fn := fun _ => fun
  | [d1, d2] => { results := [.lit (.bool true)], args := [d1, d2] }
  | _ => none }
def rgaKeepsRow : OpenClaim := { program := "ytmclnlpbogmbnaa", sum := "56ecf1ac2881fc48c11e899225dc57deba4c9dd6fc2035eeb44f892d1778fe31", func := "topiary/topiarylaw12.RgaKeeps", spec := "rgaKeeps", inPlace := ["slices.overlaps[topiary/api.Stamp]"], unfollowed := true, recurses := true, plainKeys := false, apart := false }
def RgaKeepsSaid : Prop := rgaKeepsRow.holds Try.pinned (OpenSpec.ofChange rgaKeepsSpec)

/-- ITS FALSE NEIGHBOUR: 'it returns false'. Refute it at one input. -/
def rgaKeepsWrong : ChangeSpec := { name := "rgaKeeps", fn := fun _ => fun
  | [d1, d2] => { results := [.lit (.bool false)], args := [d1, d2] }
  | _ => none }
def RgaKeepsWrongFalsely : Prop := rgaKeepsRow.holds Try.pinned (OpenSpec.ofChange rgaKeepsWrong)

/-- 'topiarylaw12.RgaBehind': WHATEVER THE INPUT: true; the input reads as it did. -/
def rgaBehindSpec : ChangeSpec := { name := "rgaBehind", fn := fun _ => fun
  | [d] => { results := [.lit (.bool true)], args := [d] }
  | _ => none }
def rgaBehindRow : OpenClaim := { program := "ytmclnlpbogmbnaa", sum := "56ecf1ac2881fc48c11e899225dc57deba4c9dd6fc2035eeb44f892d1778fe31", func := "topiary/topiarylaw12.RgaBehind", spec := "rgaBehind", inPlace := ["slices.overlaps[topiary/api.Stamp]"], unfollowed := true, recurses := true, plainKeys := false, apart := false }
def RgaBehindSaid : Prop := rgaBehindRow.holds Try.pinned (OpenSpec.ofChange rgaBehindSpec)

/-- ITS FALSE NEIGHBOUR: 'it returns false'. Refute it at one input. -/
def rgaBehindWrong : ChangeSpec := { name := "rgaBehind", fn := fun _ => fun
  | [d] => { results := [.lit (.bool false)], args := [d] }
  | _ => none }
def RgaBehindWrongFalsely : Prop := rgaBehindRow.holds Try.pinned (OpenSpec.ofChange rgaBehindWrong)

/- THE SECOND FORM. 'bulk': how many values and letters a reading holds, each counted each time it is reached (what is shared counts as often as it is met; a slice's spare places count too). A statement '..UptoSaid' is the law's where the arguments, and the package variables that the reading takes, are together of bulk at most 1048576: NARROWER than '..Said'. Prove '..Said' where nothing that the law and all that it calls make is longer than what came in: it says more and counts as full. Else prove '..UptoSaid'. A law counts once. -/
mutual
def uptoBulk {H : Type} : DataW H → Nat
  | .lit (.string bytes) => bytes.length + 1
  | .lit _ => 1
  | .nil => 1
  | .ptr d => uptoBulk d + 1
  | .slice elems spare => uptoBulkAll elems + uptoBulkAll spare + 1
  | .agg parts => uptoBulkAll parts + 1
  | .iface _ d => uptoBulk d + 1
  | .map entries => uptoBulkEntries entries + 1
  | .held _ => 1
def uptoBulkAll {H : Type} : List (DataW H) → Nat
  | [] => 0
  | d :: r => uptoBulk d + uptoBulkAll r
def uptoBulkEntries {H : Type} : List (Lit × DataW H) → Nat
  | [] => 0
  | x :: r => uptoBulkEntry x + uptoBulkEntries r
def uptoBulkEntry {H : Type} : Lit × DataW H → Nat
  | (.string bytes, d) => bytes.length + uptoBulk d + 1
  | (_, d) => uptoBulk d + 1
 end
def uptoSmall : (H : Type) → List (DataW H) → Bool := fun _ ds => decide (uptoBulkAll ds ≤ 1048576)
def OpenSpec.upto (s : _root_.Go.ChangeSpec) : _root_.Go.OpenSpec := { _root_.Go.OpenSpec.ofChange s with cond := some uptoSmall }

/-- 'topiarylaw12.RgaAdds', WHERE WHAT IT READS IS OF BULK AT MOST 1048576: true; the input reads as it did. -/
def rgaAddsUptoRow : OpenClaim := { program := "ytmclnlpbogmbnaa", sum := "56ecf1ac2881fc48c11e899225dc57deba4c9dd6fc2035eeb44f892d1778fe31", func := "topiary/topiarylaw12.RgaAdds", spec := "rgaAdds", inPlace := ["slices.overlaps[topiary/api.Stamp]"], unfollowed := true, recurses := true, plainKeys := false, apart := false, narrowed := true }
def RgaAddsUptoSaid : Prop := rgaAddsUptoRow.holds Try.pinned (OpenSpec.upto rgaAddsSpec)

/-- 'topiarylaw12.RgaAsks', WHERE WHAT IT READS IS OF BULK AT MOST 1048576: true; the input reads as it did. -/
def rgaAsksUptoRow : OpenClaim := { program := "ytmclnlpbogmbnaa", sum := "56ecf1ac2881fc48c11e899225dc57deba4c9dd6fc2035eeb44f892d1778fe31", func := "topiary/topiarylaw12.RgaAsks", spec := "rgaAsks", inPlace := ["slices.overlaps[topiary/api.Stamp]"], unfollowed := true, recurses := true, plainKeys := false, apart := false, narrowed := true }
def RgaAsksUptoSaid : Prop := rgaAsksUptoRow.holds Try.pinned (OpenSpec.upto rgaAsksSpec)

/-- 'topiarylaw12.RgaGoes', WHERE WHAT IT READS IS OF BULK AT MOST 1048576: true; the input reads as it did. -/
def rgaGoesUptoRow : OpenClaim := { program := "ytmclnlpbogmbnaa", sum := "56ecf1ac2881fc48c11e899225dc57deba4c9dd6fc2035eeb44f892d1778fe31", func := "topiary/topiarylaw12.RgaGoes", spec := "rgaGoes", inPlace := ["slices.overlaps[topiary/api.Stamp]", "maps.clone"], unfollowed := true, recurses := true, plainKeys := false, apart := false, narrowed := true }
def RgaGoesUptoSaid : Prop := rgaGoesUptoRow.holds Try.pinned (OpenSpec.upto rgaGoesSpec)

/-- 'topiarylaw12.RgaAny', WHERE WHAT IT READS IS OF BULK AT MOST 1048576: true; the input reads as it did. -/
def rgaAnyUptoRow : OpenClaim := { program := "ytmclnlpbogmbnaa", sum := "56ecf1ac2881fc48c11e899225dc57deba4c9dd6fc2035eeb44f892d1778fe31", func := "topiary/topiarylaw12.RgaAny", spec := "rgaAny", inPlace := ["slices.overlaps[topiary/api.Stamp]"], unfollowed := true, recurses := true, plainKeys := false, apart := false, narrowed := true }
def RgaAnyUptoSaid : Prop := rgaAnyUptoRow.holds Try.pinned (OpenSpec.upto rgaAnySpec)

/-- 'topiarylaw12.RgaKeeps', WHERE WHAT IT READS IS OF BULK AT MOST 1048576: true; the input reads as it did. -/
def rgaKeepsUptoRow : OpenClaim := { program := "ytmclnlpbogmbnaa", sum := "56ecf1ac2881fc48c11e899225dc57deba4c9dd6fc2035eeb44f892d1778fe31", func := "topiary/topiarylaw12.RgaKeeps", spec := "rgaKeeps", inPlace := ["slices.overlaps[topiary/api.Stamp]"], unfollowed := true, recurses := true, plainKeys := false, apart := false, narrowed := true }
def RgaKeepsUptoSaid : Prop := rgaKeepsUptoRow.holds Try.pinned (OpenSpec.upto rgaKeepsSpec)

/-- 'topiarylaw12.RgaBehind', WHERE WHAT IT READS IS OF BULK AT MOST 1048576: true; the input reads as it did. -/
def rgaBehindUptoRow : OpenClaim := { program := "ytmclnlpbogmbnaa", sum := "56ecf1ac2881fc48c11e899225dc57deba4c9dd6fc2035eeb44f892d1778fe31", func := "topiary/topiarylaw12.RgaBehind", spec := "rgaBehind", inPlace := ["slices.overlaps[topiary/api.Stamp]"], unfollowed := true, recurses := true, plainKeys := false, apart := false, narrowed := true }
def RgaBehindUptoSaid : Prop := rgaBehindUptoRow.holds Try.pinned (OpenSpec.upto rgaBehindSpec)

end Rows
end Go.Proofs.Ytmclnlpbogmbnaa
