/-
  NARROWER THAN 'FOR EVERY INPUT', by the rows' own cells (each row's printed sentence says how): DiffOf: loops · DiffShifts: loops · DiffApplies: loops · DiffNone: loops · DiffKeeps: loops · DiffTouches: loops.
  DERIVED. THE GIVEN ROWS OF THIS SEAT. 6 by the template 'for every input the law returns true; each argument reads behind the call as it read before'; 0 by the template 'total and deterministic' (their statements: YthhnglpkfcmjiaaTotals.lean).
  GIVEN WITH THE SEED: the statements are not yours to turn. If you find one false, say at which input.
  Laid BY PROGRAM, IN A SANDBOX (cutbox-rows.mjs): the forced cells as the released guide's own fill.sh prints them over the translation cc4cbb3b300b6ded… (all of the seat's roots in one cut). By AI agents, Wed Nov 11 2026. No macro, syntax, notation, axiom, sorry.
-/
import Derived.Test.YthhnglpkfcmjiaaChecked
import GoSem.Claim
import GoSem.ClaimJoined
import GoSem.ClaimMapViews
import Derived.JoinedTies
import Derived.KernelRfl
namespace Go.Proofs.Ythhnglpkfcmjiaa
/- THE CELL 'sum', in the pinned program and in every row, IS THE sha256 OF THE DUMP (.gsa) THAT YthhnglpkfcmjiaaProg.lean LOADS. Nothing in Lean hashes anything: it is a label: what it is worth is what the hold of that sum in a sandbox is worth. -/
noncomputable def Try.pinned : Pinned := { name := "ythhnglpkfcmjiaa", sum := "cc4cbb3b300b6dede6607265790bc853bfd7c1749f3105c5953d54c9f9e01142", checked := Try.checked }
namespace Rows
def none {H : Type} : Left H := { results := [], args := [] }

/-- 'topiarylaw18.DiffOf': WHATEVER THE INPUT: true; the input reads as it did. -/
def diffOfSpec : ChangeSpec := { name := "diffOf", fn := fun _ => fun
  | [d1, d2] => { results := [.lit (.bool true)], args := [d1, d2] }
  | _ => none }
def diffOfRow : OpenClaim := { program := "ythhnglpkfcmjiaa", sum := "cc4cbb3b300b6dede6607265790bc853bfd7c1749f3105c5953d54c9f9e01142", func := "topiary/topiarylaw18.DiffOf", spec := "diffOf", inPlace := ["maps.clone"], unfollowed := true, recurses := true, loops := true, plainKeys := false, apart := false }
def DiffOfSaid : Prop := diffOfRow.holds Try.pinned (OpenSpec.ofChange diffOfSpec)

/-- ITS FALSE NEIGHBOUR: 'it returns false'. Refute it at one input. -/
def diffOfWrong : ChangeSpec := { name := "diffOf", fn := fun _ => fun
  | [d1, d2] => { results := [.lit (.bool false)], args := [d1, d2] }
  | _ => none }
def DiffOfWrongFalsely : Prop := diffOfRow.holds Try.pinned (OpenSpec.ofChange diffOfWrong)

/-- 'topiarylaw18.DiffShifts': WHATEVER THE INPUT: true; the input reads as it did. -/
def diffShiftsSpec : ChangeSpec := { name := "diffShifts", fn := fun _ => fun
  | [d1, d2, d3] => { results := [.lit (.bool true)], args := [d1, d2, d3] }
  | _ => none }
def diffShiftsRow : OpenClaim := { program := "ythhnglpkfcmjiaa", sum := "cc4cbb3b300b6dede6607265790bc853bfd7c1749f3105c5953d54c9f9e01142", func := "topiary/topiarylaw18.DiffShifts", spec := "diffShifts", inPlace := ["maps.clone"], unfollowed := true, recurses := true, loops := true, plainKeys := false, apart := false }
def DiffShiftsSaid : Prop := diffShiftsRow.holds Try.pinned (OpenSpec.ofChange diffShiftsSpec)

/-- ITS FALSE NEIGHBOUR: 'it returns false'. Refute it at one input. -/
def diffShiftsWrong : ChangeSpec := { name := "diffShifts", fn := fun _ => fun
  | [d1, d2, d3] => { results := [.lit (.bool false)], args := [d1, d2, d3] }
  | _ => none }
def DiffShiftsWrongFalsely : Prop := diffShiftsRow.holds Try.pinned (OpenSpec.ofChange diffShiftsWrong)

/-- 'topiarylaw18.DiffApplies': WHATEVER THE INPUT: true; the input reads as it did. -/
def diffAppliesSpec : ChangeSpec := { name := "diffApplies", fn := fun _ => fun
  | [d1, d2] => { results := [.lit (.bool true)], args := [d1, d2] }
  | _ => none }
def diffAppliesRow : OpenClaim := { program := "ythhnglpkfcmjiaa", sum := "cc4cbb3b300b6dede6607265790bc853bfd7c1749f3105c5953d54c9f9e01142", func := "topiary/topiarylaw18.DiffApplies", spec := "diffApplies", inPlace := ["maps.clone"], unfollowed := true, recurses := true, loops := true, plainKeys := false, apart := false }
def DiffAppliesSaid : Prop := diffAppliesRow.holds Try.pinned (OpenSpec.ofChange diffAppliesSpec)

/-- ITS FALSE NEIGHBOUR: 'it returns false'. Refute it at one input. -/
def diffAppliesWrong : ChangeSpec := { name := "diffApplies", fn := fun _ => fun
  | [d1, d2] => { results := [.lit (.bool false)], args := [d1, d2] }
  | _ => none }
def DiffAppliesWrongFalsely : Prop := diffAppliesRow.holds Try.pinned (OpenSpec.ofChange diffAppliesWrong)

/-- 'topiarylaw18.DiffNone': WHATEVER THE INPUT: true; the input reads as it did. -/
def diffNoneSpec : ChangeSpec := { name := "diffNone", fn := fun _ => fun
  | [d1, d2] => { results := [.lit (.bool true)], args := [d1, d2] }
  | _ => none }
def diffNoneRow : OpenClaim := { program := "ythhnglpkfcmjiaa", sum := "cc4cbb3b300b6dede6607265790bc853bfd7c1749f3105c5953d54c9f9e01142", func := "topiary/topiarylaw18.DiffNone", spec := "diffNone", inPlace := ["maps.clone"], unfollowed := true, recurses := true, loops := true, plainKeys := false, apart := false }
def DiffNoneSaid : Prop := diffNoneRow.holds Try.pinned (OpenSpec.ofChange diffNoneSpec)

/-- ITS FALSE NEIGHBOUR: 'it returns false'. Refute it at one input. -/
def diffNoneWrong : ChangeSpec := { name := "diffNone", fn := fun _ => fun
  | [d1, d2] => { results := [.lit (.bool false)], args := [d1, d2] }
  | _ => none }
def DiffNoneWrongFalsely : Prop := diffNoneRow.holds Try.pinned (OpenSpec.ofChange diffNoneWrong)

/-- 'topiarylaw18.DiffKeeps': WHATEVER THE INPUT: true; the input reads as it did. -/
def diffKeepsSpec : ChangeSpec := { name := "diffKeeps", fn := fun _ => fun
  | [d1, d2] => { results := [.lit (.bool true)], args := [d1, d2] }
  | _ => none }
def diffKeepsRow : OpenClaim := { program := "ythhnglpkfcmjiaa", sum := "cc4cbb3b300b6dede6607265790bc853bfd7c1749f3105c5953d54c9f9e01142", func := "topiary/topiarylaw18.DiffKeeps", spec := "diffKeeps", inPlace := ["maps.clone"], unfollowed := true, recurses := true, loops := true, plainKeys := false, apart := false }
def DiffKeepsSaid : Prop := diffKeepsRow.holds Try.pinned (OpenSpec.ofChange diffKeepsSpec)

/-- ITS FALSE NEIGHBOUR: 'it returns false'. Refute it at one input. -/
def diffKeepsWrong : ChangeSpec := { name := "diffKeeps", fn := fun _ => fun
  | [d1, d2] => { results := [.lit (.bool false)], args := [d1, d2] }
  | _ => none }
def DiffKeepsWrongFalsely : Prop := diffKeepsRow.holds Try.pinned (OpenSpec.ofChange diffKeepsWrong)

/-- 'topiarylaw18.DiffTouches': WHATEVER THE INPUT: true; the input reads as it did. -/
def diffTouchesSpec : ChangeSpec := { name := "diffTouches", fn := fun _ => fun
  | [d1, d2] => { results := [.lit (.bool true)], args := [d1, d2] }
  | _ => none }
def diffTouchesRow : OpenClaim := { program := "ythhnglpkfcmjiaa", sum := "cc4cbb3b300b6dede6607265790bc853bfd7c1749f3105c5953d54c9f9e01142", func := "topiary/topiarylaw18.DiffTouches", spec := "diffTouches", inPlace := ["maps.clone"], unfollowed := true, recurses := true, loops := true, plainKeys := false, apart := false }
def DiffTouchesSaid : Prop := diffTouchesRow.holds Try.pinned (OpenSpec.ofChange diffTouchesSpec)

/-- ITS FALSE NEIGHBOUR: 'it returns false'. Refute it at one input. -/
def diffTouchesWrong : ChangeSpec := { name := "diffTouches", fn := fun _ => fun
  | [d1, d2] => { results := [.lit (.bool false)], args := [d1, d2] }
  | _ => none }
def DiffTouchesWrongFalsely : Prop := diffTouchesRow.holds Try.pinned (OpenSpec.ofChange diffTouchesWrong)

/- THE SECOND FORM. 'bulk': how many values and letters a reading holds, each counted each time it is reached (what is shared counts as often as it is met; a slice's spare places count too). A statement '..UptoSaid' is the law's where the arguments, and the package variables that the reading takes, are together of bulk at most 1048576: NARROWER than '..Said'. Prove '..Said' where nothing that the law and all that it calls make is longer than what came in: it says more and counts as full. Else prove '..UptoSaid'. A law counts once. -/
mutual
def uptoBulk {H : Type} : DataW H → Nat
  | .lit (.string bytes) => bytes.length + 1
  | .lit _ => 1
  | .nil => 1
  | .ptr d => uptoBulk d + 1
  | .slice elems spare => uptoBulkAll elems + uptoBulkAll spare + 1
  | .agg parts => uptoBulkAll parts + 1
  | .iface _ d => uptoBulk d + 1
  | .map entries => uptoBulkEntries entries + 1
  | .held _ => 1
def uptoBulkAll {H : Type} : List (DataW H) → Nat
  | [] => 0
  | d :: r => uptoBulk d + uptoBulkAll r
def uptoBulkEntries {H : Type} : List (Lit × DataW H) → Nat
  | [] => 0
  | x :: r => uptoBulkEntry x + uptoBulkEntries r
def uptoBulkEntry {H : Type} : Lit × DataW H → Nat
  | (.string bytes, d) => bytes.length + uptoBulk d + 1
  | (_, d) => uptoBulk d + 1
 end
def uptoSmall : (H : Type) → List (DataW H) → Bool := fun _ ds => decide (uptoBulkAll ds ≤ 1048576)
def OpenSpec.upto (s : _root_.Go.ChangeSpec) : _root_.Go.OpenSpec := { _root_.Go.OpenSpec.ofChange s with cond := some uptoSmall }

/-- 'topiarylaw18.DiffOf', WHERE WHAT IT READS IS OF BULK AT MOST 1048576: true; the input reads as it did. -/
def diffOfUptoRow : OpenClaim := { program := "ythhnglpkfcmjiaa", sum := "cc4cbb3b300b6dede6607265790bc853bfd7c1749f3105c5953d54c9f9e01142", func := "topiary/topiarylaw18.DiffOf", spec := "diffOf", inPlace := ["maps.clone"], unfollowed := true, recurses := true, loops := true, plainKeys := false, apart := false, narrowed := true }
def DiffOfUptoSaid : Prop := diffOfUptoRow.holds Try.pinned (OpenSpec.upto diffOfSpec)

/-- 'topiarylaw18.DiffShifts', WHERE WHAT IT READS IS OF BULK AT MOST 1048576: true; the input reads as it did. -/
def diffShiftsUptoRow : OpenClaim := { program := "ythhnglpkfcmjiaa", sum := "cc4cbb3b300b6dede6607265790bc853bfd7c1749f3105c5953d54c9f9e01142", func := "topiary/topiarylaw18.DiffShifts", spec := "diffShifts", inPlace := ["maps.clone"], unfollowed := true, recurses := true, loops := true, plainKeys := false, apart := false, narrowed := true }
def DiffShiftsUptoSaid : Prop := diffShiftsUptoRow.holds Try.pinned (OpenSpec.upto diffShiftsSpec)

/-- 'topiarylaw18.DiffApplies', WHERE WHAT IT READS IS OF BULK AT MOST 1048576: true; the input reads as it did. -/
def diffAppliesUptoRow : OpenClaim := { program := "ythhnglpkfcmjiaa", sum := "cc4cbb3b300b6dede6607265790bc853bfd7c1749f3105c5953d54c9f9e01142", func := "topiary/topiarylaw18.DiffApplies", spec := "diffApplies", inPlace := ["maps.clone"], unfollowed := true, recurses := true, loops := true, plainKeys := false, apart := false, narrowed := true }
def DiffAppliesUptoSaid : Prop := diffAppliesUptoRow.holds Try.pinned (OpenSpec.upto diffAppliesSpec)

/-- 'topiarylaw18.DiffNone', WHERE WHAT IT READS IS OF BULK AT MOST 1048576: true; the input reads as it did. -/
def diffNoneUptoRow : OpenClaim := { program := "ythhnglpkfcmjiaa", sum := "cc4cbb3b300b6dede6607265790bc853bfd7c1749f3105c5953d54c9f9e01142", func := "topiary/topiarylaw18.DiffNone", spec := "diffNone", inPlace := ["maps.clone"], unfollowed := true, recurses := true, loops := true, plainKeys := false, apart := false, narrowed := true }
def DiffNoneUptoSaid : Prop := diffNoneUptoRow.holds Try.pinned (OpenSpec.upto diffNoneSpec)

/-- 'topiarylaw18.DiffKeeps', WHERE WHAT IT READS IS OF BULK AT MOST 1048576: true; the input reads as it did. -/
def diffKeepsUptoRow : OpenClaim := { program := "ythhnglpkfcmjiaa", sum := "cc4cbb3b300b6dede6607265790bc853bfd7c1749f3105c5953d54c9f9e01142", func := "topiary/topiarylaw18.DiffKeeps", spec := "diffKeeps", inPlace := ["maps.clone"], unfollowed := true, recurses := true, loops := true, plainKeys := false, apart := false, narrowed := true }
def DiffKeepsUptoSaid : Prop := diffKeepsUptoRow.holds Try.pinned (OpenSpec.upto diffKeepsSpec)

/-- 'topiarylaw18.DiffTouches', WHERE WHAT IT READS IS OF BULK AT MOST 1048576: true; the input reads as it did. -/
def diffTouchesUptoRow : OpenClaim := { program := "ythhnglpkfcmjiaa", sum := "cc4cbb3b300b6dede6607265790bc853bfd7c1749f3105c5953d54c9f9e01142", func := "topiary/topiarylaw18.DiffTouches", spec := "diffTouches", inPlace := ["maps.clone"], unfollowed := true, recurses := true, loops := true, plainKeys := false, apart := false, narrowed := true }
def DiffTouchesUptoSaid : Prop := diffTouchesUptoRow.holds Try.pinned (OpenSpec.upto diffTouchesSpec)

end Rows
end Go.Proofs.Ythhnglpkfcmjiaa
