/- The document's Has, and what makes a node's own fields right. -/
import Derived.Test.YtngglnlphlembaaVtK
import Derived.Deep.Cut
import Derived.Laws.StructEq
namespace Go.Proofs.Ytngglnlphlembaa
open Go.RowKit
set_option linter.unusedVariables false
set_option linter.unusedSimpArgs false

theorem run_geqS (a b : ByteArray) (w : World) : (binOp .geq 9 (.string a) (.string b)).run Try.prog w = .ok (.bool (!ltT a b)) w := by
  rw [← txt_less]
  first | rfl | (simp [binOp, go_sem]; done) | kernel_rfl
/-- The name ahead of place i. -/
def prevA (A : List At) (i : Nat) : ByteArray := if i = 0 then noTx else (A.getD (i - 1) (noTx, noTx)).1
theorem prevA_pos {A : List At} {i : Nat} (h0 : i ≠ 0) (h : i - 1 < A.length) : ∃ hj : i - 1 < A.length, prevA A i = A[i - 1].1 := ⟨h, by unfold prevA; rw [if_neg h0, List.getD_eq_getElem?_getD, List.getElem?_eq_getElem h]; rfl⟩
theorem prevA_succ {A : List At} {i : Nat} (h : i < A.length) : prevA A (i + 1) = A[i].1 := by
  unfold prevA
  rw [if_neg (by omega), Nat.add_sub_cancel, List.getD_eq_getElem?_getD, List.getElem?_eq_getElem h]
  rfl
theorem name_pos {b : ByteArray} (h : nameL (txL b) = true) : ltT noTx b = true := by
  unfold ltT
  rw [decide_eq_true_eq]
  unfold nameL at h
  cases hb : txL b with
  | nil => rw [hb] at h; simp at h
  | cons x l => show [] < x :: l; simp

end Go.Proofs.Ytngglnlphlembaa
