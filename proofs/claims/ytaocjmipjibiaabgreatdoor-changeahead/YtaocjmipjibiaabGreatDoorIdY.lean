/- What the document's Text makes of any stamp. -/
import Derived.Test.YtaocjmipjibiaabGreatDoorNumY
import Derived.Test.YtaocjmipjibiaabGreatDoorIdV
import Derived.Test.YtaocjmipjibiaabGreatDoorWalksB
namespace Go.Proofs.YtaocjmipjibiaabGreatDoor
open Go.RowKit
set_option linter.unusedVariables false

theorem Kept1.drew {w0 : World} {c r : Int} {W : World} (h : Kept1 w0 c r W) : Kept1 w0 c r W.drew := ⟨h.1, h.2.1, h.2.2.1, h.2.2.2.drew⟩
theorem Kept1.begin (w0 : World) (c r : Int) : Kept1 w0 c r (w0.alloc (.cells #[.int .i64 c, .int .i64 r] 23)) :=
  ⟨by simp [go_sem], by simp [go_sem], by simp, (Below.refl _ _).alloc (Nat.le_refl _) _⟩
theorem nodeB_parts (c r : Int) : nodeB c r = (rootB c r || trashB c r || rightB c r) := by
  unfold nodeB rootB trashB rightB
  rw [Bool.eq_iff_iff]
  simp
  omega

end Go.Proofs.YtaocjmipjibiaabGreatDoor
