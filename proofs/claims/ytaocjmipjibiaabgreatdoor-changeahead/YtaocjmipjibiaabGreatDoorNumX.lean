/- What the document's Whole does. -/
import Derived.Test.YtaocjmipjibiaabGreatDoorNumW
namespace Go.Proofs.YtaocjmipjibiaabGreatDoor
open Go.RowKit
set_option linter.unusedVariables false

/-- What a call of Whole leaves. -/
def WholePost (l : List UInt8) (w : World) (e : Ending) (w' : World) : Prop := ∃ (n : Int) (b : Bool), e = .returned (.tuple #[.int .i64 n, .bool b]) ∧ WholeIs l n b ∧ w' = w
theorem WholePost.mk {l : List UInt8} {w : World} {n : Int} {b : Bool} (h : WholeIs l n b) : WholePost l w (.returned (.tuple #[.int .i64 n, .bool b])) w := ⟨n, b, rfl, h, rfl⟩

theorem ret_ib {a a2 : Int} {b b2 : Bool} (h : a = a2) (h2 : b = b2) : Ending.returned (.tuple #[.int .i64 a, .bool b]) = .returned (.tuple #[.int .i64 a2, .bool b2]) := by rw [h, h2]

end Go.Proofs.YtaocjmipjibiaabGreatDoor
