/- sort.Search, laid at this program's numbers, in plain words. -/
import Derived.Shelf.SlSorted.Search
import Derived.Test.YthhnglpkfcmjiaaProg
namespace Go.Proofs
open Go.Shelf
def Try.searchL_ren : Go.Shelf.Ren := ⟨fun | 16 => 100 | n => n, fun | 3 => 3 | 4 => 4 | 35 => 118 | 38 => 123 | n => n, fun | n => n⟩
theorem Try.searchL : Go.Proofs.SlLaysO.n16 Try.prog Try.searchL_ren := {
  mixed := by kernel_rfl
  f16 := Try.func100.trans (congrArg some (by kernel_rfl))
  t3 := Try.underlying3
  a3 := Try.isAgg3
  z3 := Try.sizeOf3
  v3 := Try.zeroValue3
  t4 := Try.underlying4
  a4 := Try.isAgg4
  z4 := Try.sizeOf4
  v4 := Try.zeroValue4
  t35 := Try.underlying118
  a35 := Try.isAgg118
  z35 := Try.sizeOf118
  v35 := Try.zeroValue118
  t38 := Try.underlying123
  a38 := Try.isAgg123
  z38 := Try.sizeOf123
  v38 := Try.zeroValue123 }
end Go.Proofs
