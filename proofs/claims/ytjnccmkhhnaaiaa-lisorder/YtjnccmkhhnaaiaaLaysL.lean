/- sort.Search, laid at this program's numbers, in plain words. -/
import Derived.Shelf.SlSorted.Search
import Derived.Test.YtjnccmkhhnaaiaaProg
namespace Go.Proofs
open Go.Shelf
def Try.searchL_ren : Go.Shelf.Ren := ⟨fun | 16 => 23 | n => n, fun | 3 => 3 | 4 => 4 | 35 => 31 | 38 => 32 | n => n, fun | n => n⟩
theorem Try.searchL : Go.Proofs.SlLaysO.n16 Try.prog Try.searchL_ren := {
  mixed := by kernel_rfl
  f16 := Try.func23.trans (congrArg some (by kernel_rfl))
  t3 := Try.underlying3
  a3 := Try.isAgg3
  z3 := Try.sizeOf3
  v3 := Try.zeroValue3
  t4 := Try.underlying4
  a4 := Try.isAgg4
  z4 := Try.sizeOf4
  v4 := Try.zeroValue4
  t35 := Try.underlying31
  a35 := Try.isAgg31
  z35 := Try.sizeOf31
  v35 := Try.zeroValue31
  t38 := Try.underlying32
  a38 := Try.isAgg32
  z38 := Try.sizeOf32
  v38 := Try.zeroValue32 }
end Go.Proofs
