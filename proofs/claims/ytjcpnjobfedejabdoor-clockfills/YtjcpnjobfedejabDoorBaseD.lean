/- The listed variables of the library: the door's own heap meets the list; what the list gives the walks. -/
import Derived.Test.YtjcpnjobfedejabDoorBaseI
import Derived.Test.YtjcpnjobfedejabDoorWalksT
import Derived.LaidMore
import Derived.Stop.Joined
import Derived.Stop.LaidErr
import Derived.Lib.SmallJoins
import Derived.Lib.LaidTab
namespace Go.Proofs.YtjcpnjobfedejabDoor
open Go.ChangeShapes Go.WideShapes Go.ChangeAt Go.RowKit Go.Joins

def laidD : List (String × DataW Unit) := Rows.clockTextsRow.laid

set_option maxRecDepth 100000 in
theorem door_metD (os : Os) (args : Array Value) : laidMetH Tryd.prog laidD ((World.doorLaid Tryd.prog 62 os).forCall (fun _ _ => 0) ⟨#[], args, []⟩).memory :=
  laidMetH_of_parts3 (fuel := 8) (laidMet_of_run' 8 (by kernel_rfl) (by kernel_rfl)) (by kernel_rfl) (by kernel_rfl)

theorem tyPow : (Tryd.prog.globals[0]?).map (·.type) = some 80 := by kernel_rfl
theorem tySyn : (Tryd.prog.globals[2]?).map (·.type) = some 58 := by kernel_rfl
theorem tyRan : (Tryd.prog.globals[3]?).map (·.type) = some 58 := by kernel_rfl
theorem cellsErr : Tryd.prog.cellsOf 108 = 1 := by kernel_rfl
theorem cellsStr : Tryd.prog.cellsOf 9 = 1 := by kernel_rfl
theorem cellsU64 : Tryd.prog.cellsOf 68 = 1 := by kernel_rfl
theorem cellsPow : Tryd.prog.cellsOf 80 = 20 := by kernel_rfl
theorem starErr : "*" ++ "errors.errorString" = "*errors.errorString" := by decide
theorem rowErr (u : TypeId) (h : Tryd.prog.typeName? 3 u = some "*errors.errorString") : u = 106 :=
  typeName_ptr_named (nm := "errors.errorString") (by rw [starErr]; kernel_rfl) (by kernel_rfl) (by decide) u (by rw [starErr]; exact h)
theorem powData : (Rows.laid_internal_strconv_uint64pow10 : DataW Unit) = Lib.tabData .u64 Lib.pow10Tab := by kernel_rfl

theorem env_of_laid {W : World} (h : laidMetH Tryd.prog laidD W) : Env W := by
  rw [MakeChecks.laidMetH_plain _ _ _ (by kernel_rfl)] at h
  have h2 : laidMet Tryd.prog _ W := (h.tail).tail
  have h3 := h2
  rw [powData] at h3
  have t := Lib.tabIs_of_head gPow tyPow Tryd.underlying80 Tryd.underlying68 cellsU64 cellsPow h3
  obtain ⟨a0, s0, hv0, -, -, -⟩ := laid_sentinel h2.tail gRan tyRan Tryd.underlying58 rowErr Tryd.underlying106 Tryd.underlying108 rfl rfl Tryd.underlying9 cellsErr cellsStr
  obtain ⟨a1, s1, hv1, -, -, -⟩ := laid_sentinel h2.tail.tail gSyn tySyn Tryd.underlying58 rowErr Tryd.underlying106 Tryd.underlying108 rfl rfl Tryd.underlying9 cellsErr cellsStr
  exact ⟨t, ⟨_, _, hv1⟩, _, _, hv0⟩

end Go.Proofs.YtjcpnjobfedejabDoor
