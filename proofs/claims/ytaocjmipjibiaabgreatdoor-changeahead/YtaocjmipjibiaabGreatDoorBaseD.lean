/- The listed variables of the library: the door's own heap meets the list; what the list gives the walks. -/
import Derived.Test.YtaocjmipjibiaabGreatDoorBaseI
import Derived.Test.YtaocjmipjibiaabGreatDoorWalksT
import Derived.LaidMore
import Derived.Stop.Joined
import Derived.Stop.LaidErr
import Derived.Lib.SmallJoins
import Derived.Lib.LaidTab
namespace Go.Proofs.YtaocjmipjibiaabGreatDoor
open Go.ChangeShapes Go.WideShapes Go.ChangeAt Go.RowKit Go.Joins

def laidD : List (String × DataW Unit) := Rows.changeBackRow.laid

set_option maxRecDepth 100000 in
theorem door_metD (os : Os) (args : Array Value) : laidMetH Tryz.prog laidD ((World.doorLaid Tryz.prog 62 os).forCall (fun _ _ => 0) ⟨#[], args, []⟩).memory :=
  laidMetH_of_parts3 (fuel := 8) (laidMet_of_run' 8 (by kernel_rfl) (by kernel_rfl)) (by kernel_rfl) (by kernel_rfl)

theorem tyPow : (Tryz.prog.globals[0]?).map (·.type) = some 115 := by kernel_rfl
theorem tySyn : (Tryz.prog.globals[4]?).map (·.type) = some 67 := by kernel_rfl
theorem tyRan : (Tryz.prog.globals[5]?).map (·.type) = some 67 := by kernel_rfl
theorem cellsErr : Tryz.prog.cellsOf 155 = 1 := by kernel_rfl
theorem cellsStr : Tryz.prog.cellsOf 9 = 1 := by kernel_rfl
theorem cellsU64 : Tryz.prog.cellsOf 98 = 1 := by kernel_rfl
theorem cellsPow : Tryz.prog.cellsOf 115 = 20 := by kernel_rfl
theorem starErr : "*" ++ "errors.errorString" = "*errors.errorString" := by decide
theorem rowErr (u : TypeId) (h : Tryz.prog.typeName? 3 u = some "*errors.errorString") : u = 153 :=
  typeName_ptr_named (nm := "errors.errorString") (by rw [starErr]; kernel_rfl) (by kernel_rfl) (by decide) u (by rw [starErr]; exact h)
theorem powData : (Rows.laid_internal_strconv_uint64pow10 : DataW Unit) = Lib.tabData .u64 Lib.pow10Tab := by kernel_rfl

theorem env_of_laid {W : World} (h : laidMetH Tryz.prog laidD W) : Env W := by
  rw [MakeChecks.laidMetH_plain _ _ _ (by kernel_rfl)] at h
  have h2 : laidMet Tryz.prog _ W := (h.tail).tail
  have h3 := h2
  rw [powData] at h3
  have t := Lib.tabIs_of_head gPow tyPow Tryz.underlying115 Tryz.underlying98 cellsU64 cellsPow h3
  obtain ⟨a0, s0, hv0, -, -, -⟩ := laid_sentinel h2.tail gRan tyRan Tryz.underlying67 rowErr Tryz.underlying153 Tryz.underlying155 rfl rfl Tryz.underlying9 cellsErr cellsStr
  obtain ⟨a1, s1, hv1, -, -, -⟩ := laid_sentinel h2.tail.tail gSyn tySyn Tryz.underlying67 rowErr Tryz.underlying153 Tryz.underlying155 rfl rfl Tryz.underlying9 cellsErr cellsStr
  exact ⟨t, ⟨_, _, hv1⟩, _, _, hv0⟩

end Go.Proofs.YtaocjmipjibiaabGreatDoor
