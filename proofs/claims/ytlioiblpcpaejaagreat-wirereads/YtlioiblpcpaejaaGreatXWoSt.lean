/- OctetStrict: what is taken as a number, or as a text, are just the bytes that would be laid. -/
import Derived.Test.YtlioiblpcpaejaaGreatXC
import Derived.Deep.RegionHeld
namespace Go.Proofs.YtlioiblpcpaejaaGreat
open Go.RowKit
set_option linter.unusedVariables false

theorem rdC_none {p : List UInt8} {k : Nat} {most : Int} (h : numL (p.drop k) = none) : rdC p k 0 most = (0, k, 2) := by
  unfold rdC; rw [if_pos rfl, cntL_none most h]; rfl
theorem rdC_long {p : List UInt8} {k m s : Nat} {most : Int} (h : numL (p.drop k) = some (m, s)) (hm : most < (m : Int)) : rdC p k 0 most = (0, k, 3) := by
  unfold rdC; rw [if_pos rfl, cntL_long h hm]; rfl
theorem rdC_ok {p : List UInt8} {k m s : Nat} {most : Int} (h : numL (p.drop k) = some (m, s)) (hm : ¬ most < (m : Int)) : rdC p k 0 most = ((m : Int), k + s, 0) := by
  unfold rdC; rw [if_pos rfl, cntL_ok h hm]; rfl
theorem rdT_none {p : List UInt8} {k : Nat} {most : Int} (h : numL (p.drop k) = none) : rdT p k 0 most = ([], k, 2) := by
  unfold rdT; rw [if_pos rfl, cntL_none most h]; rfl
theorem rdT_long {p : List UInt8} {k m s : Nat} {most : Int} (h : numL (p.drop k) = some (m, s)) (hm : most < (m : Int)) : rdT p k 0 most = ([], k, 3) := by
  unfold rdT; rw [if_pos rfl, cntL_long h hm]; rfl
theorem rdT_few {p : List UInt8} {k m s : Nat} {most : Int} (h : numL (p.drop k) = some (m, s)) (hm : ¬ most < (m : Int)) (h2 : p.length - k - s < m) : rdT p k 0 most = ([], k, 2) := by
  unfold rdT; rw [if_pos rfl, cntL_ok h hm]; simp only [if_true]; rw [if_pos h2]
theorem rdT_ok {p : List UInt8} {k m s : Nat} {most : Int} (h : numL (p.drop k) = some (m, s)) (hm : ¬ most < (m : Int)) (h2 : ¬ p.length - k - s < m) : rdT p k 0 most = ((p.drop (k + s)).take m, k + s + m, 0) := by
  unfold rdT; rw [if_pos rfl, cntL_ok h hm]; simp only [if_true]; rw [if_neg h2]
end Go.Proofs.YtlioiblpcpaejaaGreat
