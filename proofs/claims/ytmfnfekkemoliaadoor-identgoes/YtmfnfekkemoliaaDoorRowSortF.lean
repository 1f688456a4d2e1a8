/- What slices.SortFunc does at a row of stamps of the call's own, by ident.Compare: the row holds them sorted (the shelf's contract). -/
import Derived.Test.YtmfnfekkemoliaaDoorRowOwn
import Derived.Test.YtmfnfekkemoliaaDoorRowCompact
import Derived.Test.YtmfnfekkemoliaaDoorWalksD
import Derived.Test.YtmfnfekkemoliaaDoorLaysS
import Derived.Shelf.SlSortCmp.NoneTotal
import Derived.Lib.OwnBridge
import Derived.Lib.AppendIntMem
namespace Go.Proofs.YtmfnfekkemoliaaDoor
open Go.RowKit Go.Sort
set_option linter.unusedVariables false

def encS (x : Int × Int) : List Value := [.int .i64 x.1, .int .i64 x.2]
def cmpP (x y : Int × Int) : Int := cmpS x.1 x.2 y.1 y.2
theorem ltOf_cmpP (x y : Int × Int) : ltOf cmpP x y = lessS x.1 x.2 y.1 y.2 := lessS_cmp x.1 x.2 y.1 y.2
def ltP (x y : Int × Int) : Prop := x.1 < y.1 ∨ x.1 = y.1 ∧ x.2 < y.2
theorem lessS_ltP (x y : Int × Int) : lessS x.1 x.2 y.1 y.2 = true ↔ ltP x y := by simp [lessS, ltP]
theorem lessS_nltP (x y : Int × Int) : lessS x.1 x.2 y.1 y.2 = false ↔ ¬ ltP x y := by simp [lessS, ltP]

theorem swoP : SWO (ltOf cmpP) where
  irrefl x := by rw [ltOf_cmpP, lessS_nltP]; unfold ltP; omega
  trans x y z h1 h2 := by rw [ltOf_cmpP, lessS_ltP] at *; unfold ltP at *; omega
  ntrans x y z h1 h2 := by rw [ltOf_cmpP, lessS_nltP] at *; unfold ltP at *; omega
theorem totP (x y : Int × Int) (h1 : ltOf cmpP x y = false) (h2 : ltOf cmpP y x = false) : x = y := by
  rw [ltOf_cmpP, lessS_nltP] at h1 h2
  unfold ltP at h1 h2
  exact Prod.ext (by omega) (by omega)
/-- The stamps in their order. -/
def msort (d : List (Int × Int)) : List (Int × Int) := d.mergeSort fun x y => !(ltOf cmpP) y x
theorem msort_length (d : List (Int × Int)) : (msort d).length = d.length := by simp [msort]

set_option maxHeartbeats 400000 in
theorem compare_ex (c r c2 r2 : Int) (w : World) :
    Calls Tryd.prog 14 #[.agg #[.int .i64 c, .int .i64 r], .agg #[.int .i64 c2, .int .i64 r2]] w fun e w' => e = .returned (.int .i64 (cmpS c r c2 r2)) ∧ w' = (w.alloc (.cells #[.int .i64 c, .int .i64 r] 23)).alloc (.cells #[.int .i64 c2, .int .i64 r2] 23) := by
  by_cases h0 : c < c2
  · have e0 : cmpI c c2 = -1 := cmpI_lt h0
    go_enter Tryd.func14, Tryd.ntmps14
    go_wp2_with (go_at_call 32; refine (cmp_any _ _ _).mono ?_; rintro e w' ⟨rfl, rfl⟩)
    go_ret
    exact ⟨ret_int (by simp [cmpS, h0]), rfl⟩
  · by_cases h1 : c2 < c
    · have e0 : cmpI c c2 = 1 := cmpI_gt h1
      go_enter Tryd.func14, Tryd.ntmps14
      go_wp2_with (go_at_call 32; refine (cmp_any _ _ _).mono ?_; rintro e w' ⟨rfl, rfl⟩)
      go_ret
      exact ⟨ret_int (by unfold cmpS; rw [if_neg (by omega), if_pos h1]), rfl⟩
    · obtain rfl : c = c2 := by omega
      have e0 : cmpI c c = 0 := cmpI_eq c
      go_enter Tryd.func14, Tryd.ntmps14
      go_wp2_with (go_at_call 32; refine (cmp_any _ _ _).mono ?_; rintro e w' ⟨rfl, rfl⟩)
      go_ret
      exact ⟨ret_int (by simp [cmpS, cmpI]), rfl⟩

theorem cmpLaysP (blk off size : Nat) (w : World) : CmpLays Tryd.prog 14 #[] encS 2 cmpP blk off size w :=
  fun _ _ _ _ x y => (compare_ex x.1 x.2 y.1 y.2 _).mono fun e w' ⟨he, hw⟩ => ⟨he, 0, #[.cells #[.int .i64 x.1, .int .i64 x.2] 23] ++ #[.cells #[.int .i64 y.1, .int .i64 y.2] 23], by rw [hw, alloc_eq_grow, alloc_eq_grow, grow_grow]; rfl⟩

theorem flatK_get (d : List (Int × Int)) (j : Nat) (h : j < d.length * 2) : (flat d)[j]? = some ((flatK encS 2 d.toArray)[j]!) := by
  rw [get_flatK encS 2 d.toArray j (by simpa using h)]
  have hf := flat_get d (j / 2) (by omega)
  have e : d.toArray[j / 2]! = d[j / 2] := by rw [getElem!_pos _ _ (by simp; omega)]; simp
  rw [e]
  by_cases he : j % 2 = 0
  · have e2 : j = j / 2 * 2 := by omega
    rw [he]
    conv => lhs; rw [e2]
    rw [hf.1]; rfl
  · have e2 : j = j / 2 * 2 + 1 := by omega
    rw [show j % 2 = 1 by omega]
    conv => lhs; rw [e2]
    rw [hf.2]; rfl
theorem holdsK_own {B : Nat} {w : World} {g cap : Nat} {D : List (Int × Int)} (h : OwnS B w (.slice (some ⟨g, 0, none⟩) D.length cap) D) : HoldsK encS 2 w g 0 D.toArray := by
  intro j hj
  have hj2 : j < D.length * 2 := by simpa using hj
  rw [show 0 + j = j by omega]
  exact ⟨(World.ownsRow.cellAt h j hj2).trans (flatK_get D j hj2), World.ownsRow.frozenAt h j⟩
theorem rowF_holdsK {w : World} {g : Nat} {d : List (Int × Int)} (h : HoldsK encS 2 w g 0 d.toArray) : RowF w g d := by
  intro i hi
  have g0 := h (i * 2) (by simp; omega)
  have g1 := h (i * 2 + 1) (by simp; omega)
  have f := flat_get d i hi
  have k0 := flatK_get d (i * 2) (by omega)
  have k1 := flatK_get d (i * 2 + 1) (by omega)
  rw [show 0 + i * 2 = i * 2 by omega] at g0
  rw [show 0 + (i * 2 + 1) = i * 2 + 1 by omega] at g1
  rw [f.1] at k0
  rw [f.2] at k1
  exact ⟨⟨g0.1.trans k0.symm, g1.1.trans k1.symm⟩, g0.2, g1.2⟩

theorem sortFunc_some (B g cap : Nat) (D : List (Int × Int)) (w : World) (h : OwnS B w (.slice (some ⟨g, 0, none⟩) D.length cap) D) (hg : g < w.heap.size) (hB : B ≤ g) (hl : D.length ≤ 8796093022208) :
    Calls Tryd.prog 47 #[.slice (some ⟨g, 0, none⟩) D.length cap, .func (.func 14) #[] #[]] w fun e w' => e = .returned (.tuple #[]) ∧ RowF w' g (msort D) ∧ g < w'.heap.size ∧ Below B w w' := by
  have eg : ∀ args w, (callFunc 14 args).run Tryd.prog w = .ok (.enter 14 args) w := enters_of Tryd.func14 (by kernel_rfl) rfl
  have hH := holdsK_own h
  have hcon := AnyQ.slices_SortFunc_total Tryd.sortS 2 Tryd.isAgg23 Tryd.sizeOf23 encS (fun _ => rfl) (fun x v hv => by simp [encS] at hv; rcases hv with rfl | rfl <;> rfl) cmpP swoP 14 #[] g 0 cap D.toArray w eg (cmpLaysP g 0 _ w) hH hg (by simp; omega) totP
  refine Calls.mono (show Calls Tryd.prog 47 #[.slice (some ⟨g, 0, none⟩) D.length cap, .func (.func 14) #[] #[]] w _ from hcon) fun e w' ⟨he, n, os, hw⟩ => ⟨he, ?_, ?_, ?_⟩
  · rw [hw]
    exact rowF_holdsK (holdsK_sortWorldK encS 2 w g 0 n D.toArray (msort D).toArray os hg hH (by simp [msort]))
  · rw [hw]
    simp [sortWorldK, grow, size_putRowK, Sort.ahead]
    omega
  · rw [hw]
    have b1 : Below B w (putRowK encS 2 (Sort.ahead w n) g 0 (msort D).toArray) := Lib.below_putRow (Below.refl _ _) hB
    exact b1.trans (Lib.below_grow B _ (by rw [size_putRowK]; show B ≤ w.heap.size; omega) 0 os)
theorem sortFunc_none (a : Option Addr) (cap : Nat) (w : World) :
    Calls Tryd.prog 47 #[.slice a 0 cap, .func (.func 14) #[] #[]] w fun e w' => e = .returned (.tuple #[]) ∧ w' = w :=
  AnyF.slices_SortFunc_none Tryd.sortS a cap _ w

end Go.Proofs.YtmfnfekkemoliaaDoor
