/- slices.SortFunc at a row of places of the call's own, by their nodes; what slices.Collect gathers. -/
import Derived.Test.YtljepindfdhbbaaRgP
import Derived.Test.YtljepindfdhbbaaLaysP
import Derived.Test.YtljepindfdhbbaaSrtB
import Derived.Shelf.SlSortCmp.NoneTotal
import Derived.Lib.OwnBridge
import Derived.Lib.AppendIntMem
namespace Go.Proofs.Ytljepindfdhbbaa
open Go.RowKit Go.Sort
set_option linter.unusedVariables false
set_option linter.unusedSimpArgs false

def cmpPl (x y : Pl) : Int := cmpS x.nd.1 x.nd.2 y.nd.1 y.nd.2
theorem ltOf_cmpPl (x y : Pl) : ltOf cmpPl x y = ltS x.nd y.nd := lessS_cmp x.nd.1 x.nd.2 y.nd.1 y.nd.2
theorem swoPl : SWO (ltOf cmpPl) where
  irrefl x := by rw [ltOf_cmpPl]; exact ltS_irr _
  trans x y z h1 h2 := by rw [ltOf_cmpPl] at *; exact ltS_trans h1 h2
  ntrans x y z h1 h2 := by rw [ltOf_cmpPl, ltS_no] at *; omega

set_option maxHeartbeats 1000000 in
theorem cmpPl_ex (x y : Pl) (w : World) :
    Calls Try.prog 45 #[.agg (plCells x).toArray, .agg (plCells y).toArray] w fun e w' => e = .returned (.int .i64 (cmpPl x y)) ∧ w' = ((((w.alloc (.cells (plCells x).toArray 43)).alloc (.cells (plCells y).toArray 43)).alloc (.cells #[.int .i64 x.nd.1, .int .i64 x.nd.2] 27)).alloc (.cells #[.int .i64 y.nd.1, .int .i64 y.nd.2] 27)) := by
  obtain ⟨W0, eW⟩ : ∃ X, X = (w.alloc (.cells (plCells x).toArray 43)).alloc (.cells (plCells y).toArray 43) := ⟨_, rfl⟩
  have hn1 : W0.heap[w.heap.size]? = some (.cells (plCells x).toArray 43) := by rw [eW]; exact (Below.heap_alloc _ _ _ (by simp)).trans (heap_alloc_new w _)
  have hn2 : W0.heap[w.heap.size + 1]? = some (.cells (plCells y).toArray 43) := by rw [eW]; have := heap_alloc_new (w.alloc (.cells (plCells x).toArray 43)) (.cells (plCells y).toArray 43); simpa using this
  have a0 : W0.cell? ⟨w.heap.size, 0, none⟩ = some (.int .i64 x.nd.1) := by rw [cell_of_row W0 _ 0 _ _ _ hn1]; rfl
  have a1 : W0.cell? ⟨w.heap.size, 1, none⟩ = some (.int .i64 x.nd.2) := by rw [cell_of_row W0 _ 1 _ _ _ hn1]; rfl
  have b0 : W0.cell? ⟨w.heap.size + 1, 0, none⟩ = some (.int .i64 y.nd.1) := by rw [cell_of_row W0 _ 0 _ _ _ hn2]; rfl
  have b1 : W0.cell? ⟨w.heap.size + 1, 1, none⟩ = some (.int .i64 y.nd.2) := by rw [cell_of_row W0 _ 1 _ _ _ hn2]; rfl
  have HeW : Hid (W0 = (w.alloc (.cells (plCells x).toArray 43)).alloc (.cells (plCells y).toArray 43)) := eW
  clear hn1 hn2
  rw [eW] at a0 a1 b0 b1
  clear eW
  go_enter Try.func45, Try.ntmps45
  go_wp2_with fail
  rw [← HeW.out]
  clear a0 a1 b0 b1
  refine (S.compare_ex _ _ _ _ _).mono ?_
  rintro e w' ⟨rfl, hw⟩
  have HW : Hid (w' = (W0.alloc (.cells #[.int .i64 x.nd.1, .int .i64 x.nd.2] 27)).alloc (.cells #[.int .i64 y.nd.1, .int .i64 y.nd.2] 27)) := hw
  clear hw
  go_wp2
  go_ret
  exact ⟨rfl, by rw [HW.out, HeW.out]⟩
theorem cmpLaysPl (blk off size : Nat) (w : World) : CmpLays Try.prog 45 #[] plCells 6 cmpPl blk off size w :=
  fun _ _ _ _ x y => (cmpPl_ex x y _).mono fun e w' ⟨he, hw⟩ => ⟨he, 0, #[.cells (plCells x).toArray 43] ++ #[.cells (plCells y).toArray 43] ++ #[.cells #[.int .i64 x.nd.1, .int .i64 x.nd.2] 27] ++ #[.cells #[.int .i64 y.nd.1, .int .i64 y.nd.2] 27], by rw [hw, alloc_eq_grow, alloc_eq_grow, alloc_eq_grow, alloc_eq_grow, grow_grow, grow_grow, grow_grow]; rfl⟩
theorem flatK_getP (d : List Pl) (j : Nat) (h : j < d.length * 6) : (flatE plCells d)[j]? = some ((flatK plCells 6 d.toArray)[j]!) := by
  rw [get_flatK plCells 6 d.toArray j (by simpa using h)]
  have hj2 : j / 6 < d.length := by omega
  have e : d.toArray[j / 6]! = d[j / 6] := by rw [getElem!_pos _ _ (by simp; omega)]; simp
  rw [e]
  have hl : (plCells d[j / 6]).length = 6 := rfl
  have hm : j % 6 < (plCells d[j / 6]).length := by rw [hl]; exact Nat.mod_lt _ (by omega)
  have hf := flatE_get plCells_len d (j / 6) hj2 (j % 6) ((plCells d[j / 6])[j % 6]) (List.getElem?_eq_getElem hm)
  rw [show j / 6 * 6 + j % 6 = j by omega] at hf
  rw [hf, getElem!_pos (plCells d[j / 6]) (j % 6) hm]
theorem holdsK_ownP {B : Nat} {w : World} {g cap : Nat} {D : List Pl} (h : OwnPl B w (.slice (some ⟨g, 0, none⟩) D.length cap) D) : HoldsK plCells 6 w g 0 D.toArray := by
  intro j hj
  have hj2 : j < D.length * 6 := by simpa using hj
  rw [show 0 + j = j by omega]
  exact ⟨(World.ownsRow.cellAt h j hj2).trans (flatK_getP D j hj2), World.ownsRow.frozenAt h j⟩
/-- The row, sorted. -/
theorem own_sortedP {B : Nat} {w : World} {g cap n : Nat} {D D' : List Pl} {os : Array Obj} (h : OwnPl B w (.slice (some ⟨g, 0, none⟩) D.length cap) D) (hg : g < w.heap.size) (hl : D'.length = D.length) :
    OwnPl B (sortWorldK plCells 6 w g 0 n D'.toArray os) (.slice (some ⟨g, 0, none⟩) D'.length cap) D' := by
  have hH := holdsK_sortWorldK plCells 6 w g 0 n D.toArray D'.toArray os hg (holdsK_ownP h) (by simp [hl])
  rcases h.2 with ⟨e, _⟩ | ⟨g1, cap1, cur, e, hB, hc, hcap, hmx, hsz, htk⟩
  · cases e
  · have e1 : g1 = g ∧ cap1 = cap := by
      simp only [Value.slice.injEq, Option.some.injEq, Addr.mk.injEq] at e
      exact ⟨e.1.1.symm, e.2.2.symm⟩
    obtain ⟨rfl, rfl⟩ := e1
    have hnew : ∃ cur', (sortWorldK plCells 6 w g1 0 n D'.toArray os).heap[g1]? = some (.cells cur' 43 (0, 0)) ∧ cur'.size = cur.size := by
      refine ⟨putCells id 0 (flatK plCells 6 D'.toArray) cur, ?_, by simp [putCells]⟩
      have h1 : (sortWorldK plCells 6 w g1 0 n D'.toArray os).heap[g1]? = (putRowK plCells 6 (Sort.ahead w n) g1 0 D'.toArray).heap[g1]? := heap_grow_old _ _ (by rw [size_putRowK]; exact hg)
      rw [h1]
      simp only [putRowK, putRow, mapBlock, Array.getElem?_modify, Sort.ahead, if_true, hc, Option.map_some, onCells]
    obtain ⟨cur', hc', hz'⟩ := hnew
    refine ⟨by rw [flatE_length plCells_len], .inr ⟨g1, cap1, cur', by simp, hB, hc', ?_, hmx, hz'.trans hsz, ?_⟩⟩
    · omega
    · apply List.ext_getElem?
      intro j
      rw [List.getElem?_take]
      by_cases hj : j < D'.length * 6
      · rw [if_pos hj]
        have hcell := (hH j (by simpa using hj)).1
        rw [show 0 + j = j by omega] at hcell
        rw [flatK_getP D' j hj]
        have : (sortWorldK plCells 6 w g1 0 n D'.toArray os).cell? ⟨g1, j, none⟩ = cur'[j]? := cell_of_row _ g1 j _ _ _ hc'
        rw [this] at hcell
        rw [Array.getElem?_toList]
        exact hcell
      · rw [if_neg hj, List.getElem?_eq_none]
        rw [flatE_length plCells_len]; omega
theorem plCells_one (x : Pl) : ∀ v ∈ plCells x, v.oneCell' = true := by
  intro v hv
  simp only [plCells, List.mem_cons, List.not_mem_nil, or_false] at hv
  rcases hv with rfl | rfl | rfl | rfl | rfl | rfl <;> rfl
theorem sortP_some (B g cap : Nat) (D : List Pl) (w : World) (h : OwnPl B w (.slice (some ⟨g, 0, none⟩) D.length cap) D) (hg : g < w.heap.size) (hB : B ≤ g) (hl : D.length ≤ 8796093022208) :
    Calls Try.prog 63 #[.slice (some ⟨g, 0, none⟩) D.length cap, .func (.func 45) #[] #[]] w fun e w' => e = .returned (.tuple #[]) ∧ ∃ D' : List Pl, D'.Perm D ∧ (D'.Pairwise fun x y => ltS y.nd x.nd = false) ∧ OwnPl B w' (.slice (some ⟨g, 0, none⟩) D'.length cap) D' ∧ Below B w w' := by
  have eg : ∀ args w, (callFunc 45 args).run Try.prog w = .ok (.enter 45 args) w := enters_of Try.func45 (by kernel_rfl) rfl
  have hH := holdsK_ownP h
  have hcon := AnyQ.slices_SortFunc Try.sortP 6 Try.isAgg43 Try.sizeOf43 plCells (fun _ => rfl) plCells_one cmpPl swoPl 45 #[] g 0 cap D.toArray w eg (cmpLaysPl g 0 _ w) hH hg (by simp; omega)
  refine Calls.mono (show Calls Try.prog 63 #[.slice (some ⟨g, 0, none⟩) D.length cap, .func (.func 45) #[] #[]] w _ from hcon) fun e w' ⟨he, d', n, os, ⟨hsz, _, hperm⟩, hs, hw⟩ => ?_
  have e1 : d'.extract 0 D.toArray.size = d' := by rw [← hsz]; exact Array.extract_size
  rw [e1, Array.extract_size] at hperm
  have hl2 : d'.toList.length = D.length := by simpa using hsz
  refine ⟨he, d'.toList, by simpa using hperm, ?_, ?_, ?_⟩
  · rw [List.pairwise_iff_getElem]
    intro i j hi hj hij
    have h1 := hs i j (Nat.zero_le _) hij (by rw [← hsz]; simpa using hj)
    rw [getElem!_pos d' j (by simpa using hj), getElem!_pos d' i (by simpa using hi), ltOf_cmpPl] at h1
    simpa using h1
  · rw [hw]
    have := own_sortedP (n := n) (os := os) (D' := d'.toList) h hg hl2
    simpa using this
  · rw [hw]
    have b1 : Below B w (putRowK plCells 6 (Sort.ahead w n) g 0 d') := Lib.below_putRow (Below.refl _ _) hB
    exact b1.trans (Lib.below_grow B _ (by rw [size_putRowK]; show B ≤ w.heap.size; omega) 0 os)
theorem sortP_none (a : Option Addr) (cap : Nat) (w : World) :
    Calls Try.prog 63 #[.slice a 0 cap, .func (.func 45) #[] #[]] w fun e w' => e = .returned (.tuple #[]) ∧ w' = w :=
  AnyF.slices_SortFunc_none Try.sortP a cap _ w
/-- Places in their nodes' order, and the same as those of a tree: they are the tree. -/
theorem sorted_eq {D T : List Pl} (hp : D.Perm T) (hs : D.Pairwise fun x y => ltS y.nd x.nd = false) (hT : SrtT T) : D = T := by
  have hn : (D.map (·.nd)).Nodup := (hp.map _).nodup_iff.2 hT.nodup
  have hD : SrtT D := by
    rw [List.Nodup, List.pairwise_map] at hn
    refine List.Pairwise.imp₂ ?_ hn hs
    intro x y h1 h2
    rcases ltS_or h1 with h | h
    · exact h
    · rw [h] at h2; cases h2
  refine hD.ext hT fun n => ?_
  have := getP_perm hp hT n
  unfold getP at this
  exact this

end Go.Proofs.Ytljepindfdhbbaa
