/- slices.SortFunc at a row of changes of the call's own, by causal.compare: the row holds them sorted. -/
import Derived.Test.YthndgmnckpimmaaCaS
import Derived.Test.YthndgmnckpimmaaLaysH
import Derived.Shelf.SlSortCmp.NoneTotal
import Derived.Lib.OwnBridge
import Derived.Lib.AppendIntMem
namespace Go.Proofs.Ythndgmnckpimmaa
open Go.RowKit Go.Sort
set_option linter.unusedVariables false
set_option linter.unusedSimpArgs false

/-- A change whose clock is a slice. -/
abbrev HC := Ch × Option Addr × Nat
instance : Inhabited HC := ⟨(⟨0, 0, 0, [], 0, 0, 0, 0, 0, 0, 0, ⟨#[]⟩, ⟨#[]⟩⟩, none, 0)⟩
def cvH (x : HC) : Ch × Value := (x.1, .slice x.2.1 x.1.deps.length x.2.2)
def encH (x : HC) : List Value := chCells x.1 (.slice x.2.1 x.1.deps.length x.2.2)
def cmpH (x y : HC) : Int := cmpC x.1 y.1
theorem ltOf_cmpH (x y : HC) : ltOf cmpH x y = true ↔ ltC x.1 y.1 := cmpC_lt x.1 y.1
theorem ltOf_cmpH_no (x y : HC) : ltOf cmpH x y = false ↔ ¬ ltC x.1 y.1 := by rw [← ltOf_cmpH, Bool.not_eq_true]
theorem swoH : SWO (ltOf cmpH) where
  irrefl x := by rw [ltOf_cmpH_no]; unfold ltC; omega
  trans x y z h1 h2 := by rw [ltOf_cmpH] at *; unfold ltC at *; omega
  ntrans x y z h1 h2 := by rw [ltOf_cmpH_no] at *; unfold ltC at *; omega
theorem grew_eq {w w' : World} (h : Grew w w') : ∃ q os, w' = grow (w.drewN q) os := by
  obtain ⟨⟨h1, h2, h3, h4, h5⟩, h6⟩ := h
  refine ⟨w'.drawn - w.drawn, w'.heap.extract w.heap.size w'.heap.size, ?_⟩
  have e1 : w.heap ++ w'.heap.extract w.heap.size w'.heap.size = w'.heap := by
    apply Array.ext_getElem?
    intro k
    rw [Array.getElem?_append]
    split
    · rename_i hk
      exact (h5 k hk).symm
    · rename_i hk
      rw [Array.getElem?_extract]
      split
      · congr 1; omega
      · rw [Array.getElem?_eq_none (by omega)]
  cases w
  cases w'
  simp only [grow, World.drewN] at *
  subst h1 h2 h3
  rw [e1]
  congr 1
  omega
theorem cmpLaysH (blk off size : Nat) (w : World) : CmpLays Try.prog 48 #[] encH 13 cmpH blk off size w :=
  fun _ _ _ _ x y => (compareC_any x.1.ac x.1.ar x.1.seq (.slice x.2.1 x.1.deps.length x.2.2) x.1.kind x.1.nc x.1.nr x.1.pc x.1.pr x.1.fc x.1.fr x.1.name x.1.value y.1.ac y.1.ar y.1.seq (.slice y.2.1 y.1.deps.length y.2.2) y.1.kind y.1.nc y.1.nr y.1.pc y.1.pr y.1.fc y.1.fr y.1.name y.1.value _).mono fun e w' ⟨he, hw⟩ => ⟨he, grew_eq hw⟩
theorem flatK_get (d : List HC) (j : Nat) (h : j < d.length * 13) : (flatH (d.map cvH))[j]? = some ((flatK encH 13 d.toArray)[j]!) := by
  rw [get_flatK encH 13 d.toArray j (by simpa using h)]
  have hj : j / 13 < (d.map cvH).length := by simp; omega
  have hj2 : j / 13 < d.length := by omega
  have e : d.toArray[j / 13]! = d[j / 13] := by rw [getElem!_pos _ _ (by simp; omega)]; simp
  rw [e]
  have hl : (encH d[j / 13]).length = 13 := rfl
  have hm : j % 13 < (encH d[j / 13]).length := by rw [hl]; exact Nat.mod_lt _ (by omega)
  have hf := flatH_get (d.map cvH) (j / 13) hj (j % 13) ((encH d[j / 13])[j % 13]) (by simp only [List.getElem_map]; exact List.getElem?_eq_getElem hm)
  rw [show j / 13 * 13 + j % 13 = j by omega] at hf
  rw [hf, getElem!_pos (encH d[j / 13]) (j % 13) hm]
theorem holdsK_own {B : Nat} {w : World} {g cap : Nat} {D : List HC} (h : OwnH B w (.slice (some ⟨g, 0, none⟩) D.length cap) (D.map cvH)) : HoldsK encH 13 w g 0 D.toArray := by
  have h' : w.ownsRow B 35 13 (.slice (some ⟨g, 0, none⟩) D.length cap) D.length (flatH (D.map cvH)) := by
    have := h
    unfold OwnH at this
    rwa [List.length_map] at this
  intro j hj
  have hj2 : j < D.length * 13 := by simpa using hj
  rw [show 0 + j = j by omega]
  exact ⟨(World.ownsRow.cellAt h' j hj2).trans (flatK_get D j hj2), World.ownsRow.frozenAt h' j⟩

/-- The row, sorted. -/
theorem own_sorted {B : Nat} {w : World} {g cap n : Nat} {D D' : List HC} {os : Array Obj} (h : OwnH B w (.slice (some ⟨g, 0, none⟩) D.length cap) (D.map cvH)) (hg : g < w.heap.size) (hl : D'.length = D.length) :
    OwnH B (sortWorldK encH 13 w g 0 n D'.toArray os) (.slice (some ⟨g, 0, none⟩) D'.length cap) (D'.map cvH) := by
  have hH := holdsK_sortWorldK encH 13 w g 0 n D.toArray D'.toArray os hg (holdsK_own h) (by simp [hl])
  rcases h.2 with ⟨e, _⟩ | ⟨g1, cap1, cur, e, hB, hc, hcap, hmx, hsz, htk⟩
  · cases e
  · have e1 : g1 = g ∧ cap1 = cap := by
      simp only [Value.slice.injEq, Option.some.injEq, Addr.mk.injEq] at e
      exact ⟨e.1.1.symm, e.2.2.symm⟩
    obtain ⟨rfl, rfl⟩ := e1
    have hnew : ∃ cur', (sortWorldK encH 13 w g1 0 n D'.toArray os).heap[g1]? = some (.cells cur' 35 (0, 0)) ∧ cur'.size = cur.size := by
      refine ⟨putCells id 0 (flatK encH 13 D'.toArray) cur, ?_, by simp [putCells]⟩
      have h1 : (sortWorldK encH 13 w g1 0 n D'.toArray os).heap[g1]? = (putRowK encH 13 (Sort.ahead w n) g1 0 D'.toArray).heap[g1]? := heap_grow_old _ _ (by rw [size_putRowK]; exact hg)
      rw [h1]
      simp only [putRowK, putRow, mapBlock, Array.getElem?_modify, Sort.ahead, if_true, hc, Option.map_some, onCells]
    obtain ⟨cur', hc', hz'⟩ := hnew
    refine ⟨by rw [flatH_length, List.length_map], .inr ⟨g1, cap1, cur', by simp, hB, hc', ?_, hmx, hz'.trans hsz, ?_⟩⟩
    · simp at hcap ⊢; omega
    · apply List.ext_getElem?
      intro j
      rw [List.getElem?_take]
      by_cases hj : j < (D'.map cvH).length * 13
      · rw [if_pos hj]
        have hj2 : j < D'.length * 13 := by simpa using hj
        have hcell := (hH j (by simpa using hj2)).1
        rw [show 0 + j = j by omega] at hcell
        rw [flatK_get D' j hj2]
        have : (sortWorldK encH 13 w g1 0 n D'.toArray os).cell? ⟨g1, j, none⟩ = cur'[j]? := cell_of_row _ g1 j _ _ _ hc'
        rw [this] at hcell
        rw [Array.getElem?_toList]
        exact hcell
      · rw [if_neg hj, List.getElem?_eq_none]
        rw [flatH_length]; omega

theorem sortH_some (B g cap : Nat) (D : List HC) (w : World) (h : OwnH B w (.slice (some ⟨g, 0, none⟩) D.length cap) (D.map cvH)) (hg : g < w.heap.size) (hB : B ≤ g) (hl : D.length ≤ 8796093022208) :
    Calls Try.prog 47 #[.slice (some ⟨g, 0, none⟩) D.length cap, .func (.func 48) #[] #[]] w fun e w' => e = .returned (.tuple #[]) ∧ ∃ D' : List HC, D'.Perm D ∧ (D'.Pairwise fun x y => ¬ ltC y.1 x.1) ∧ OwnH B w' (.slice (some ⟨g, 0, none⟩) D'.length cap) (D'.map cvH) ∧ Below B w w' ∧ w.grownBy w' (some g) := by
  have eg : ∀ args w, (callFunc 48 args).run Try.prog w = .ok (.enter 48 args) w := enters_of Try.func48 (by kernel_rfl) rfl
  have hH := holdsK_own h
  have hcon := AnyQ.slices_SortFunc Try.sortH 13 Try.isAgg35 Try.sizeOf35 encH (fun _ => rfl) (fun x v hv => by simp [encH, chCells] at hv; rcases hv with rfl | rfl | rfl | rfl | rfl | rfl | rfl | rfl | rfl | rfl | rfl | rfl | rfl <;> rfl) cmpH swoH 48 #[] g 0 cap D.toArray w eg (cmpLaysH g 0 _ w) hH hg (by simp; omega)
  refine Calls.mono (show Calls Try.prog 47 #[.slice (some ⟨g, 0, none⟩) D.length cap, .func (.func 48) #[] #[]] w _ from hcon) fun e w' ⟨he, d', n, os, ⟨hsz, _, hperm⟩, hs, hw⟩ => ?_
  have e1 : d'.extract 0 D.toArray.size = d' := by rw [← hsz]; exact Array.extract_size
  rw [e1, Array.extract_size] at hperm
  have hl2 : d'.toList.length = D.length := by simpa using hsz
  refine ⟨he, d'.toList, by simpa using hperm, ?_, ?_, ?_, ?_⟩
  · rw [List.pairwise_iff_getElem]
    intro i j hi hj hij
    have h1 := hs i j (Nat.zero_le _) hij (by rw [← hsz]; simpa using hj)
    rw [getElem!_pos d' j (by simpa using hj), getElem!_pos d' i (by simpa using hi), ltOf_cmpH_no] at h1
    simpa using h1
  · rw [hw]
    have := own_sorted (n := n) (os := os) (D' := d'.toList) h hg hl2
    simpa using this
  · rw [hw]
    have b1 : Below B w (putRowK encH 13 (Sort.ahead w n) g 0 d') := Lib.below_putRow (Below.refl _ _) hB
    exact b1.trans (Lib.below_grow B _ (by rw [size_putRowK]; show B ≤ w.heap.size; omega) 0 os)
  · rw [hw]
    refine ⟨rfl, rfl, rfl, by simp [sortWorldK, grow, size_putRowK, Sort.ahead], fun k hk hne => ?_⟩
    have h1 : (sortWorldK encH 13 w g 0 n d' os).heap[k]? = (putRowK encH 13 (Sort.ahead w n) g 0 d').heap[k]? := heap_grow_old _ _ (by rw [size_putRowK]; exact hk)
    rw [h1]
    have hkg : g ≠ k := fun e => hne (by rw [e])
    simp [putRowK, putRow, mapBlock, Array.getElem?_modify, Sort.ahead, hkg]
theorem sortH_none (a : Option Addr) (cap : Nat) (w : World) :
    Calls Try.prog 47 #[.slice a 0 cap, .func (.func 48) #[] #[]] w fun e w' => e = .returned (.tuple #[]) ∧ w' = w :=
  AnyF.slices_SortFunc_none Try.sortH a cap _ w

end Go.Proofs.Ythndgmnckpimmaa
