/- Moves in any order, plainly. -/
import Derived.Test.YtljepindfdhbbaaRfD
namespace Go.Proofs.Ytljepindfdhbbaa
open Go.RowKit
set_option linter.unusedVariables false

/-- Some of the moves are done, the rest is not. -/
structure AnyP (L Lx R : List Mv) : Prop where
  srt : SrtM Lx
  mem : ∀ x, x ∈ L ↔ x ∈ Lx ∨ x ∈ R
  new : ∀ x ∈ R, hasM Lx x.ts = false
  nd : (R.map (·.ts)).Nodup
  fm : ∀ x ∈ R, FmM x
theorem srtM_nodup {L : List Mv} (h : SrtM L) : (L.map (·.ts)).Nodup := by
  unfold List.Nodup
  rw [List.pairwise_map]
  exact h.imp fun h => ltS_ne h
theorem AnyP.start {L : List Mv} (h : SrtM L) (hf : ∀ x ∈ L, FmM x) : AnyP L [] L := ⟨List.Pairwise.nil, fun x => by simp, fun x _ => hasM_no.2 (fun y hy => absurd hy (by simp)), srtM_nodup h, hf⟩
theorem AnyP.ends {L Lx : List Mv} (h : AnyP L Lx []) (hs : SrtM L) : Lx = L := SrtM.ext h.srt hs fun x => by rw [h.mem x]; simp
theorem AnyP.ok {L Lx R : List Mv} (h : AnyP L Lx R) {x : Mv} (hx : x ∈ R) : doE Lx x = 0 := by
  obtain ⟨h1, h2, h3⟩ := h.fm x hx
  unfold doE
  rw [h1, h2, h3, h.new x hx]
  rfl
theorem AnyP.step {L Lx R : List Mv} (h : AnyP L Lx R) {i : Nat} {x : Mv} (hx : R[i]? = some x) : AnyP L (doL Lx x) (R.take i ++ R.drop (i + 1)) := by
  obtain ⟨hi, e⟩ := List.getElem?_eq_some_iff.1 hx
  have hxm : x ∈ R := List.mem_of_getElem? hx
  have hn := h.new x hxm
  have hR : R = R.take i ++ x :: R.drop (i + 1) := by rw [← e, List.getElem_cons_drop, List.take_append_drop]
  have hmem : ∀ y, y ∈ R ↔ y = x ∨ y ∈ R.take i ++ R.drop (i + 1) := fun y => by
    rw [List.mem_append]
    conv => lhs; rw [hR]
    rw [List.mem_append, List.mem_cons]
    constructor
    · rintro (h1 | h1 | h1)
      · exact .inr (.inl h1)
      · exact .inl h1
      · exact .inr (.inr h1)
    · rintro (h1 | h1 | h1)
      · exact .inr (.inl h1)
      · exact .inl h1
      · exact .inr (.inr h1)
  have hnd : (x.ts :: (R.take i ++ R.drop (i + 1)).map (·.ts)).Nodup := by
    have h1 : (R.map (·.ts)).Perm (x.ts :: (R.take i ++ R.drop (i + 1)).map (·.ts)) := by
      have h2 : R.Perm (x :: (R.take i ++ R.drop (i + 1))) := by
        conv => lhs; rw [hR]
        exact List.perm_middle
      exact h2.map (·.ts)
    exact h1.nodup_iff.1 h.nd
  rw [doL_ok (h.ok hxm)]
  refine ⟨insM_srt h.srt x, fun y => ?_, fun y hy => ?_, (List.nodup_cons.1 hnd).2, fun y hy => h.fm y ((hmem y).2 (.inr hy))⟩
  · rw [h.mem y, hmem y, mem_insM hn]
    constructor
    · rintro (h1 | h1 | h1)
      · exact .inl (.inr h1)
      · exact .inl (.inl h1)
      · exact .inr h1
    · rintro ((h1 | h1) | h1)
      · exact .inr (.inl h1)
      · exact .inl h1
      · exact .inr (.inr h1)
  · refine hasM_no.2 fun z hz e9 => ?_
    rcases (mem_insM hn).1 hz with hz | hz
    · rw [hz] at e9
      exact (List.nodup_cons.1 hnd).1 (by rw [e9]; exact List.mem_map_of_mem hy)
    · exact hasM_no.1 (h.new y ((hmem y).2 (.inr hy))) z hz e9

end Go.Proofs.Ytljepindfdhbbaa
