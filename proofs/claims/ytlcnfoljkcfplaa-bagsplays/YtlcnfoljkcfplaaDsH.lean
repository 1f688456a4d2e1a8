/- The document's list against the program's bags, when a frame is doubled or spoilt: plainly. -/
import Derived.Test.YtlcnfoljkcfplaaDsG
namespace Go.Proofs.Ytlcnfoljkcfplaa
set_option linter.unusedVariables false
set_option linter.unusedSimpArgs false

theorem set_map {α β : Type} (g : α → β) : ∀ (l : List α) (k : Nat) (x : α), (l.map g).set k (g x) = (l.set k x).map g
  | [], k, x => by simp
  | y :: r, 0, x => rfl
  | y :: r, k + 1, x => by show g y :: (r.map g).set k (g x) = g y :: (r.set k x).map g; rw [set_map g r k x]
theorem Rel.link {n : Nat} {B : Nat → List Pc} {L : List Sn} (h : Rel n B L) {f t : Int} {j : Nat} (hj : j < L.length) (ho : onL f t L[j] = true) : linkE n f t = 0 := by
  have := (onL_iff f t _).1 ho
  have h2 := h.on _ (List.getElem_mem hj)
  rw [this.1, this.2] at h2
  exact h2
/-- A frame is put on its link once more. -/
theorem Rel.dbl {n : Nat} {B : Nat → List Pc} {L : List Sn} (h : Rel n B L) {f t i : Int} {j : Nat} (hj : j < L.length) (hp : peekE n L f t i = 0) (ho : onL f t L[j] = true) (hpc : pcAt n B f t i = pcOf L[j]) :
    dblE n B f t i = (if 256 ≤ waitL L f t then 6 else 0) ∧ Rel n (dblN n B f t i) (if 256 ≤ waitL L f t then L else L ++ [⟨f, t, L[j].p, L[j].sp⟩]) := by
  have hl := h.link hj ho
  unfold dblE dblN putE putN
  rw [h.with_, if_pos hp, if_pos hp, h.len hl]
  by_cases hw : 256 ≤ waitL L f t
  · have hn : ¬ waitL L f t < 256 := by omega
    simp only [if_neg hn, if_pos hw]
    exact ⟨trivial, h⟩
  · have hn : waitL L f t < 256 := by omega
    simp only [if_pos hn, if_neg hw]
    refine ⟨trivial, fun s hs => ?_, fun f' t' hl' => ?_⟩
    · rcases List.mem_append.1 hs with hs | hs
      · exact h.on s hs
      · rw [List.mem_singleton] at hs; subst hs; exact hl
    · rw [link_snoc]
      by_cases e : f = f' ∧ t = t'
      · obtain ⟨rfl, rfl⟩ := e
        rw [upd_same, if_pos (show onL f t ⟨f, t, L[j].p, L[j].sp⟩ = true from onL_yes rfl rfl), List.map_append, h.eq f t hl, hpc]
        rfl
      · rw [upd_other _ _ (fun q => e (by have := plc_one hl' hl q; exact ⟨this.1.symm, this.2.symm⟩)), if_neg (by rw [onL_iff]; exact e), h.eq f' t' hl']
/-- A frame is spoilt. -/
theorem Rel.spoil {n : Nat} {B : Nat → List Pc} {L : List Sn} (h : Rel n B L) {f t i : Int} (at_ mask : Int) {j : Nat} (hj : j < L.length) (hp : peekE n L f t i = 0) (ho : onL f t L[j] = true) (hw : waitL (L.take j) f t = i.toNat) (hpc : pcAt n B f t i = pcOf L[j]) :
    spE n B f t i at_ mask = (if L[j].sp = true then 5 else (spoilL L[j].p at_ mask).2) ∧ Rel n (spN n B f t i at_ mask) (if spE n B f t i at_ mask = 0 then L.set j ⟨f, t, (spoilL L[j].p at_ mask).1, true⟩ else L) := by
  have hl := h.link hj ho
  refine ⟨by unfold spE; rw [h.with_, if_pos hp, hpc]; rfl, ?_⟩
  unfold spN
  by_cases hs : spE n B f t i at_ mask = 0
  · rw [if_pos hs, if_pos hs, hpc]
    refine ⟨fun s q => ?_, fun f' t' hl' => ?_⟩
    · rcases List.mem_or_eq_of_mem_set q with q | q
      · exact h.on s q
      · subst q; exact hl
    · by_cases e : f = f' ∧ t = t'
      · obtain ⟨rfl, rfl⟩ := e
        rw [upd_same, link_set_on f t _ (onL_yes rfl rfl) L j hj ho, h.eq f t hl, hw, ← set_map]
        rfl
      · have e1 : onL f' t' L[j] = false := by rw [Bool.eq_false_iff, Ne, onL_iff]; have := (onL_iff f t _).1 ho; rw [this.1, this.2]; exact e
        have e2 : onL f' t' (⟨f, t, (spoilL L[j].p at_ mask).1, true⟩ : Sn) = false := by rw [Bool.eq_false_iff, Ne, onL_iff]; exact e
        rw [upd_other _ _ (fun q => e (by have := plc_one hl' hl q; exact ⟨this.1.symm, this.2.symm⟩)), link_set_off f' t' _ e2 L j hj e1, h.eq f' t' hl']
  · rw [if_neg hs, if_neg hs]
    exact h
theorem Rel.none (n : Nat) : Rel n (fun _ => []) [] := ⟨fun s h => by simp at h, fun f t _ => rfl⟩

end Go.Proofs.Ytlcnfoljkcfplaa
