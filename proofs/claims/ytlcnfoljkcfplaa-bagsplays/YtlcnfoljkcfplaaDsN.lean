/- What each call of the document's makes of its list, against what the program's makes of its bags: plainly. -/
import Derived.Test.YtlcnfoljkcfplaaDsM
namespace Go.Proofs.Ytlcnfoljkcfplaa
set_option linter.unusedVariables false
set_option linter.unusedSimpArgs false

section
variable {n : Nat} {B : Nat → List Pc} {L L' : List Sn} {f t i c : Int}
theorem Rel.lim (h : Rel n B L) (hN : ∀ k, PcOk (B k)) : ∀ s ∈ L, s.p.length ≤ 65545 := fun s hs => by
  have h1 := h.eq s.fr s.to (h.on s hs)
  have h2 : pcOf s ∈ B (plc n s.fr s.to) := by
    rw [h1]
    exact List.mem_map.2 ⟨s, List.mem_filter.2 ⟨hs, onL_yes rfl rfl⟩, rfl⟩
  exact (hN _).2 _ h2
/-- Other links have what they had. -/
def Else (f t : Int) (L L' : List Sn) : Prop := ∀ f' t', ¬ (f' = f ∧ t' = t) → linkL L' f' t' = linkL L f' t'
theorem Else.refl (f t : Int) (L : List Sn) : Else f t L L := fun _ _ _ => rfl
theorem onL_else {s : Sn} (h : onL f t s = true) {f' t' : Int} (hn : ¬ (f' = f ∧ t' = t)) : onL f' t' s = false := by
  obtain ⟨h1, h2⟩ := (onL_iff f t s).1 h
  cases hx : onL f' t' s with
  | false => rfl
  | true =>
    obtain ⟨h3, h4⟩ := (onL_iff f' t' s).1 hx
    exact absurd ⟨h3.symm.trans h1, h4.symm.trans h2⟩ hn
theorem Else.snoc (s : Sn) (h : onL f t s = true) : Else f t L (L ++ [s]) := fun f' t' hn => by
  rw [link_snoc, if_neg (by rw [onL_else h hn]; simp)]
theorem Rel.snd (h : Rel n B L) (p : List UInt8) : sendE n B f t p = dsE n L f t p ∧ Rel n (sendN n B f t p) (dsL n L f t p) ∧ (dsL n L f t p).length ≤ L.length + 1 ∧ Else f t L (dsL n L f t p) := by
  refine ⟨(h.send f t p).1, (h.send f t p).2, ?_, ?_⟩
  · unfold dsL; split <;> simp
  · unfold dsL
    split
    · exact Else.snoc _ (onL_yes rfl rfl)
    · exact Else.refl _ _ _
theorem Rel.dvl (h : Rel n B L) : withE n B f t i = peekE n L f t i ∧ Rel n (loseN n B f t i) (dvL n L f t i) ∧ (dvL n L f t i).length ≤ L.length + 1 ∧ Else f t L (dvL n L f t i) := by
  have hw := h.with_ f t i
  refine ⟨hw, ?_⟩
  unfold dvL
  by_cases hp : peekE n L f t i = 0
  · obtain ⟨j, hj, h1, h2, h3, h4⟩ := h.at_ hp
    rw [if_pos hp, h1]
    refine ⟨h.lose hj hp h2 h3, ?_, fun f' t' hn => link_erase_off f' t' L j hj (onL_else h2 hn)⟩
    rw [show ((j : Int)).toNat = j from rfl, List.length_eraseIdx]
    split <;> omega
  · rw [if_neg hp]
    refine ⟨?_, by omega, Else.refl _ _ _⟩
    unfold loseN
    rw [if_neg (by rw [hw]; exact hp)]
    exact h
theorem Rel.pc (h : Rel n B L) : (peekE n L f t i ≠ 0 → (pcAt n B f t i).1 = []) ∧ ∀ (j : Nat) (hj : j < L.length), peekE n L f t i = 0 → placeL L f t i = (j : Int) → (pcAt n B f t i).1 = L[j].p := by
  refine ⟨fun hp => ?_, fun j hj hp hpl => ?_⟩
  · rw [pcAt_no (by rw [h.with_ f t i]; exact hp)]
  · obtain ⟨j2, hj2, h1, h2, h3, h4⟩ := h.at_ hp
    have e : j2 = j := by rw [hpl] at h1; omega
    subst e
    rw [h4]
    rfl
theorem Rel.dbp (h : Rel n B L) (hl : ∀ s ∈ L, s.p.length ≤ 65545) (hD : DbP n L f t i c L') : dblE n B f t i = c ∧ Rel n (dblN n B f t i) L' ∧ L'.length ≤ L.length + 1 ∧ Else f t L L' := by
  have hw := h.with_ f t i
  rcases hD with ⟨hp, rfl, rfl⟩ | ⟨j, hj, hp, hpl, rfl, rfl⟩
  · refine ⟨?_, ?_, by omega, Else.refl _ _ _⟩
    · unfold dblE; rw [if_neg (by rw [hw]; exact hp)]; exact hw
    · unfold dblN; rw [if_neg (by rw [hw]; exact hp)]; exact h
  · obtain ⟨j2, hj2, h1, h2, h3, h4⟩ := h.at_ hp
    have e : j2 = j := by rw [hpl] at h1; omega
    subst e
    have hlk := h.link hj h2
    have hpl2 := hl _ (List.getElem_mem hj)
    have hd : dsE n L f t L[j2].p = if 256 ≤ waitL L f t then 6 else 0 := by
      unfold dsE
      rw [if_neg (by rw [hlk]; simp), if_neg (by omega)]
    obtain ⟨q1, q2⟩ := h.dbl hj hp h2 h4
    rw [hd]
    refine ⟨q1, ?_, ?_, ?_⟩
    · by_cases hx : 256 ≤ waitL L f t
      · rw [if_pos hx] at q2 ⊢; simpa using q2
      · rw [if_neg hx] at q2 ⊢; simpa using q2
    · split <;> simp
    · by_cases hx : 256 ≤ waitL L f t
      · rw [if_pos hx, if_neg (by decide)]; exact Else.refl _ _ _
      · rw [if_neg hx, if_pos rfl]; exact Else.snoc _ (onL_yes rfl rfl)
theorem Rel.spp (h : Rel n B L) {at_ mask : Int} (hS : SpP n L f t i at_ mask c L') : spE n B f t i at_ mask = c ∧ Rel n (spN n B f t i at_ mask) L' ∧ L'.length ≤ L.length + 1 ∧ Else f t L L' := by
  have hw := h.with_ f t i
  rcases hS with ⟨hp, rfl, rfl⟩ | ⟨j, hj, hp, hpl, hS⟩
  · have he : spE n B f t i at_ mask = peekE n L' f t i := by unfold spE; rw [if_neg (by rw [hw]; exact hp)]; exact hw
    refine ⟨he, ?_, by omega, Else.refl _ _ _⟩
    unfold spN
    rw [if_neg (by rw [he]; exact hp)]
    exact h
  · obtain ⟨j2, hj2, h1, h2, h3, h4⟩ := h.at_ hp
    have e : j2 = j := by rw [hpl] at h1; omega
    subst e
    obtain ⟨q1, q2⟩ := h.spoil at_ mask hj hp h2 h3 h4
    rcases hS with ⟨hs, rfl, rfl⟩ | ⟨hs, rfl, rfl⟩
    · rw [if_pos hs] at q1
      rw [q1] at q2
      exact ⟨q1, by simpa using q2, by omega, Else.refl _ _ _⟩
    · rw [if_neg (by rw [hs]; simp)] at q1
      rw [q1] at q2
      refine ⟨q1, q2, ?_, ?_⟩
      · split <;> simp
      · split
        · exact fun f' t' hn => link_set_off f' t' _ (onL_else (onL_yes rfl rfl) hn) L j2 hj (onL_else h2 hn)
        · exact Else.refl _ _ _
end

end Go.Proofs.Ytlcnfoljkcfplaa
