/- The document's list against the program's bags: plainly. -/
import Derived.Test.YtlcnfoljkcfplaaDsF
import Derived.Test.YtlcnfoljkcfplaaDsD
import Derived.Test.YtlcnfoljkcfplaaBgI
import Derived.Test.YtlcnfoljkcfplaaBgAc
namespace Go.Proofs.Ytlcnfoljkcfplaa
set_option linter.unusedVariables false
set_option linter.unusedSimpArgs false

def pcOf (s : Sn) : Pc := (s.p, s.sp)
/-- Each bag holds just its link's frames. -/
structure Rel (n : Nat) (B : Nat → List Pc) (L : List Sn) : Prop where
  on : ∀ s ∈ L, linkE n s.fr s.to = 0
  eq : ∀ f t, linkE n f t = 0 → B (plc n f t) = (linkL L f t).map pcOf
theorem plc_one {n : Nat} {f t f' t' : Int} (h : linkE n f t = 0) (h' : linkE n f' t' = 0) (e : plc n f t = plc n f' t') : f = f' ∧ t = t' := by
  obtain ⟨a1, a2, _⟩ := linkE_ok h
  obtain ⟨b1, b2, _⟩ := linkE_ok h'
  unfold plc at e
  have ht : t.toNat < n := by omega
  have ht' : t'.toNat < n := by omega
  have := plc_inj ht ht' e
  omega
theorem erase_map {α β : Type} (g : α → β) : ∀ (l : List α) (k : Nat), (l.map g).eraseIdx k = (l.eraseIdx k).map g
  | [], k => by simp
  | x :: r, 0 => rfl
  | x :: r, k + 1 => by simp [erase_map g r k]
theorem Rel.len {n : Nat} {B : Nat → List Pc} {L : List Sn} (h : Rel n B L) {f t : Int} (hl : linkE n f t = 0) : (B (plc n f t)).length = waitL L f t := by rw [h.eq f t hl, List.length_map]; rfl
/-- The document's Send. -/
def dsE (n : Nat) (L : List Sn) (f t : Int) (p : List UInt8) : Int := if linkE n f t ≠ 0 then linkE n f t else if 65545 < p.length then 3 else if 256 ≤ waitL L f t then 6 else 0
def dsL (n : Nat) (L : List Sn) (f t : Int) (p : List UInt8) : List Sn := if dsE n L f t p = 0 then L ++ [⟨f, t, p, false⟩] else L
theorem Rel.with_ {n : Nat} {B : Nat → List Pc} {L : List Sn} (h : Rel n B L) (f t i : Int) : withE n B f t i = peekE n L f t i := by
  unfold withE peekE
  by_cases hl : linkE n f t = 0
  · rw [if_pos hl, h.len hl, show (if linkE n f t ≠ 0 then linkE n f t else if placeL L f t i < 0 then (4 : Int) else 0) = if placeL L f t i < 0 then 4 else 0 from if_neg (by rw [hl]; simp)]
    rcases placeL_or L f t i with ⟨h1, h2⟩ | ⟨j, hj, h1, h2, h3, h4, h5⟩
    · rw [if_neg (by omega), h1, if_pos (by omega)]
    · rw [if_pos (by omega), h1, if_neg (by omega)]
  · rw [if_neg hl, if_pos hl]
/-- The frame that Peek tells is the document's. -/
theorem Rel.at_ {n : Nat} {B : Nat → List Pc} {L : List Sn} (h : Rel n B L) {f t i : Int} (hp : peekE n L f t i = 0) : ∃ (j : Nat) (hj : j < L.length), placeL L f t i = (j : Int) ∧ onL f t L[j] = true ∧ waitL (L.take j) f t = i.toNat ∧ pcAt n B f t i = pcOf L[j] := by
  have hw := h.with_ f t i
  have hl : linkE n f t = 0 := by
    unfold peekE at hp
    by_cases hl : linkE n f t = 0
    · exact hl
    · rw [if_pos hl] at hp; exact absurd hp hl
  rcases placeL_or L f t i with ⟨h1, h2⟩ | ⟨j, hj, h1, h2, h3, h4, h5⟩
  · exfalso
    unfold peekE at hp
    rw [if_neg (by rw [hl]; simp), h1, if_pos (by omega)] at hp
    cases hp
  · refine ⟨j, hj, h1, h2, h4, ?_⟩
    unfold pcAt
    rw [hw, if_pos hp, h.eq f t hl, ← h4, List.getD_eq_getElem?_getD, List.getElem?_map, link_get f t L j hj h2]
    rfl
theorem Rel.send {n : Nat} {B : Nat → List Pc} {L : List Sn} (h : Rel n B L) (f t : Int) (p : List UInt8) : sendE n B f t p = dsE n L f t p ∧ Rel n (sendN n B f t p) (dsL n L f t p) := by
  by_cases hl : linkE n f t = 0
  · by_cases hp : 65545 < p.length
    · have e1 : dsE n L f t p = 3 := by unfold dsE; rw [if_neg (by rw [hl]; simp), if_pos hp]
      refine ⟨by rw [e1]; unfold sendE; rw [if_pos hl, if_pos hp], ?_⟩
      unfold sendN dsL
      rw [e1, if_neg (by omega), if_neg (by decide)]
      exact h
    · by_cases hw : 256 ≤ waitL L f t
      · have e1 : dsE n L f t p = 6 := by unfold dsE; rw [if_neg (by rw [hl]; simp), if_neg hp, if_pos hw]
        refine ⟨by rw [e1]; unfold sendE putE; rw [if_pos hl, if_neg hp, h.len hl, if_neg (by omega)], ?_⟩
        unfold sendN dsL putN
        rw [e1, if_pos ⟨hl, hp⟩, h.len hl, if_neg (by omega), if_neg (by decide)]
        exact h
      · have e1 : dsE n L f t p = 0 := by unfold dsE; rw [if_neg (by rw [hl]; simp), if_neg hp, if_neg hw]
        refine ⟨by rw [e1]; unfold sendE putE; rw [if_pos hl, if_neg hp, h.len hl, if_pos (by omega)], ?_⟩
        unfold sendN dsL putN
        rw [e1, if_pos ⟨hl, hp⟩, h.len hl, if_pos (by omega), if_pos rfl]
        refine ⟨fun s hs => ?_, fun f' t' hl' => ?_⟩
        · rcases List.mem_append.1 hs with hs | hs
          · exact h.on s hs
          · rw [List.mem_singleton] at hs; subst hs; exact hl
        · rw [link_snoc]
          by_cases e : f = f' ∧ t = t'
          · obtain ⟨rfl, rfl⟩ := e
            rw [upd_same, if_pos (show onL f t ⟨f, t, p, false⟩ = true from onL_yes rfl rfl), List.map_append, h.eq f t hl]
            rfl
          · rw [upd_other _ _ (fun q => e (by have := plc_one hl' hl q; exact ⟨this.1.symm, this.2.symm⟩)), if_neg (by rw [onL_iff]; exact e), h.eq f' t' hl']
  · have e1 : dsE n L f t p = linkE n f t := by unfold dsE; rw [if_pos hl]
    refine ⟨by rw [e1]; unfold sendE; rw [if_neg hl], ?_⟩
    unfold sendN dsL
    rw [e1, if_neg (fun q => hl q.1), if_neg hl]
    exact h
/-- A frame goes. -/
theorem Rel.lose {n : Nat} {B : Nat → List Pc} {L : List Sn} (h : Rel n B L) {f t i : Int} {j : Nat} (hj : j < L.length) (hp : peekE n L f t i = 0) (ho : onL f t L[j] = true) (hw : waitL (L.take j) f t = i.toNat) : Rel n (loseN n B f t i) (L.eraseIdx j) := by
  have hl : linkE n f t = 0 := by have := (onL_iff f t _).1 ho; have h2 := h.on _ (List.getElem_mem hj); rw [this.1, this.2] at h2; exact h2
  unfold loseN
  rw [h.with_, if_pos hp]
  refine ⟨fun s hs => h.on s ((List.eraseIdx_sublist _ _).mem hs), fun f' t' hl' => ?_⟩
  by_cases e : f = f' ∧ t = t'
  · obtain ⟨rfl, rfl⟩ := e
    rw [upd_same, link_erase_on f t L j hj ho, h.eq f t hl, hw, erase_map]
  · rw [upd_other _ _ (fun q => e (by have := plc_one hl' hl q; exact ⟨this.1.symm, this.2.symm⟩)), link_erase_off f' t' L j hj (by rw [Bool.eq_false_iff, Ne, onL_iff]; have := (onL_iff f t _).1 ho; rw [this.1, this.2]; exact e), h.eq f' t' hl']

end Go.Proofs.Ytlcnfoljkcfplaa
