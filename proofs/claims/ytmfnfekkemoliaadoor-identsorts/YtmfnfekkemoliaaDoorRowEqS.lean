/- Plain: stamps sorted, of neighbours that are the same one, are the stamps put at their places one by one. -/
import Derived.Test.YtmfnfekkemoliaaDoorRowOrd
import Derived.Test.YtmfnfekkemoliaaDoorRowSort
namespace Go.Proofs.YtmfnfekkemoliaaDoor
open Go.RowKit Go.Sort
set_option linter.unusedVariables false

theorem ltP_irr (x : Int × Int) : ¬ ltP x x := by unfold ltP; omega
theorem ltP_tr {x y z : Int × Int} (h1 : ltP x y) (h2 : ltP y z) : ltP x z := by unfold ltP at *; omega
theorem ltP_tot {x y : Int × Int} (h1 : ¬ ltP x y) (h2 : x ≠ y) : ltP y x := by
  unfold ltP at *
  have : ¬ (x.1 = y.1 ∧ x.2 = y.2) := fun h => h2 (Prod.ext h.1 h.2)
  omega
/-- Each ahead of the next ones. -/
def Ups (d : List (Int × Int)) : Prop := d.Pairwise ltP

theorem ups_same : ∀ (a b : List (Int × Int)), Ups a → Ups b → (∀ x, x ∈ a ↔ x ∈ b) → a = b
  | [], [], _, _, _ => rfl
  | [], y :: b, _, _, h => absurd ((h y).2 (by simp)) (by simp)
  | x :: a, [], _, _, h => absurd ((h x).1 (by simp)) (by simp)
  | x :: a, y :: b, ha, hb, h => by
    unfold Ups at ha hb
    rw [List.pairwise_cons] at ha hb
    have hxy : x = y := by
      apply Classical.byContradiction
      intro hne
      have h1 : x ∈ b := by
        have := (h x).1 (by simp)
        simp [hne] at this
        exact this
      have h2 : y ∈ a := by
        have := (h y).2 (by simp)
        simp [Ne.symm hne] at this
        exact this
      exact ltP_irr x (ltP_tr (ha.1 y h2) (hb.1 x h1))
    subst hxy
    rw [ups_same a b ha.2 hb.2 fun z => ?_]
    constructor
    · intro hz
      have := (h z).1 (by simp [hz])
      simp at this
      rcases this with e | e
      · exact absurd (ha.1 z hz) (by rw [e]; exact ltP_irr x)
      · exact e
    · intro hz
      have := (h z).2 (by simp [hz])
      simp at this
      rcases this with e | e
      · exact absurd (hb.1 z hz) (by rw [e]; exact ltP_irr x)
      · exact e

/-- compL's members are the row's, and of a row that never falls it makes one that rises. -/
theorem compL_ups (d : List (Int × Int)) (hd : d.Pairwise fun x y => ¬ ltP y x) : ∀ k, k ≤ d.length → Ups (compL (d.take k)) ∧ (∀ x, x ∈ compL (d.take k) ↔ x ∈ d.take k) := by
  intro k
  induction k with
  | zero => intro _; simp [compL, Ups]
  | succ k ih =>
    intro h
    obtain ⟨h1, h2⟩ := ih (by omega)
    have hnf : ∀ x, x ∈ d.take k → ¬ ltP d[k] x := by
      intro x hx
      obtain ⟨i, hi, rfl⟩ := List.mem_take_iff_getElem.1 hx
      exact List.pairwise_iff_getElem.1 hd i k (by omega) (by omega) (by omega)
    rw [compL_next d k (by omega), List.take_succ_eq_append_getElem (by omega : k < d.length)]
    unfold cstep
    split
    · rename_i hl
      refine ⟨h1, fun x => ?_⟩
      rw [h2, List.mem_append]
      constructor
      · exact .inl
      · rintro (e | e)
        · exact e
        · simp at e
          rw [e]
          exact (h2 _).1 (List.mem_of_getLast? hl)
    · rename_i hl
      refine ⟨?_, fun x => by rw [List.mem_append, List.mem_append, h2]⟩
      unfold Ups at h1 ⊢
      rw [List.pairwise_append]
      refine ⟨h1, by simp, fun x hx y hy => ?_⟩
      simp at hy
      subst hy
      have hk : ∀ z, z ∈ compL (d.take k) → ¬ ltP d[k] z := fun z hz => hnf z ((h2 z).1 hz)
      by_cases hxe : x = d[k]
      · exfalso
        -- x is the last one: none behind it may be ahead of d[k]
        apply hl
        obtain ⟨L, l, e⟩ : ∃ L l, compL (d.take k) = L ++ [l] := by
          rcases List.eq_nil_or_concat (compL (d.take k)) with e | ⟨L, l, e⟩
          · rw [e] at hx; simp at hx
          · exact ⟨L, l, by rw [e, List.concat_eq_append]⟩
        rw [e] at hx h1 hk ⊢
        simp at hx
        rcases hx with hx | hx
        · exfalso
          rw [List.pairwise_append] at h1
          have := h1.2.2 x hx l (by simp)
          rw [hxe] at this
          exact hk l (by simp) this
        · rw [List.getLast?_concat, ← hx, hxe]
      · exact ltP_tot (hk x hx) (Ne.symm hxe)

theorem putTo_char (s : Int × Int) (d : List (Int × Int)) (hd : Ups d) (hs : s ∉ d) : ∀ k, k ≤ d.length →
    ((putTo s (d.take k)).2 = false ∧ (putTo s (d.take k)).1 = d.take k ∧ ∀ x ∈ d.take k, ltP x s) ∨
    ((putTo s (d.take k)).2 = true ∧ Ups (putTo s (d.take k)).1 ∧ (∀ x, x ∈ (putTo s (d.take k)).1 ↔ x ∈ d.take k ∨ x = s) ∧ ∃ y ∈ d.take k, ltP s y) := by
  intro k
  induction k with
  | zero => intro _; left; simp [putTo]
  | succ k ih =>
    intro h
    have hm : d[k] ∈ d := List.getElem_mem _
    have hsk : s ≠ d[k] := fun e => hs (by rw [e]; exact hm)
    have hup : ∀ x, x ∈ d.take k → ltP x d[k] := by
      intro x hx
      obtain ⟨i, hi, rfl⟩ := List.mem_take_iff_getElem.1 hx
      exact List.pairwise_iff_getElem.1 hd i k (by omega) (by omega) (by omega)
    have hups : Ups (d.take k) := List.Pairwise.sublist (List.take_sublist _ _) hd
    rw [putTo_next s d k (by omega), List.take_succ_eq_append_getElem (by omega : k < d.length)]
    rcases ih (by omega) with ⟨e1, e2, e3⟩ | ⟨e1, e2, e3, y0, hy0, hy1⟩
    · by_cases hl : lessS s.1 s.2 d[k].1 d[k].2 = true
      · right
        have hlt := (lessS_ltP s d[k]).1 hl
        unfold putStep
        rw [if_pos ⟨e1, hl⟩, e2]
        refine ⟨rfl, ?_, fun x => by simp only [List.mem_append, List.mem_singleton]; exact or_right_comm, d[k], List.mem_append_right _ (List.mem_singleton.2 rfl), hlt⟩
        unfold Ups at hups ⊢
        simp only [List.append_assoc]
        rw [List.pairwise_append]
        refine ⟨hups, by simp [hlt], fun x hx y hy => ?_⟩
        simp at hy
        rcases hy with rfl | rfl
        · exact e3 x hx
        · exact hup x hx
      · left
        unfold putStep
        rw [if_neg (fun hc => hl hc.2)]
        refine ⟨e1, by rw [e2], fun x hx => ?_⟩
        rw [List.mem_append] at hx
        rcases hx with hx | hx
        · exact e3 x hx
        · simp at hx
          subst hx
          exact ltP_tot (fun hc => hl ((lessS_ltP s _).2 hc)) hsk
    · right
      unfold putStep
      rw [if_neg (fun hc => by rw [e1] at hc; cases hc.1)]
      refine ⟨e1, ?_, fun x => by rw [List.mem_append, List.mem_append, e3]; exact or_right_comm, y0, List.mem_append_left _ hy0, hy1⟩
      unfold Ups at e2 ⊢
      rw [List.pairwise_append]
      refine ⟨e2, by simp, fun x hx y hy => ?_⟩
      simp at hy
      subst hy
      rcases (e3 x).1 hx with hx | hx
      · exact hup x hx
      · rw [hx]
        exact ltP_tr hy1 (hup y0 hy0)

theorem putL_ups (s : Int × Int) (d : List (Int × Int)) (hd : Ups d) : Ups (putL d s) ∧ ∀ x, x ∈ putL d s ↔ x ∈ d ∨ x = s := by
  unfold putL
  split
  · rename_i hs
    refine ⟨hd, fun x => ⟨.inl, ?_⟩⟩
    rintro (h | rfl)
    · exact h
    · exact hs
  · rename_i hs
    have h := putTo_char s d hd hs d.length (Nat.le_refl _)
    rw [List.take_length] at h
    rcases h with ⟨e1, e2, e3⟩ | ⟨e1, e2, e3, _⟩
    · rw [if_neg (by rw [e1]; simp), e2]
      refine ⟨?_, fun x => by simp⟩
      unfold Ups at hd ⊢
      rw [List.pairwise_append]
      refine ⟨hd, by simp, fun x hx y hy => ?_⟩
      simp at hy
      subst hy
      exact e3 x hx
    · rw [if_pos e1]
      exact ⟨e2, e3⟩

theorem sortL_ups (l : List (Int × Int)) : ∀ k, k ≤ l.length → Ups (sortL (l.take k)) ∧ ∀ x, x ∈ sortL (l.take k) ↔ x ∈ l.take k := by
  intro k
  induction k with
  | zero => intro _; simp [sortL, Ups]
  | succ k ih =>
    intro h
    obtain ⟨h1, h2⟩ := ih (by omega)
    rw [sortL_next l k (by omega), List.take_succ_eq_append_getElem (by omega : k < l.length)]
    have h3 := putL_ups l[k] _ h1
    refine ⟨h3.1, fun x => ?_⟩
    rw [h3.2, h2, List.mem_append]
    simp

theorem msort_up (d : List (Int × Int)) : (msort d).Pairwise fun x y => ¬ ltP y x := by
  have h := List.pairwise_mergeSort (le := fun x y => !(ltOf cmpP) y x) (fun a b c h1 h2 => by
    simp only [Bool.not_eq_true'] at *
    exact swoP.ntrans c b a h2 h1) (fun a b => by
    cases h : ltOf cmpP b a
    · simp
    · have : ltOf cmpP a b = false := by
        rw [ltOf_cmpP] at *
        rw [lessS_nltP]
        rw [lessS_ltP] at h
        unfold ltP at *
        omega
      simp [this]) d
  refine h.imp fun {a b} h => ?_
  simp only [Bool.not_eq_true'] at h
  rw [ltOf_cmpP, lessS_nltP] at h
  exact h

/-- The two ways come to the same. -/
theorem comp_sort (l : List (Int × Int)) : compL (msort l) = sortL l := by
  have a := compL_ups (msort l) (msort_up l) (msort l).length (Nat.le_refl _)
  have b := sortL_ups l l.length (Nat.le_refl _)
  rw [List.take_length] at a b
  refine ups_same _ _ a.1 b.1 fun x => ?_
  rw [a.2, b.2]
  unfold msort
  exact List.mem_mergeSort

end Go.Proofs.YtmfnfekkemoliaaDoor
