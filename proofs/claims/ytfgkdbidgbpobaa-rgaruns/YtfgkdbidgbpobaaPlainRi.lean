/- What the document's under makes of slots: those that stand under one, later ones first. -/
import Derived.Test.YtfgkdbidgbpobaaPlainRh
namespace Go.Proofs.Ytfgkdbidgbpobaa
set_option linter.unusedVariables false
set_option linter.unusedSimpArgs false

/-- A slot put in, round by round. -/
def putStep (s : Sl) (p : List Sl × Bool) (x : Sl) : List Sl × Bool := if p.2 = false ∧ ltS x.ts s.ts = true then (p.1 ++ [s] ++ [x], true) else (p.1 ++ [x], p.2)
def putTo (s : Sl) (D : List Sl) : List Sl × Bool := D.foldl (putStep s) ([], false)
def putD (s : Sl) (D : List Sl) : List Sl := if (putTo s D).2 = true then (putTo s D).1 else (putTo s D).1 ++ [s]
theorem putTo_next (s : Sl) (D : List Sl) (i : Nat) (h : i < D.length) : putTo s (D.take (i + 1)) = putStep s (putTo s (D.take i)) D[i] := by
  unfold putTo
  rw [List.take_succ_eq_append_getElem h, List.foldl_append]
  rfl
theorem putTo_done {s x : Sl} {L D : List Sl} {i : Nat} (h : putTo s (L.take i) = (D, true)) (hi : i < L.length) (e : x = L[i]) : putTo s (L.take (i + 1)) = (D ++ [x], true) := by
  rw [putTo_next s L i hi, h, e]; unfold putStep; rw [if_neg (by simp)]
theorem putTo_in {s x : Sl} {L D : List Sl} {i : Nat} (h : putTo s (L.take i) = (D, false)) (hi : i < L.length) (e : x = L[i]) (hl : ltS x.ts s.ts = true) : putTo s (L.take (i + 1)) = (D ++ [s] ++ [x], true) := by
  rw [e] at hl ⊢
  rw [putTo_next s L i hi, h]; unfold putStep; rw [if_pos ⟨rfl, hl⟩]
theorem putTo_on {s x : Sl} {L D : List Sl} {i : Nat} (h : putTo s (L.take i) = (D, false)) (hi : i < L.length) (e : x = L[i]) (hl : ltS x.ts s.ts = false) : putTo s (L.take (i + 1)) = (D ++ [x], false) := by
  rw [e] at hl ⊢
  rw [putTo_next s L i hi, h]; unfold putStep; rw [if_neg (by rw [hl]; simp)]
theorem putTo_length (s : Sl) (D : List Sl) : (putTo s D).1.length ≤ D.length + 1 ∧ ((putTo s D).2 = false → (putTo s D).1.length ≤ D.length) := by
  suffices h : ∀ (D : List Sl) (p : List Sl × Bool), ((D.foldl (putStep s) p).1.length + (if p.2 = true then 1 else 0) = p.1.length + D.length + if (D.foldl (putStep s) p).2 = true then 1 else 0) by
    have h1 := h D ([], false)
    simp only [Bool.false_eq_true, if_false, List.length_nil] at h1
    refine ⟨?_, fun e => ?_⟩
    · unfold putTo; split at h1 <;> omega
    · unfold putTo at e ⊢; rw [e] at h1; simp at h1; omega
  intro D
  induction D with
  | nil => intro p; obtain ⟨x, b⟩ := p; cases b <;> simp
  | cons x D ih =>
    intro p
    rw [List.foldl_cons]
    have h := ih (putStep s p x)
    unfold putStep at h ⊢
    split at h
    · rename_i hc
      rw [if_pos hc]
      simp [hc.1] at h ⊢
      omega
    · rename_i hc
      rw [if_neg hc]
      simp at h ⊢
      omega
/-- Later ones first. -/
def Desc (D : List Sl) : Prop := D.Pairwise fun x y => ltS y.ts x.ts = true
theorem putTo_eq (s : Sl) : ∀ (D : List Sl), Desc D → (∀ x ∈ D, x.ts ≠ s.ts) → putTo s D = (if D.any (fun x => ltS x.ts s.ts) then (D.filter (fun x => ltS s.ts x.ts) ++ s :: D.filter (fun x => ltS x.ts s.ts), true) else (D, false)) := by
  intro D
  induction h : D.length generalizing D with
  | zero => intro _ _; have : D = [] := List.eq_nil_of_length_eq_zero h; subst this; rfl
  | succ n ih =>
    intro hs hn
    obtain ⟨K, x, rfl⟩ : ∃ K x, D = K ++ [x] := ⟨D.dropLast, D.getLast (by intro e; rw [e] at h; simp at h), (List.dropLast_concat_getLast _).symm⟩
    have hK : Desc K := (List.pairwise_append.1 hs).1
    have hKx : ∀ y ∈ K, ltS x.ts y.ts = true := fun y hy => (List.pairwise_append.1 hs).2.2 y hy x (by simp)
    have hnK : ∀ y ∈ K, y.ts ≠ s.ts := fun y hy => hn y (by simp [hy])
    have i1 := ih K (by simpa using h) hK hnK
    have e1 : putTo s (K ++ [x]) = putStep s (putTo s K) x := by unfold putTo; rw [List.foldl_append]; rfl
    rw [e1, i1]
    cases ha : K.any (fun x => ltS x.ts s.ts) with
    | true =>
      obtain ⟨y, hy, hys⟩ := List.any_eq_true.1 ha
      have hx : ltS x.ts s.ts = true := ltS_trans (hKx y hy) hys
      rw [if_pos rfl, if_pos (by rw [List.any_append, ha]; rfl)]
      unfold putStep
      rw [if_neg (by simp)]
      simp [List.filter_append, hx, ltS_asym hx]
    | false =>
      rw [if_neg (by simp)]
      have hKs : K.filter (fun x => ltS s.ts x.ts) = K := List.filter_eq_self.2 fun y hy => by
        have h1 : ltS y.ts s.ts = false := by simpa using List.any_eq_false.1 ha y hy
        rcases ltS_or (hnK y hy) with h2 | h2
        · rw [h2] at h1; cases h1
        · exact h2
      have hKn : K.filter (fun x => ltS x.ts s.ts) = [] := List.filter_eq_nil_iff.2 fun y hy => by simpa using List.any_eq_false.1 ha y hy
      cases hx : ltS x.ts s.ts with
      | true =>
        rw [if_pos (by rw [List.any_append, ha]; simp [hx])]
        unfold putStep
        rw [if_pos ⟨rfl, hx⟩]
        simp [List.filter_append, hx, ltS_asym hx, hKs, hKn]
      | false =>
        rw [if_neg (by rw [List.any_append, ha]; simp [hx])]
        unfold putStep
        rw [if_neg (by rw [hx]; simp)]
theorem putD_eq {s : Sl} {D : List Sl} (h : Desc D) (hn : ∀ x ∈ D, x.ts ≠ s.ts) : putD s D = D.filter (fun x => ltS s.ts x.ts) ++ s :: D.filter (fun x => ltS x.ts s.ts) := by
  unfold putD
  rw [putTo_eq s D h hn]
  cases ha : D.any (fun x => ltS x.ts s.ts) with
  | true => simp
  | false =>
    have hKs : D.filter (fun x => ltS s.ts x.ts) = D := List.filter_eq_self.2 fun y hy => by
      have h1 : ltS y.ts s.ts = false := by simpa using List.any_eq_false.1 ha y hy
      rcases ltS_or (hn y hy) with h2 | h2
      · rw [h2] at h1; cases h1
      · exact h2
    have hKn : D.filter (fun x => ltS x.ts s.ts) = [] := List.filter_eq_nil_iff.2 fun y hy => by simpa using List.any_eq_false.1 ha y hy
    simp [hKs, hKn]
theorem putD_desc {s : Sl} {D : List Sl} (h : Desc D) (hn : ∀ x ∈ D, x.ts ≠ s.ts) : Desc (putD s D) ∧ ∀ y, y ∈ putD s D ↔ y = s ∨ y ∈ D := by
  rw [putD_eq h hn]
  refine ⟨?_, fun y => ?_⟩
  · unfold Desc
    rw [List.pairwise_append]
    refine ⟨List.Pairwise.sublist List.filter_sublist h, List.pairwise_cons.2 ⟨fun y hy => by simpa using (List.mem_filter.1 hy).2, List.Pairwise.sublist List.filter_sublist h⟩, fun x hx y hy => ?_⟩
    have h1 := (List.mem_filter.1 hx).2
    rcases List.mem_cons.1 hy with rfl | hy
    · exact h1
    · exact ltS_trans (List.mem_filter.1 hy).2 h1
  · rw [List.mem_append, List.mem_cons, List.mem_filter, List.mem_filter]
    constructor
    · rintro (⟨h1, _⟩ | h1 | ⟨h1, _⟩)
      · exact .inr h1
      · exact .inl h1
      · exact .inr h1
    · rintro (h1 | h1)
      · exact .inr (.inl h1)
      · rcases ltS_or (hn y h1) with h3 | h3
        · exact .inr (.inr ⟨h1, h3⟩)
        · exact .inl ⟨h1, h3⟩
/-- Under whom a slot stands. -/
def upS (L : List Sl) (s : Sl) : St := if hasL L s.af = true then s.af else z0
def undF (L : List Sl) (a : St) (M : List Sl) : List Sl := M.foldl (fun D s => if upS L s = a then putD s D else D) []
theorem undF_next (L : List Sl) (a : St) (M : List Sl) (i : Nat) (h : i < M.length) : undF L a (M.take (i + 1)) = if upS L M[i] = a then putD M[i] (undF L a (M.take i)) else undF L a (M.take i) := by
  unfold undF
  rw [List.take_succ_eq_append_getElem h, List.foldl_append]
  rfl
theorem undF_spec {L : List Sl} (a : St) : ∀ (M : List Sl), (M.map (·.ts)).Nodup → Desc (undF L a M) ∧ ∀ y, y ∈ undF L a M ↔ y ∈ M ∧ upS L y = a := by
  intro M
  induction h : M.length generalizing M with
  | zero => intro _; have : M = [] := List.eq_nil_of_length_eq_zero h; subst this; exact ⟨List.Pairwise.nil, fun y => by simp [undF]⟩
  | succ n ih =>
    intro hn
    obtain ⟨K, x, rfl⟩ : ∃ K x, M = K ++ [x] := ⟨M.dropLast, M.getLast (by intro e; rw [e] at h; simp at h), (List.dropLast_concat_getLast _).symm⟩
    rw [List.map_append, List.nodup_append] at hn
    obtain ⟨h1, h2⟩ := ih K (by simpa using h) hn.1
    have e1 : undF L a (K ++ [x]) = if upS L x = a then putD x (undF L a K) else undF L a K := by unfold undF; rw [List.foldl_append]; rfl
    rw [e1]
    split
    · rename_i hx
      have hne : ∀ y ∈ undF L a K, y.ts ≠ x.ts := fun y hy e => hn.2.2 y.ts (List.mem_map_of_mem ((h2 y).1 hy).1) x.ts (by simp) e
      obtain ⟨d1, d2⟩ := putD_desc h1 hne
      refine ⟨d1, fun y => ?_⟩
      rw [d2, h2, List.mem_append, List.mem_singleton]
      constructor
      · rintro (rfl | ⟨h3, h4⟩)
        · exact ⟨.inr rfl, hx⟩
        · exact ⟨.inl h3, h4⟩
      · rintro ⟨h3 | h3, h4⟩
        · exact .inr ⟨h3, h4⟩
        · exact .inl h3
    · rename_i hx
      refine ⟨h1, fun y => ?_⟩
      rw [h2, List.mem_append, List.mem_singleton]
      constructor
      · rintro ⟨h3, h4⟩; exact ⟨.inl h3, h4⟩
      · rintro ⟨h3 | rfl, h4⟩
        · exact ⟨h3, h4⟩
        · exact absurd h4 hx
theorem undF_length (L : List Sl) (a : St) (M : List Sl) (h : (M.map (·.ts)).Nodup) : (undF L a M).length ≤ M.length := by
  obtain ⟨h1, h2⟩ := undF_spec (L := L) a M h
  have hn : ((undF L a M).map (·.ts)).Nodup := by
    rw [List.Nodup, List.pairwise_map]
    exact h1.imp fun h => fun e => ltS_ne h (Eq.symm e)
  have := nodup_mem_le hn (m := M.map (·.ts)) fun x hx => by
    obtain ⟨s, hs, rfl⟩ := List.mem_map.1 hx
    exact List.mem_map_of_mem ((h2 s).1 hs).1
  simpa using this
theorem up_eq {L : List Sl} (h : GoodL L) {s : Sl} (hs : s ∈ L) : upO L s.ts = upS L s := by unfold upO upS; rw [afO_mem h hs]
/-- They are those under it, the last first. -/
theorem und_kids {L : List Sl} (h : GoodL L) {a : St} (ha : Nd L a) : undF L a L = (kidL L a).reverse.map (slO L) := by
  obtain ⟨h1, h2⟩ := undF_spec (L := L) a L h.nod
  have e1 : ((undF L a L).map (·.ts)).reverse = kidL L a := by
    refine SrtS.ext ?_ (kidL_srt L a) fun q => ?_
    · unfold SrtS
      rw [List.pairwise_reverse, List.pairwise_map]
      exact h1
    · rw [List.mem_reverse, List.mem_map]
      constructor
      · rintro ⟨s, hs, rfl⟩
        obtain ⟨a1, a2⟩ := (h2 s).1 hs
        have hk : hasL L s.ts = true := hasL_iff.2 ⟨s, a1, rfl⟩
        have := (up_kid h hk).1
        rw [up_eq h a1, a2] at this
        exact this
      · intro hq
        obtain ⟨b1, b2, b3⟩ := kid_up h hq ha
        obtain ⟨s, hs, rfl⟩ := hasL_iff.1 b1
        exact ⟨s, (h2 s).2 ⟨hs, by rw [← up_eq h hs]; exact b2⟩, rfl⟩
  rw [← e1, List.reverse_reverse, List.map_map]
  have : ∀ s ∈ undF L a L, (slO L ∘ fun x => x.ts) s = s := fun s hs => slO_mem h ((h2 s).1 hs).1
  conv => lhs; rw [← List.map_id (undF L a L)]
  exact List.map_congr_left fun s hs => (this s hs).symm
end Go.Proofs.Ytfgkdbidgbpobaa
