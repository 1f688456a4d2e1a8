/- What nodes a tree has behind a cut, an insertion, a change of fields: plainly. -/
import Derived.Test.YtccpljllgpabnabPlainPb
namespace Go.Proofs.Ytccpljllgpabnab
set_option linter.unusedVariables false
set_option linter.unusedSimpArgs false

def VT.nf (t : VT) : Nf := ⟨t.k, t.tg, t.tx, t.at_⟩
mutual
/-- A tree's nodes' own fields, in its order. -/
def recV : VT → List Nf
  | .node k tg tx a ks => ⟨k, tg, tx, a⟩ :: recL ks
def recL : List VT → List Nf
  | [] => []
  | t :: r => recV t ++ recL r
end
theorem recV_eq (t : VT) : recV t = t.nf :: recL t.ks := by cases t; rfl
mutual
theorem recV_keys : ∀ t : VT, (recV t).map Nf.k = keysV t
  | .node _ _ _ _ ks => by rw [recV, keysV, List.map_cons, recL_keys ks]
theorem recL_keys : ∀ l : List VT, (recL l).map Nf.k = keysL l
  | [] => rfl
  | t :: r => by rw [recL, keysL, List.map_append, recV_keys t, recL_keys r]
end
theorem recL_append (l m : List VT) : recL (l ++ m) = recL l ++ recL m := by
  induction l with
  | nil => rfl
  | cons x r ih => rw [List.cons_append, recL, recL, ih, List.append_assoc]
theorem nodup_apart {l m : List St} (h : (l ++ m).Nodup) {k : St} (hk : k ∈ l) : k ∉ m := fun hm => (List.nodup_append.1 h).2.2 k hk k hm rfl
mutual
/-- What is cut away, and what stays. -/
theorem cutV_perm (k : St) : ∀ (t y : VT), (keysV t).Nodup → fndL k t.ks = some y → (recV t).Perm (recV (cutV k t) ++ recV y)
  | .node q tg tx a ks, y, h, hf => by
    rw [keysV, List.nodup_cons] at h
    rw [recV, cutV, recV, List.cons_append]
    exact (cutL_perm k ks y h.2 hf).cons _
theorem cutL_perm (k : St) : ∀ (l : List VT) (y : VT), (keysL l).Nodup → fndL k l = some y → (recL l).Perm (recL (cutL k l) ++ recV y)
  | [], y, h, hf => by cases hf
  | t :: r, y, h, hf => by
    rw [keysL] at h
    have h1 := (List.nodup_append.1 h).1
    have h2 := (List.nodup_append.1 h).2.1
    rw [fndL, Option.or_eq_some_iff] at hf
    rw [recL, cutL]
    by_cases e : t.k = k
    · have hk : k ∈ keysV t := by rw [keysV_eq, e]; exact List.mem_cons_self ..
      rw [if_pos e, cutL_off k r (nodup_apart h hk)]
      rcases hf with hf | ⟨hf, _⟩
      · rw [fndV_eq, if_pos e] at hf
        injection hf with hf
        subst hf
        exact List.perm_append_comm
      · rw [fndV_eq, if_pos e] at hf
        cases hf
    · rw [if_neg e, recL]
      rw [fndV_eq, if_neg e] at hf
      rcases hf with hf | ⟨hn, hf⟩
      · have hk : k ∈ keysV t := by
          rw [keysV_eq, List.mem_cons]
          refine .inr (Classical.byContradiction fun hc => ?_)
          rw [(fndL_none k t.ks).2 hc] at hf
          cases hf
        rw [cutL_off k r (nodup_apart h hk)]
        refine ((cutV_perm k t y h1 hf).append_right _).trans ?_
        rw [List.append_assoc, List.append_assoc]
        exact List.perm_append_comm.append_left _
      · rw [cutV_off k t ((fndL_none k t.ks).1 hn), List.append_assoc]
        exact (cutL_perm k r y h2 hf).append_left _
end
theorem insL_kid {p a : St} {n : VT} : ∀ (l : List VT), (keysL l).Nodup → p ∉ keysL l → a ∈ l.map VT.k → (recL (insL p a n true l)).Perm (recL l ++ recV n)
  | [], _, _, h => by simp at h
  | t :: r, h, hp, ha => by
    rw [keysL] at h hp
    rw [List.mem_append] at hp
    have h2 := (List.nodup_append.1 h).2.1
    rw [insL, insV_off p a n t (fun e => hp (.inl e))]
    by_cases e : t.k = a
    · have hr : a ∉ r.map VT.k := fun hm => by
        obtain ⟨x, hx, e2⟩ := List.mem_map.1 hm
        have h3 := keysL_root hx
        rw [e2] at h3
        refine nodup_apart h ?_ h3
        rw [keysV_eq, e]
        exact List.mem_cons_self ..
      have hoff : ∀ m : List VT, p ∉ keysL m → a ∉ m.map VT.k → insL p a n true m = m := fun m => by
        induction m with
        | nil => intro _ _; rfl
        | cons x s ih =>
          intro h5 h6
          rw [keysL, List.mem_append] at h5
          rw [List.map_cons, List.mem_cons] at h6
          rw [insL, insV_off p a n x (fun e => h5 (.inl e)), if_neg (fun e => h6 (.inl e.2.symm)), ih (fun e => h5 (.inr e)) (fun e => h6 (.inr e))]
          rfl
      rw [if_pos ⟨rfl, e⟩, hoff r (fun e => hp (.inr e)) hr]
      simp only [recL, recL_append, List.append_nil, List.append_assoc, List.cons_append, List.nil_append]
      exact List.perm_append_comm.append_left _
    · rw [if_neg (fun h => e h.2), List.nil_append, recL, recL, List.append_assoc]
      rw [List.map_cons, List.mem_cons] at ha
      exact (insL_kid r h2 (fun e => hp (.inr e)) (ha.resolve_left fun e2 => e e2.symm)).append_left _
mutual
/-- What is there when one more is put in. -/
theorem insV_perm (p a : St) (n : VT) : ∀ (t u : VT), (keysV t).Nodup → fndV p t = some u → (a = (0, 0) ∨ a ∈ u.ks.map VT.k) → (recV (insV p a n t)).Perm (recV t ++ recV n)
  | .node q tg tx at_ ks, u, h, hf, ha => by
    rw [keysV, List.nodup_cons] at h
    rw [fndV] at hf
    rw [insV, recV, recV, List.cons_append]
    refine List.Perm.cons _ ?_
    rw [recL_append]
    by_cases e : q = p
    · subst e
      rw [if_pos rfl] at hf
      injection hf with hf
      subst hf
      by_cases e0 : a = (0, 0)
      · rw [if_pos ⟨rfl, e0⟩, show decide (q = q ∧ a ≠ (0, 0)) = false from decide_eq_false fun e => e.2 e0, insL_off q a n ks h.1]
        simp only [recL, List.append_nil]
        exact List.perm_append_comm
      · rw [if_neg (fun e => e0 e.2), show decide (q = q ∧ a ≠ (0, 0)) = true from decide_eq_true ⟨rfl, e0⟩]
        exact insL_kid ks h.2 h.1 (ha.resolve_left e0)
    · rw [if_neg e] at hf
      rw [if_neg (fun e2 => e e2.1), show decide (q = p ∧ a ≠ (0, 0)) = false from decide_eq_false fun e2 => e e2.1]
      exact insL_perm p a n ks u h.2 hf ha
theorem insL_perm (p a : St) (n : VT) : ∀ (l : List VT) (u : VT), (keysL l).Nodup → fndL p l = some u → (a = (0, 0) ∨ a ∈ u.ks.map VT.k) → (recL (insL p a n false l)).Perm (recL l ++ recV n)
  | [], u, _, hf, _ => by cases hf
  | t :: r, u, h, hf, ha => by
    rw [keysL] at h
    have h1 := (List.nodup_append.1 h).1
    have h2 := (List.nodup_append.1 h).2.1
    rw [fndL, Option.or_eq_some_iff] at hf
    rw [insL, if_neg (fun e => by cases e.1), List.nil_append, recL, recL]
    rcases hf with hf | ⟨hn, hf⟩
    · have hk : p ∈ keysV t := Classical.byContradiction fun hc => by
        rw [(fndV_none p t).2 hc] at hf
        cases hf
      rw [insL_off p a n r (nodup_apart h hk)]
      refine ((insV_perm p a n t u h1 hf ha).append_right _).trans ?_
      rw [List.append_assoc, List.append_assoc]
      exact List.perm_append_comm.append_left _
    · rw [insV_off p a n t ((fndV_none p t).1 hn), List.append_assoc]
      exact (insL_perm p a n r u h2 hf ha).append_left _
end
mutual
theorem withV_rec (k : St) (F : Nf → Nf) (hF : ∀ x, (F x).k = x.k) : ∀ t : VT, recV (withV k F t) = (recV t).map fun x => if x.k = k then F x else x
  | .node q tg tx a ks => by
    rw [withV, recV, List.map_cons]
    by_cases e : q = k
    · rw [if_pos e, recV, withL_rec k F hF ks]
      have := hF ⟨q, tg, tx, a⟩
      dsimp only at this ⊢
      rw [if_pos e]
      generalize F ⟨q, tg, tx, a⟩ = z at this
      cases z
      dsimp only at this ⊢
      rw [this]
    · rw [if_neg e, recV, withL_rec k F hF ks]
      dsimp only
      rw [if_neg e]
theorem withL_rec (k : St) (F : Nf → Nf) (hF : ∀ x, (F x).k = x.k) : ∀ l : List VT, recL (withL k F l) = (recL l).map fun x => if x.k = k then F x else x
  | [] => rfl
  | t :: r => by rw [withL, recL, recL, List.map_append, withV_rec k F hF t, withL_rec k F hF r]
end
theorem fndL_mem {k : St} : ∀ {l : List VT}, k ∈ l.map VT.k → (keysL l).Nodup → ∃ t ∈ l, t.k = k ∧ fndL k l = some t
  | t :: r, h, hn => by
    rw [keysL] at hn
    rw [fndL, fndV_eq]
    by_cases e : t.k = k
    · exact ⟨t, List.mem_cons_self .., e, by rw [if_pos e]; rfl⟩
    · rw [List.map_cons, List.mem_cons] at h
      obtain ⟨x, hx, e2, h2⟩ := fndL_mem (h.resolve_left fun e2 => e e2.symm) (List.nodup_append.1 hn).2.1
      have hk : k ∈ keysL r := by rw [← e2]; exact keysL_root hx
      have hk2 : k ∉ keysV t := fun h => nodup_apart hn h hk
      rw [keysV_eq, List.mem_cons] at hk2
      refine ⟨x, List.mem_cons_of_mem _ hx, e2, ?_⟩
      rw [if_neg e, (fndL_none k t.ks).2 fun h => hk2 (.inr h), h2]
      rfl
end Go.Proofs.Ytccpljllgpabnab
