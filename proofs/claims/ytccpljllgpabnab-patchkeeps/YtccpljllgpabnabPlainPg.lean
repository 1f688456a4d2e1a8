/- Right trees, and what is held beside them; each step of a patch keeps them right: plainly. -/
import Derived.Test.YtccpljllgpabnabPaM
import Derived.Test.YtccpljllgpabnabVtV
namespace Go.Proofs.Ytccpljllgpabnab
set_option linter.unusedVariables false
set_option linter.unusedSimpArgs false

mutual
theorem recV_flT : ∀ t : VT, recV t = (flT t).map VT.nf
  | .node k tg tx a ks => by rw [recV, flT_eq, List.map_cons]; exact congrArg _ (recL_flTs ks)
theorem recL_flTs : ∀ l : List VT, recL l = (flTs l).map VT.nf
  | [] => by simp only [recL, flTs, List.map_nil]
  | t :: r => by rw [recL, flTs, List.map_append, recV_flT t, recL_flTs r]
end
theorem keysV_flT (t : VT) : keysV t = (flT t).map VT.k := by rw [← recV_keys, recV_flT, List.map_map]; rfl
theorem keysL_flTs (l : List VT) : keysL l = (flTs l).map VT.k := by rw [← recL_keys, recL_flTs, List.map_map]; rfl
/-- Why a node's own fields are not right. -/
def chkF (f : Nf) : Int := if nameL (txL f.tg) = false then 8 else if 256 < f.tx.size ∨ 4096 < f.at_.length then 3 else chkA noTx f.at_
theorem chkF_nf (t : VT) : chkF t.nf = chkN t := rfl
theorem chk2_nodup2 : ∀ (l : List VT) (seen : List St) (i : Nat), chk2 seen i l = 0 → (∀ x ∈ l, hasS seen x.k = false) ∧ (l.map VT.k).Nodup
  | [], _, _, _ => ⟨fun x h => by simp at h, by simp⟩
  | x :: r, seen, i, h => by
    rw [chk2] at h
    by_cases h1 : keyB i x.k = false
    · rw [if_pos h1] at h; omega
    · rw [if_neg h1] at h
      by_cases h2 : hasS seen x.k = true
      · rw [if_pos h2] at h; omega
      · rw [if_neg h2] at h
        by_cases h3 : chkN x ≠ 0
        · rw [if_pos h3] at h; exact absurd h h3
        · rw [if_neg h3] at h
          obtain ⟨h4, h5⟩ := chk2_nodup2 r (seen ++ [x.k]) (i + 1) h
          have h6 : ∀ y ∈ r, hasS seen y.k = false ∧ y.k ≠ x.k := fun y hy => by
            have h7 := h4 y hy
            unfold hasS at h7 ⊢
            rw [List.any_append, Bool.or_eq_false_iff] at h7
            refine ⟨h7.1, fun e => ?_⟩
            have h8 := h7.2
            simp [e] at h8
          refine ⟨fun y hy => ?_, ?_⟩
          · rcases List.mem_cons.1 hy with rfl | hy
            · simpa using h2
            · exact (h6 y hy).1
          · rw [List.map_cons, List.nodup_cons]
            refine ⟨fun hm => ?_, h5⟩
            obtain ⟨y, hy, e⟩ := List.mem_map.1 hm
            exact (h6 y hy).2 e
theorem chk2_iff : ∀ (l : List VT) (seen : List St) (i : Nat), chk2 seen i l = 0 ↔ (∀ j (h : j < l.length), keyB (i + j) l[j].k = true) ∧ (∀ x ∈ l, hasS seen x.k = false) ∧ (l.map VT.k).Nodup ∧ ∀ x ∈ l, chkN x = 0
  | [], _, _ => by simp [chk2]
  | x :: r, seen, i => by
    constructor
    · intro h
      have h0 := chk2_nodup2 (x :: r) seen i h
      rw [chk2] at h
      by_cases h1 : keyB i x.k = false
      · rw [if_pos h1] at h; omega
      · rw [if_neg h1] at h
        by_cases h2 : hasS seen x.k = true
        · rw [if_pos h2] at h; omega
        · rw [if_neg h2] at h
          by_cases h3 : chkN x ≠ 0
          · rw [if_pos h3] at h; exact absurd h h3
          · rw [if_neg h3] at h
            obtain ⟨q1, _, _, q4⟩ := (chk2_iff r (seen ++ [x.k]) (i + 1)).1 h
            refine ⟨fun j hj => ?_, h0.1, h0.2, fun y hy => ?_⟩
            · cases j with
              | zero => simpa using h1
              | succ j =>
                have := q1 j (by simpa using hj)
                rw [List.getElem_cons_succ, show i + (j + 1) = i + 1 + j by omega]
                exact this
            · rcases List.mem_cons.1 hy with rfl | hy
              · exact Classical.byContradiction fun e => h3 e
              · exact q4 y hy
    · rintro ⟨q1, q2, q3, q4⟩
      have k1 : keyB i x.k = true := by have := q1 0 (by simp); simpa using this
      have k2 := q2 x (List.mem_cons_self ..)
      have k4 := q4 x (List.mem_cons_self ..)
      rw [List.map_cons, List.nodup_cons] at q3
      rw [chk2, if_neg (by rw [k1]; simp), if_neg (by rw [k2]; simp), if_neg (by rw [k4]; simp), chk2_iff r]
      refine ⟨fun j hj => ?_, fun y hy => ?_, q3.2, fun y hy => q4 y (List.mem_cons_of_mem _ hy)⟩
      · have := q1 (j + 1) (by simpa using hj)
        rw [List.getElem_cons_succ] at this
        rw [show i + 1 + j = i + (j + 1) by omega]
        exact this
      · have h9 := q2 y (List.mem_cons_of_mem _ hy)
        unfold hasS at h9 ⊢
        rw [List.any_append, h9, Bool.false_or]
        have : x.k ≠ y.k := fun e => q3.1 (by rw [e]; exact List.mem_map_of_mem hy)
        simpa using this
mutual
theorem parV_key (k q : St) : ∀ t : VT, parV k t = some q → q ∈ keysV t
  | .node q0 tg tx a ks, h => by
    rw [parV] at h
    rw [keysV]
    split at h
    · injection h with h
      rw [h]
      exact List.mem_cons_self ..
    · exact List.mem_cons_of_mem _ (parL_key k q ks h)
theorem parL_key (k q : St) : ∀ l : List VT, parL k l = some q → q ∈ keysL l
  | [], h => by cases h
  | t :: r, h => by
    rw [parL, Option.or_eq_some_iff] at h
    rw [keysL, List.mem_append]
    rcases h with h | ⟨_, h⟩
    · exact .inl (parV_key k q t h)
    · exact .inr (parL_key k q r h)
end
mutual
theorem parV_kid (k q : St) : ∀ (t u : VT), (keysV t).Nodup → parV k t = some q → fndV q t = some u → k ∈ u.ks.map VT.k
  | .node q0 tg tx a ks, u, hn, hp, hf => by
    rw [keysV, List.nodup_cons] at hn
    rw [parV] at hp
    rw [fndV] at hf
    by_cases hm : k ∈ ks.map VT.k
    · rw [if_pos hm] at hp
      injection hp with hp
      rw [if_pos hp] at hf
      injection hf with hf
      subst hf
      exact hm
    · rw [if_neg hm] at hp
      by_cases e : q0 = q
      · exact absurd (parL_key k q ks hp) (by rw [← e]; exact hn.1)
      · rw [if_neg e] at hf
        exact parL_kid k q ks u hn.2 hp hf
theorem parL_kid (k q : St) : ∀ (l : List VT) (u : VT), (keysL l).Nodup → parL k l = some q → fndL q l = some u → k ∈ u.ks.map VT.k
  | [], u, _, hp, _ => by cases hp
  | t :: r, u, hn, hp, hf => by
    rw [keysL] at hn
    rw [parL, Option.or_eq_some_iff] at hp
    rw [fndL, Option.or_eq_some_iff] at hf
    rcases hp with hp | ⟨_, hp⟩
    · rcases hf with hf | ⟨hf, _⟩
      · exact parV_kid k q t u (List.nodup_append.1 hn).1 hp hf
      · exact absurd (parV_key k q t hp) ((fndV_none q t).1 hf)
    · have hq := parL_key k q r hp
      rcases hf with hf | ⟨_, hf⟩
      · exact absurd hq (nodup_apart hn (Classical.byContradiction fun hc => by rw [(fndV_none q t).2 hc] at hf; cases hf))
      · exact parL_kid k q r u (List.nodup_append.1 hn).2.1 hp hf
end
mutual
theorem fndV_rec (k : St) : ∀ (t y : VT), fndV k t = some y → y.nf ∈ recV t
  | .node q tg tx a ks, y, h => by
    rw [fndV] at h
    rw [recV]
    split at h
    · injection h with h
      subst h
      exact List.mem_cons_self ..
    · exact List.mem_cons_of_mem _ (fndL_rec k ks y h)
theorem fndL_rec (k : St) : ∀ (l : List VT) (y : VT), fndL k l = some y → y.nf ∈ recL l
  | [], y, h => by cases h
  | t :: r, y, h => by
    rw [fndL, Option.or_eq_some_iff] at h
    rw [recL, List.mem_append]
    rcases h with h | ⟨_, h⟩
    · exact .inl (fndV_rec k t y h)
    · exact .inr (fndL_rec k r y h)
end
theorem rec_uniq {T : VT} {H : List VT} {k : St} {y : VT} {f : Nf} (hn : (keysV T ++ keysL H).Nodup) (e : (fndV k T).or (fndL k H) = some y) (hf : f ∈ recV T ++ recL H) (ek : f.k = k) : f = y.nf := by
  have hy : y.nf ∈ recV T ++ recL H ∧ y.k = k := by
    rw [Option.or_eq_some_iff] at e
    rw [List.mem_append]
    rcases e with e | ⟨_, e⟩
    · exact ⟨.inl (fndV_rec k T y e), fndV_k k T y e⟩
    · exact ⟨.inr (fndL_rec k H y e), fndL_k k H y e⟩
  have hm : ((recV T ++ recL H).map Nf.k).Nodup := by rw [List.map_append, recV_keys, recL_keys]; exact hn
  obtain ⟨i, hi, rfl⟩ := List.mem_iff_getElem.1 hf
  obtain ⟨j, hj, ej⟩ := List.mem_iff_getElem.1 hy.1
  have h9 : ((recV T ++ recL H).map Nf.k)[i]'(by simpa using hi) = ((recV T ++ recL H).map Nf.k)[j]'(by simpa using hj) := by
    rw [List.getElem_map, List.getElem_map, ej, ek]
    exact hy.2.symm
  have h8 : i = j := (List.getElem_inj hm).1 h9
  subst h8
  exact ej
theorem aft_ne {p : Pa} (h5 : p.kd = 5) (h : aftP p = true) : p.af ≠ p.k ∨ p.af = (0, 0) := by
  unfold aftP at h
  rw [if_pos (show fA p.kd = true from decide_eq_true (by omega)), Bool.or_eq_true] at h
  rcases h with h | h
  · exact .inr (by simpa using h)
  · rw [Bool.and_eq_true] at h
    exact .inl (by simpa using h.2)
/-- A right tree, and right nodes that are held. -/
structure OkB (T : VT) (H : List VT) : Prop where
  nd : (keysV T ++ keysL H).Nodup
  sz : T.sz + szs H ≤ 8192
  ok : ∀ f ∈ recV T ++ recL H, chkF f = 0
  ky : ∀ k ∈ keysL T.ks ++ keysL H, rightB k.1 k.2 = true
  top : nodeB T.k.1 T.k.2 = true
theorem chkT_iff (t : VT) : chkT t = 0 ↔ OkB t [] := by
  unfold chkT
  constructor
  · intro h
    split at h
    · omega
    · rename_i hs
      rw [chkR_flat, chk2_iff] at h
      obtain ⟨q1, _, q3, q4⟩ := h
      have h0 := flT_eq t
      refine ⟨by rw [keysL, List.append_nil, keysV_flT]; exact q3, by simp only [szs]; omega, fun f hf => ?_, fun k hk => ?_, ?_⟩
      · rw [recL, List.append_nil, recV_flT, List.mem_map] at hf
        obtain ⟨x, hx, rfl⟩ := hf
        exact q4 x hx
      · rw [keysL, List.append_nil, keysL_flTs, List.mem_map] at hk
        obtain ⟨x, hx, rfl⟩ := hk
        obtain ⟨j, hj, rfl⟩ := List.mem_iff_getElem.1 hx
        have h9 := q1 (j + 1) (by rw [h0]; simpa using hj)
        simp only [h0, List.getElem_cons_succ] at h9
        unfold keyB at h9
        rw [if_neg (by omega)] at h9
        exact h9
      · have h9 := q1 0 (by rw [h0]; simp)
        simp only [h0, List.getElem_cons_zero] at h9
        exact h9
  · intro h
    have h0 := flT_eq t
    have hs := h.sz
    simp only [szs] at hs
    rw [if_neg (by omega), chkR_flat, chk2_iff]
    refine ⟨fun j hj => ?_, fun x _ => rfl, by have := h.nd; rw [keysL, List.append_nil, keysV_flT] at this; exact this, fun x hx => ?_⟩
    · cases j with
      | zero =>
        simp only [h0, List.getElem_cons_zero]
        exact h.top
      | succ j =>
        simp only [h0, List.getElem_cons_succ]
        unfold keyB
        rw [if_neg (by omega)]
        refine h.ky _ (List.mem_append_left _ ?_)
        rw [keysL_flTs]
        exact List.mem_map_of_mem (List.getElem_mem _)
    · have := h.ok x.nf (by rw [recL, List.append_nil, recV_flT]; exact List.mem_map_of_mem hx)
      exact this
theorem recs_keys (T : VT) (H : List VT) : (recV T ++ recL H).map Nf.k = keysV T ++ keysL H := by rw [List.map_append, recV_keys, recL_keys]
theorem recs_len (T : VT) (H : List VT) : (recV T ++ recL H).length = T.sz + szs H := by
  have h9 : (keysV T ++ keysL H).length = T.sz + szs H := by rw [List.length_append, keysV_len, keysL_len]
  rw [← recs_keys, List.length_map] at h9
  exact h9
/-- The same nodes, otherwise laid. -/
theorem OkB.perm {T T' : VT} {H H' : List VT} (h : OkB T H) (hp : (recV T' ++ recL H').Perm (recV T ++ recL H)) (hk : T'.k = T.k) : OkB T' H' := by
  have hkp : (keysV T' ++ keysL H').Perm (keysV T ++ keysL H) := by rw [← recs_keys, ← recs_keys]; exact hp.map _
  have hl := hp.length_eq
  rw [recs_len, recs_len] at hl
  refine ⟨hkp.nodup_iff.2 h.nd, by rw [hl]; exact h.sz, fun f hf => h.ok f (hp.mem_iff.1 hf), fun k hkm => h.ky k ?_, by rw [hk]; exact h.top⟩
  rw [keysV_eq, keysV_eq, List.cons_append, List.cons_append, hk] at hkp
  exact (List.perm_cons _).1 hkp |>.mem_iff.1 hkm
/-- One node less. -/
theorem OkB.less {T : VT} {H H' : List VT} {f : Nf} (h : OkB T H) (hp : (recV T ++ recL H).Perm (f :: (recV T ++ recL H'))) : OkB T H' := by
  have hkp : (keysV T ++ keysL H).Perm (f.k :: (keysV T ++ keysL H')) := by rw [← recs_keys, ← recs_keys]; exact hp.map _
  have hl := hp.length_eq
  rw [List.length_cons, recs_len, recs_len] at hl
  have hs := h.sz
  refine ⟨(List.nodup_cons.1 (hkp.nodup_iff.1 h.nd)).2, by omega, fun g hg => h.ok g (hp.mem_iff.2 (List.mem_cons_of_mem _ hg)), fun k hkm => ?_, h.top⟩
  rcases List.mem_append.1 hkm with hkm | hkm
  · exact h.ky k (List.mem_append_left _ hkm)
  · have h9 : (keysL H).Perm (f.k :: keysL H') := by
      have h8 := hkp.trans (List.perm_middle (a := f.k) (l₁ := keysV T) (l₂ := keysL H')).symm
      exact (List.perm_append_left_iff _).1 h8
    exact h.ky k (List.mem_append_right _ (h9.mem_iff.2 (List.mem_cons_of_mem _ hkm)))
/-- One node more. -/
theorem OkB.more {T : VT} {H : List VT} {f : Nf} (h : OkB T H) (hf : chkF f = 0) (hk : rightB f.k.1 f.k.2 = true) (hn : f.k ∉ keysV T ++ keysL H) (hs : T.sz + szs H ≠ 8192) : OkB T (.node f.k f.tg f.tx f.at_ [] :: H) := by
  have hs0 := h.sz
  have hp : (keysV T ++ keysL (.node f.k f.tg f.tx f.at_ [] :: H)).Perm (f.k :: (keysV T ++ keysL H)) := by
    simp only [keysL, keysV, List.append_nil, List.singleton_append]
    exact List.perm_middle
  refine ⟨hp.nodup_iff.2 (List.nodup_cons.2 ⟨hn, h.nd⟩), by simp only [szs, VT.sz]; omega, fun g hg => ?_, fun k hkm => ?_, h.top⟩
  · simp only [recL, recV, List.append_nil, List.singleton_append, List.mem_append, List.mem_cons] at hg
    rcases hg with hg | rfl | hg
    · exact h.ok g (List.mem_append_left _ hg)
    · exact hf
    · exact h.ok g (List.mem_append_right _ hg)
  · simp only [keysL, keysV, List.append_nil, List.singleton_append, List.mem_append, List.mem_cons] at hkm
    rcases hkm with hkm | rfl | hkm
    · exact h.ky k (List.mem_append_left _ hkm)
    · exact hk
    · exact h.ky k (List.mem_append_right _ hkm)
/-- Fields are others. -/
theorem OkB.with_ {T : VT} {H : List VT} (h : OkB T H) (k : St) (F : Nf → Nf) (hF : ∀ x, (F x).k = x.k) (ho : ∀ f ∈ recV T ++ recL H, f.k = k → chkF (F f) = 0) : OkB (withV k F T) (withL k F H) := by
  have hl : (withV k F T).sz + szs (withL k F H) = T.sz + szs H := by rw [← keysV_len, ← keysL_len, withV_keys, withL_keys, keysV_len, keysL_len]
  have hks : keysL (withV k F T).ks = keysL T.ks := by
    have h9 := withV_keys k F T
    rw [keysV_eq, keysV_eq T, List.cons.injEq] at h9
    exact h9.2
  refine ⟨by rw [withV_keys, withL_keys]; exact h.nd, by rw [hl]; exact h.sz, fun f hf => ?_, fun q hq => h.ky q (by rw [hks, withL_keys] at hq; exact hq), by rw [withV_k]; exact h.top⟩
  rw [withV_rec k F hF, withL_rec k F hF, ← List.map_append, List.mem_map] at hf
  obtain ⟨x, hx, rfl⟩ := hf
  split
  · rename_i e
    exact ho x hx e
  · exact h.ok x hx
theorem names_lt {p : ByteArray} : ∀ {l : List At}, chkA p l = 0 → (∀ a ∈ l, nameL (txL a.1) = true ∧ a.2.size ≤ 256 ∧ ltT p a.1 = true) ∧ l.Pairwise fun a b => ltT a.1 b.1 = true
  | [], _ => ⟨fun a h => by simp at h, List.Pairwise.nil⟩
  | x :: r, h => by
    rw [chkA] at h
    by_cases h1 : nameL (txL x.1) = false
    · rw [if_pos h1] at h; omega
    · rw [if_neg h1] at h
      by_cases h2 : 256 < x.2.size
      · rw [if_pos h2] at h; omega
      · rw [if_neg h2] at h
        by_cases h3 : ltT p x.1 = false
        · rw [if_pos h3] at h; omega
        · rw [if_neg h3] at h
          have h3 : ltT p x.1 = true := by simpa using h3
          obtain ⟨q1, q2⟩ := names_lt h
          refine ⟨fun a ha => ?_, List.pairwise_cons.2 ⟨fun b hb => (q1 b hb).2.2, q2⟩⟩
          rcases List.mem_cons.1 ha with rfl | ha
          · exact ⟨by simpa using h1, by omega, h3⟩
          · exact ⟨(q1 a ha).1, (q1 a ha).2.1, ltT_trans h3 (q1 a ha).2.2⟩
theorem chkA_of {p : ByteArray} : ∀ {l : List At}, (∀ a ∈ l, nameL (txL a.1) = true ∧ a.2.size ≤ 256 ∧ ltT p a.1 = true) → (l.Pairwise fun a b => ltT a.1 b.1 = true) → chkA p l = 0
  | [], _, _ => rfl
  | x :: r, h1, h2 => by
    obtain ⟨a1, a2, a3⟩ := h1 x (List.mem_cons_self ..)
    rw [List.pairwise_cons] at h2
    rw [chkA, if_neg (by rw [a1]; simp), if_neg (by omega), if_neg (by rw [a3]; simp)]
    exact chkA_of (fun a ha => ⟨(h1 a (List.mem_cons_of_mem _ ha)).1, (h1 a (List.mem_cons_of_mem _ ha)).2.1, h2.1 a ha⟩) h2.2
theorem noTx_lt {s : ByteArray} (h : nameL (txL s) = true) : ltT noTx s = true := by
  unfold ltT
  rw [decide_eq_true_eq]
  have : txL noTx = [] := rfl
  rw [this]
  cases e : txL s with
  | nil => rw [e] at h; simp [nameL] at h
  | cons a l => exact List.nil_lt_cons ..
theorem chkF_parts {f : Nf} (h : chkF f = 0) : nameL (txL f.tg) = true ∧ f.tx.size ≤ 256 ∧ f.at_.length ≤ 4096 ∧ chkA noTx f.at_ = 0 := by
  unfold chkF at h
  split at h
  · omega
  · split at h
    · omega
    · rename_i h1 h2
      exact ⟨by simpa using h1, by omega, by omega, h⟩
theorem chkF_of {f : Nf} (h1 : nameL (txL f.tg) = true) (h2 : f.tx.size ≤ 256) (h3 : f.at_.length ≤ 4096) (h4 : chkA noTx f.at_ = 0) : chkF f = 0 := by
  unfold chkF
  rw [if_neg (by rw [h1]; simp), if_neg (by omega)]
  exact h4
/-- What a right step has. -/
theorem chkP_parts {p : Pa} (h : chkP p = 0) : (1 ≤ p.kd ∧ p.kd ≤ 9) ∧ keyP p = true ∧ parP p = true ∧ aftP p = true ∧ namP p = true ∧ p.vl.size ≤ 256 := by
  unfold chkP at h
  split at h
  · omega
  · rename_i h1
    split at h
    · omega
    · rename_i h2
      split at h
      · omega
      · rename_i h3
        unfold valP at h
        split at h
        · omega
        · rename_i h4
          rw [not_or, not_or] at h2
          exact ⟨Classical.byContradiction fun e => h1 e, by simpa using h2.1, by simpa using h2.2.1, by simpa using h2.2.2, by simpa using h3, by omega⟩
theorem setA_ok {nm vl : ByteArray} {l : List At} (hn : nameL (txL nm) = true) (hv : vl.size ≤ 256) (h : chkA noTx l = 0) : chkA noTx (setA nm vl l) = 0 := by
  obtain ⟨h1, h2⟩ := names_lt h
  unfold setA
  refine chkA_of (fun a ha => ?_) ?_
  · rcases List.mem_append.1 ha with ha | ha
    · exact h1 a (List.mem_filter.1 ha).1
    · rcases List.mem_cons.1 ha with rfl | ha
      · exact ⟨hn, hv, noTx_lt hn⟩
      · exact h1 a (List.mem_filter.1 ha).1
  · rw [List.pairwise_append]
    refine ⟨h2.filter _, List.pairwise_cons.2 ⟨fun b hb => (List.mem_filter.1 hb).2, h2.filter _⟩, fun a ha b hb => ?_⟩
    have ha2 := (List.mem_filter.1 ha).2
    rcases List.mem_cons.1 hb with rfl | hb
    · exact ha2
    · exact ltT_trans ha2 (List.mem_filter.1 hb).2
theorem setA_len {nm vl : ByteArray} {l : List At} (h : l.Pairwise fun a b => ltT a.1 b.1 = true) : (setA nm vl l).length = if hasA nm l then l.length else l.length + 1 := by
  have key : ∀ l : List At, (l.Pairwise fun a b => ltT a.1 b.1 = true) → (l.filter fun a => ltT a.1 nm).length + (l.filter fun a => ltT nm a.1).length + (if hasA nm l then 1 else 0) = l.length := fun l => by
    induction l with
    | nil => intro _; rfl
    | cons x r ih =>
      intro h
      rw [List.pairwise_cons] at h
      have h3 := ih h.2
      rw [List.filter_cons, List.filter_cons]
      unfold hasA at h3 ⊢
      rw [List.any_cons]
      by_cases e : x.1 = nm
      · have hno : (r.any fun a => decide (a.1 = nm)) = false := by
          rw [List.any_eq_false]
          intro a ha e2
          have := h.1 a ha
          rw [e, show a.1 = nm by simpa using e2, ltT_irr] at this
          cases this
        rw [hno] at h3
        simp only [e, ltT_irr, Bool.false_eq_true, if_false, decide_true, Bool.true_or, if_true, List.length_cons] at h3 ⊢
        omega
      · rw [decide_eq_false e, Bool.false_or]
        rcases ltT_or e with h4 | h4
        · rw [if_pos h4, if_neg (by rw [ltT_asym h4]; simp), List.length_cons, List.length_cons]
          omega
        · rw [if_neg (by rw [ltT_asym h4]; simp), if_pos h4, List.length_cons, List.length_cons]
          omega
  have h9 := key l h
  have h1 : (setA nm vl l).length = (l.filter fun a => ltT a.1 nm).length + ((l.filter fun a => ltT nm a.1).length + 1) := by unfold setA; rw [List.length_append, List.length_cons]
  rw [h1]
  cases hh : hasA nm l with
  | true => rw [hh, if_pos rfl] at h9; rw [if_pos rfl]; omega
  | false => rw [hh, if_neg (by simp)] at h9; rw [if_neg (by simp)]; omega
theorem delA_ok {nm : ByteArray} {l : List At} (h : chkA noTx l = 0) : chkA noTx (delA nm l) = 0 := by
  obtain ⟨h1, h2⟩ := names_lt h
  exact chkA_of (fun a ha => h1 a (List.mem_filter.1 ha).1) (h2.filter _)
theorem stepF_ok {p : Pa} {f : Nf} (hp : chkP p = 0) (hk : 6 ≤ p.kd) (hf : chkF f = 0) (hs : (stepF p f).1 = 0) : chkF (stepF p f).2 = 0 := by
  obtain ⟨h1, h2, h3, h4⟩ := chkF_parts hf
  obtain ⟨k1, _, _, _, k5, k6⟩ := chkP_parts hp
  unfold namP at k5
  unfold stepF at hs ⊢
  by_cases e6 : p.kd = 6
  · rw [if_pos e6]
    rw [e6] at k5
    exact chkF_of k5 h2 h3 h4
  · rw [if_neg e6] at hs ⊢
    by_cases e7 : p.kd = 7
    · rw [if_pos e7]
      exact chkF_of h1 k6 h3 h4
    · rw [if_neg e7] at hs ⊢
      have hN : fN p.kd = true := decide_eq_true (by omega)
      rw [if_pos hN] at k5
      by_cases e8 : p.kd = 8
      · rw [if_pos e8] at hs ⊢
        split at hs
        · simp at hs
        · rename_i hfull
          rw [if_neg hfull]
          refine chkF_of h1 h2 ?_ (setA_ok k5 k6 h4)
          have hl := setA_len (nm := p.nm) (vl := p.vl) (names_lt h4).2
          show (setA p.nm p.vl f.at_).length ≤ 4096
          rw [hl]
          split
          · exact h3
          · rename_i hh
            have : ¬ f.at_.length = 4096 := fun e => hfull ⟨by simpa using hh, e⟩
            omega
      · rw [if_neg e8] at hs ⊢
        split at hs
        · rename_i hh
          rw [if_pos hh]
          exact chkF_of h1 h2 (Nat.le_trans (List.length_filter_le _ _) h3) (delA_ok h4)
        · simp at hs
/-- Each step keeps them right. -/
theorem OkB.step {T : VT} {H : List VT} (h : OkB T H) {p : Pa} (hp : chkP p = 0) (hs : (stepU p T H).1 = 0) : OkB (stepU p T H).2.1 (stepU p T H).2.2 := by
  obtain ⟨hkd, hkey, _, haft, hnam, _⟩ := chkP_parts hp
  have hnT := (List.nodup_append.1 h.nd).1
  have hnH := (List.nodup_append.1 h.nd).2.1
  unfold stepU at hs ⊢
  by_cases e1 : p.kd = 1
  · rw [if_pos e1] at hs ⊢
    by_cases hh : p.k ∈ H.map VT.k
    · rw [if_pos hh] at hs; simp at hs
    · rw [if_neg hh] at hs ⊢
      cases e : fndL p.k H with
      | some y =>
        refine h.perm (H' := y :: cutL p.k H) ((List.perm_append_left_iff _).2 ?_) rfl
        refine List.Perm.trans ?_ (cutL_perm p.k H y hnH e).symm
        rw [recL]
        exact List.perm_append_comm
      | none =>
        rw [e] at hs
        dsimp only at hs ⊢
        by_cases ht : T.k = p.k
        · rw [if_pos ht] at hs; simp at hs
        · rw [if_neg ht] at hs ⊢
          cases e2 : fndV p.k T with
          | none => rw [e2] at hs; simp at hs
          | some y =>
            have hf : fndL p.k T.ks = some y := by rw [fndV_eq, if_neg ht] at e2; exact e2
            refine h.perm (T' := cutV p.k T) (H' := y :: H) ?_ (cutV_k _ _)
            refine List.Perm.trans ?_ ((cutV_perm p.k T y hnT hf).symm.append_right _)
            rw [recL, List.append_assoc]
  · rw [if_neg e1] at hs ⊢
    by_cases e2 : p.kd = 2
    · rw [if_pos e2] at hs ⊢
      cases e : heldP p.k H with
      | none => rw [e] at hs; simp at hs
      | some y =>
        rw [e] at hs
        dsimp only at hs ⊢
        by_cases hy : y.ks = []
        · rw [if_pos hy]
          obtain ⟨q1, q2⟩ := heldP_some e
          refine h.less (f := y.nf) ?_
          have h9 := cutL_perm p.k H y hnH (fnd_held hnH q1 q2)
          have h8 : recV y = [y.nf] := by rw [recV_eq, hy]; rfl
          rw [h8] at h9
          refine (h9.append_left _).trans ?_
          rw [← List.append_assoc]
          exact List.perm_append_comm
        · rw [if_neg hy] at hs; simp at hs
    · rw [if_neg e2] at hs ⊢
      by_cases e3 : p.kd = 3
      · rw [if_pos e3] at hs ⊢
        by_cases hm : p.k ∈ keysV T ++ keysL H
        · rw [if_pos hm] at hs; simp at hs
        · rw [if_neg hm] at hs ⊢
          by_cases hf : T.sz + szs H = 8192
          · rw [if_pos hf] at hs; simp at hs
          · rw [if_neg hf]
            have k5 : nameL (txL p.nm) = true := by
              unfold namP at hnam
              rw [if_pos (show fN p.kd = true from decide_eq_true (by omega))] at hnam
              exact hnam
            have k1 : rightB p.k.1 p.k.2 = true := by
              unfold keyP at hkey
              rw [if_neg (by omega)] at hkey
              exact hkey
            exact h.more (f := ⟨p.k, p.nm, ⟨#[]⟩, []⟩) (chkF_of k5 (Nat.zero_le _) (Nat.zero_le _) rfl) k1 hm hf
      · rw [if_neg e3] at hs ⊢
        by_cases e4 : p.kd = 4
        · rw [if_pos e4] at hs ⊢
          cases e : heldP p.k H with
          | none => rw [e] at hs; simp at hs
          | some y =>
            cases eu : fndV p.pa T with
            | none => rw [e, eu] at hs; simp at hs
            | some u =>
              rw [e, eu] at hs
              dsimp only at hs ⊢
              by_cases ha : p.af ≠ (0, 0) ∧ p.af ∉ u.ks.map VT.k
              · rw [if_pos ha] at hs; simp at hs
              · rw [if_neg ha]
                obtain ⟨q1, q2⟩ := heldP_some e
                refine h.perm (T' := insV p.pa p.af y T) (H' := cutL p.k H) ?_ (insV_k ..)
                have ha2 : p.af = (0, 0) ∨ p.af ∈ u.ks.map VT.k := Classical.byContradiction fun hc => by rw [not_or] at hc; exact ha hc
                refine ((insV_perm p.pa p.af y T u hnT eu ha2).append_right _).trans ?_
                rw [List.append_assoc]
                refine (List.perm_append_left_iff _).2 ?_
                exact List.perm_append_comm.trans (cutL_perm p.k H y hnH (fnd_held hnH q1 q2)).symm
        · rw [if_neg e4] at hs ⊢
          by_cases e5 : p.kd = 5
          · rw [if_pos e5] at hs ⊢
            cases e : fndV p.k T with
            | none => rw [e] at hs; simp at hs
            | some y =>
              rw [e] at hs
              dsimp only at hs ⊢
              by_cases ht : T.k = p.k
              · rw [if_pos ht] at hs; simp at hs
              · rw [if_neg ht] at hs ⊢
                cases ep : parV p.k T with
                | none => rw [ep] at hs; simp at hs
                | some q =>
                  rw [ep] at hs
                  dsimp only at hs ⊢
                  cases eu : fndV q T with
                  | none => rw [eu] at hs; simp at hs
                  | some u =>
                    rw [eu] at hs
                    dsimp only at hs ⊢
                    by_cases ha : p.af ≠ (0, 0) ∧ p.af ∉ u.ks.map VT.k
                    · rw [if_pos ha] at hs; simp at hs
                    · rw [if_neg ha]
                      have ha2 : p.af = (0, 0) ∨ p.af ∈ u.ks.map VT.k := Classical.byContradiction fun hc => by rw [not_or] at hc; exact ha hc
                      have hf : fndL p.k T.ks = some y := by rw [fndV_eq, if_neg ht] at e; exact e
                      have hcp := cutV_perm p.k T y hnT hf
                      have hku : p.k ∈ u.ks.map VT.k := parV_kid p.k q T u hnT ep eu
                      have hak : p.af ≠ p.k ∨ p.af = (0, 0) := aft_ne e5 haft
                      refine h.perm (T' := insV q p.af y (cutV p.k T)) (H' := H) (List.Perm.append_right _ ?_) ((insV_k ..).trans (cutV_k ..))
                      refine (insV_perm q p.af y (cutV p.k T) (cutV p.k u) ?_ (fndV_cut p.k q T u hnT eu hku) ?_).trans hcp.symm
                      · have h9 := (hcp.map Nf.k)
                        rw [List.map_append, recV_keys, recV_keys, recV_keys] at h9
                        exact (List.nodup_append.1 (h9.nodup_iff.1 hnT)).1
                      · rcases ha2 with ha2 | ha2
                        · exact .inl ha2
                        · rcases hak with hak | hak
                          · refine .inr ?_
                            rw [cutV_eq]
                            exact cutL_roots2 hak ha2
                          · exact .inl hak
          · rw [if_neg e5] at hs ⊢
            cases e : (fndV p.k T).or (fndL p.k H) with
            | none => rw [e] at hs; simp at hs
            | some y =>
              rw [e] at hs
              dsimp only at hs ⊢
              by_cases hz : (stepF p y.nf).1 ≠ 0
              · rw [if_pos hz] at hs; exact absurd hs hz
              · rw [if_neg hz]
                have hz : (stepF p y.nf).1 = 0 := Classical.byContradiction fun hc => hz hc
                refine h.with_ p.k _ (stepF_k p) fun f hf ek => stepF_ok hp (by omega) (h.ok f hf) ?_
                have : f = y.nf := rec_uniq h.nd e hf ek
                rw [this]
                exact hz
end Go.Proofs.Ytccpljllgpabnab
