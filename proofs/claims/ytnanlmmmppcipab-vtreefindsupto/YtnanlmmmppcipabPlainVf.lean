/- In a right tree each node is found where it stands: plainly. -/
import Derived.Test.YtnanlmmmppcipabVtKd
namespace Go.Proofs.Ytnanlmmmppcipab
set_option linter.unusedVariables false

/-- A right tree's keys are unlike. -/
theorem chk2_nodup : ∀ (l : List VT) (seen : List St) (i : Nat), chk2 seen i l = 0 → (∀ x ∈ l, hasS seen x.k = false) ∧ (l.map VT.k).Nodup
  | [], _, _, _ => ⟨fun x h => by simp at h, by simp⟩
  | x :: r, seen, i, h => by
    rw [chk2] at h
    by_cases h1 : keyB i x.k = false
    · rw [if_pos h1] at h; omega
    · rw [if_neg h1] at h
      by_cases h2 : hasS seen x.k = true
      · rw [if_pos h2] at h; omega
      · rw [if_neg h2] at h
        by_cases h3 : chkN x ≠ 0
        · rw [if_pos h3] at h; exact absurd h h3
        · rw [if_neg h3] at h
          obtain ⟨h4, h5⟩ := chk2_nodup r (seen ++ [x.k]) (i + 1) h
          have h6 : ∀ y ∈ r, hasS seen y.k = false ∧ y.k ≠ x.k := fun y hy => by
            have h7 := h4 y hy
            unfold hasS at h7 ⊢
            rw [List.any_append, Bool.or_eq_false_iff] at h7
            refine ⟨h7.1, fun e => ?_⟩
            have h8 := h7.2
            simp [e] at h8
          refine ⟨fun y hy => ?_, ?_⟩
          · rcases List.mem_cons.1 hy with rfl | hy
            · simpa using h2
            · exact (h6 y hy).1
          · rw [List.map_cons, List.nodup_cons]
            refine ⟨fun hm => ?_, h5⟩
            obtain ⟨y, hy, e⟩ := List.mem_map.1 hm
            exact (h6 y hy).2 e
theorem right_nodup {t : VT} (h : chkT t = 0) : ((flT t).map VT.k).Nodup := by
  unfold chkT at h
  split at h
  · omega
  · rw [chkR_flat] at h
    exact (chk2_nodup _ _ _ h).2
theorem find_nodup : ∀ (l : List VT) (i : Nat) (hi : i < l.length), (l.map VT.k).Nodup → l.find? (fun x => decide (x.k = l[i].k)) = some l[i]
  | x :: r, 0, _, _ => by simp
  | x :: r, i + 1, hi, h => by
    rw [List.map_cons, List.nodup_cons] at h
    have hi' : i < r.length := by simpa using hi
    have hne : x.k ≠ r[i].k := fun e => h.1 (by rw [e]; exact List.mem_map_of_mem (List.getElem_mem hi'))
    simp only [List.getElem_cons_succ, List.find?_cons, hne, decide_false]
    exact find_nodup r i hi' h.2
theorem fnd_node {t : VT} (h : ((flT t).map VT.k).Nodup) {i : Nat} (hi : i < (flT t).length) : fndT t (flT t)[i].k = some (flT t)[i] := find_nodup _ i hi h
theorem take_app {D : List St} {s : St} {m : Nat} (h : m ≤ D.length) : (D ++ [s]).take m = D.take m := by rw [List.take_append_of_le_length h]
theorem parR_congr {D1 D2 : List St} {m : Nat} {l : List (Nat × VT)} {key : St} (h : ∀ j, j ≤ m → D1.take j = D2.take j) (hp : PreD m l) : parR D1 l key = parR D2 l key := by
  cases l with
  | nil => rfl
  | cons x r => rw [parR, parR, h x.1 hp.1]
theorem flatD_mem_n : ∀ (n : Nat), (∀ t d, VT.sz t ≤ n → ∀ x ∈ flatD t d, x.2 ∈ flT t) ∧ (∀ l d, szs l ≤ n → ∀ x ∈ flatDs l d, x.2 ∈ flTs l) := fun n =>
  ⟨fun t d h x hx => by have := ((flatD_n n).1 t d h).1; rw [← this]; exact List.mem_map_of_mem hx, fun l d h x hx => by have := ((flatD_n n).2 l d h).1; rw [← this]; exact List.mem_map_of_mem hx⟩
theorem skip_n : ∀ (n : Nat), (∀ t d D rest key, VT.sz t ≤ n → D.length = d → (∀ x ∈ flT t, x.k ≠ key) → PreD d rest → parR D (flatD t d ++ rest) key = parR D rest key) ∧ (∀ l d D rest key, szs l ≤ n → D.length = d → (∀ x ∈ flTs l, x.k ≠ key) → PreD d rest → parR D (flatDs l d ++ rest) key = parR D rest key)
  | 0 => ⟨fun t d D rest key h => by have := t.sz_pos; omega, fun l d D rest key h => by
      cases l with
      | nil => intro _ _ _; simp [flatDs]
      | cons x r => have := x.sz_pos; rw [szs] at h; omega⟩
  | n + 1 => by
    have ih := skip_n n
    have h1 : ∀ t d D rest key, VT.sz t ≤ n + 1 → D.length = d → (∀ x ∈ flT t, x.k ≠ key) → PreD d rest → parR D (flatD t d ++ rest) key = parR D rest key := fun t d D rest key h hD hk hp => by
      rw [flatD_eq, List.cons_append, parR]
      rw [flT_eq] at hk
      rw [if_neg (hk t (List.mem_cons_self ..)), List.take_of_length_le (by show D.length ≤ d; omega)]
      rw [ih.2 t.ks (d + 1) (D ++ [t.k]) rest key (by have := t.sz_eq; omega) (by simp [hD]) (fun x hx => hk x (List.mem_cons_of_mem _ hx)) (hp.mono (Nat.le_succ d))]
      exact parR_congr (m := d) (fun j hj => take_app (by omega)) hp
    refine ⟨h1, fun l => ?_⟩
    induction l with
    | nil => intro d D rest key _ _ _ _; simp [flatDs]
    | cons x r ihr =>
      intro d D rest key h hD hk hp
      rw [szs] at h
      rw [flTs] at hk
      rw [flatDs, List.append_assoc]
      have hpr : PreD d (flatDs r d ++ rest) := PreD.app _ _ d d ((preD_n (szs r)).2 r d (Nat.le_refl _)) ((flatD_n (szs r)).2 r d (Nat.le_refl _)).2 (Nat.le_refl _) hp
      rw [h1 x d D _ key (by omega) hD (fun y hy => hk y (List.mem_append.2 (.inl hy))) hpr]
      exact ihr d D rest key (by omega) hD (fun y hy => hk y (List.mem_append.2 (.inr hy))) hp
theorem skip_t {t : VT} {d : Nat} {D : List St} {rest : List (Nat × VT)} {key : St} (hD : D.length = d) (hk : ∀ x ∈ flT t, x.k ≠ key) (hp : PreD d rest) : parR D (flatD t d ++ rest) key = parR D rest key := (skip_n t.sz).1 t d D rest key (Nat.le_refl _) hD hk hp
theorem kid_mem_n : ∀ (n : Nat), (∀ t x y, VT.sz t ≤ n → x ∈ flT t → y ∈ x.ks → y ∈ flT t) ∧ (∀ l x y, szs l ≤ n → x ∈ flTs l → y ∈ x.ks → y ∈ flTs l)
  | 0 => ⟨fun t x y h => by have := t.sz_pos; omega, fun l x y h => by
      cases l with
      | nil => intro hx; simp [flTs] at hx
      | cons x r => have := x.sz_pos; rw [szs] at h; omega⟩
  | n + 1 => by
    have ih := kid_mem_n n
    have hself : ∀ (l : List VT) (y : VT), y ∈ l → y ∈ flTs l := fun l => by
      induction l with
      | nil => intro y hy; simp at hy
      | cons a r ihr =>
        intro y hy
        rw [flTs]
        rcases List.mem_cons.1 hy with rfl | hy
        · exact List.mem_append.2 (.inl (by rw [flT_eq]; exact List.mem_cons_self ..))
        · exact List.mem_append.2 (.inr (ihr y hy))
    have h1 : ∀ t x y, VT.sz t ≤ n + 1 → x ∈ flT t → y ∈ x.ks → y ∈ flT t := fun t x y h hx hy => by
      rw [flT_eq] at hx ⊢
      rcases List.mem_cons.1 hx with rfl | hx
      · exact List.mem_cons_of_mem _ (hself _ _ hy)
      · exact List.mem_cons_of_mem _ (ih.2 t.ks x y (by have := t.sz_eq; omega) hx hy)
    refine ⟨h1, fun l => ?_⟩
    induction l with
    | nil => intro x y _ hx; simp [flTs] at hx
    | cons a r ihr =>
      intro x y h hx hy
      rw [szs] at h
      rw [flTs] at hx ⊢
      rcases List.mem_append.1 hx with hx | hx
      · exact List.mem_append.2 (.inl (h1 a x y (by omega) hx hy))
      · exact List.mem_append.2 (.inr (ihr x y (by omega) hx hy))
theorem kid_mem {t x y : VT} (hx : x ∈ flT t) (hy : y ∈ x.ks) : y ∈ flT t := (kid_mem_n t.sz).1 t x y (Nat.le_refl _) hx hy
theorem lastS_snoc (D : List St) (s : St) : lastS (D ++ [s]) = (s, true) := by unfold lastS; simp
theorem par_n : ∀ (n : Nat) (t : VT) (d : Nat) (D : List St) (rest : List (Nat × VT)), t.sz ≤ n → D.length = d → ((flT t).map VT.k).Nodup → PreD d rest → ∀ x ∈ flT t, ∀ y ∈ x.ks, parR D (flatD t d ++ rest) y.k = (x.k, true)
  | 0, t, _, _, _, h, _, _, _, _, _, _, _ => by have := t.sz_pos; omega
  | n + 1, t, d, D, rest, h, hD, hn, hp, x, hx, y, hy => by
    have hin : y ∈ flT t := kid_mem hx hy
    rw [flT_eq, List.map_cons, List.nodup_cons] at hn
    have hyk : y ∈ flTs t.ks := by
      rw [flT_eq] at hx hin
      rcases List.mem_cons.1 hin with e | h9
      · exfalso
        have h2 : y.sz < x.sz := by
          obtain ⟨j, hj, e2⟩ := List.getElem_of_mem hy
          rw [← e2]; exact VT.kid hj
        have h3 : ∀ (m : Nat), (∀ t x, VT.sz t ≤ m → x ∈ flT t → x.sz ≤ t.sz) ∧ (∀ l x, szs l ≤ m → x ∈ flTs l → x.sz ≤ szs l) := by
          intro m
          induction m with
          | zero => exact ⟨fun t x h => by have := t.sz_pos; omega, fun l x h => by
              cases l with
              | nil => intro hx; simp [flTs] at hx
              | cons x r => have := x.sz_pos; rw [szs] at h; omega⟩
          | succ m ih =>
            have g1 : ∀ t x, VT.sz t ≤ m + 1 → x ∈ flT t → x.sz ≤ t.sz := fun t x h hx => by
              rw [flT_eq] at hx
              rcases List.mem_cons.1 hx with rfl | hx
              · exact Nat.le_refl _
              · have := ih.2 t.ks x (by have := t.sz_eq; omega) hx; have := t.sz_eq; omega
            refine ⟨g1, fun l => ?_⟩
            induction l with
            | nil => intro x _ hx; simp [flTs] at hx
            | cons a r ihr =>
              intro x h hx
              rw [szs] at h ⊢
              rw [flTs] at hx
              rcases List.mem_append.1 hx with hx | hx
              · have := g1 a x (by omega) hx; omega
              · have := ihr x (by omega) hx; omega
        have h4 := (h3 t.sz).1 t x (Nat.le_refl _) (by rw [flT_eq]; exact hx)
        rw [e] at h2
        omega
      · exact h9
    have htk : t.k ≠ y.k := fun e => hn.1 (by rw [e]; exact List.mem_map_of_mem hyk)
    rw [flatD_eq, List.cons_append, parR, if_neg htk, List.take_of_length_le (by show D.length ≤ d; omega)]
    have hD2 : (D ++ [t.k]).length = d + 1 := by simp [hD]
    have hp2 : PreD (d + 1) rest := hp.mono (Nat.le_succ d)
    have key : ∀ (l : List VT), szs l ≤ n → ((flTs l).map VT.k).Nodup → (y ∈ l → parR (D ++ [t.k]) (flatDs l (d + 1) ++ rest) y.k = (t.k, true)) ∧ (x ∈ flTs l → parR (D ++ [t.k]) (flatDs l (d + 1) ++ rest) y.k = (x.k, true)) := by
      intro l
      induction l with
      | nil => intro _ _; exact ⟨fun h => by simp at h, fun h => by simp [flTs] at h⟩
      | cons a r ihr =>
        intro hs hnd
        rw [szs] at hs
        rw [flTs, List.map_append, List.nodup_append] at hnd
        obtain ⟨n1, n2, n3⟩ := hnd
        have hpr : PreD (d + 1) (flatDs r (d + 1) ++ rest) := PreD.app _ _ _ (d + 1) ((preD_n (szs r)).2 r (d + 1) (Nat.le_refl _)) ((flatD_n (szs r)).2 r (d + 1) (Nat.le_refl _)).2 (Nat.le_refl _) hp2
        have hsk : y ∈ flTs r → parR (D ++ [t.k]) (flatDs (a :: r) (d + 1) ++ rest) y.k = parR (D ++ [t.k]) (flatDs r (d + 1) ++ rest) y.k := fun hyr => by
          rw [flatDs, List.append_assoc]
          exact skip_t hD2 (fun z hz e => n3 z.k (List.mem_map_of_mem hz) y.k (List.mem_map_of_mem hyr) e) hpr
        have hself : ∀ (l : List VT) (y : VT), y ∈ l → y ∈ flTs l := fun l => by
          induction l with
          | nil => intro y hy; simp at hy
          | cons a r ihr =>
            intro y hy
            rw [flTs]
            rcases List.mem_cons.1 hy with rfl | hy
            · exact List.mem_append.2 (.inl (by rw [flT_eq]; exact List.mem_cons_self ..))
            · exact List.mem_append.2 (.inr (ihr y hy))
        obtain ⟨q1, q2⟩ := ihr (by omega) n2
        refine ⟨fun hyl => ?_, fun hxl => ?_⟩
        · rcases List.mem_cons.1 hyl with e | hyr
          · rw [flatDs, List.append_assoc, ← e, flatD_eq, List.cons_append, parR, if_pos rfl, List.take_of_length_le (by show (D ++ [t.k]).length ≤ d + 1; omega)]
            exact lastS_snoc D t.k
          · rw [hsk (hself r y hyr)]; exact q1 hyr
        · rw [flTs] at hxl
          rcases List.mem_append.1 hxl with hxa | hxr
          · rw [flatDs, List.append_assoc]
            exact par_n n a (d + 1) (D ++ [t.k]) _ (by omega) hD2 n1 hpr x hxa y hy
          · rw [hsk ((kid_mem_n (szs r)).2 r x y (Nat.le_refl _) hxr hy)]; exact q2 hxr
    obtain ⟨q1, q2⟩ := key t.ks (by have := t.sz_eq; omega) hn.2
    rw [flT_eq] at hx
    rcases List.mem_cons.1 hx with e | hx
    · rw [e] at hy ⊢
      exact q1 hy
    · exact q2 hx
/-- In a tree of unlike keys a kid's parent is who it stands beneath. -/
theorem par_kid {t x y : VT} (h : ((flT t).map VT.k).Nodup) (hx : x ∈ flT t) (hy : y ∈ x.ks) : parR [] (flatD t 0) y.k = (x.k, true) := by
  have := par_n t.sz t 0 [] [] (Nat.le_refl _) rfl h trivial x hx y hy
  simpa using this
theorem par_root (t : VT) : parR [] (flatD t 0) t.k = ((0, 0), false) := by
  rw [flatD_eq, parR, if_pos rfl]; rfl

end Go.Proofs.Ytnanlmmmppcipab
