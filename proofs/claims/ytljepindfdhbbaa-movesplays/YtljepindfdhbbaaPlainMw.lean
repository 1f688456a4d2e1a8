/- A list of moves as the program keeps it: which are done, what each one left; what a place in it is; one that is put in, taken out, done, taken back. -/
import Derived.Test.YtljepindfdhbbaaPlainMv
namespace Go.Proofs.Ytljepindfdhbbaa
set_option linter.unusedVariables false
set_option linter.unusedSimpArgs false

def SrtM (L : List Mv) : Prop := L.Pairwise fun x y => ltS x.ts y.ts = true
/-- A place: all ahead of it are ahead of the stamp, all others are not. -/
structure PlcM (L : List Mv) (t : St) (i : Nat) : Prop where
  le : i ≤ L.length
  lo : ∀ j (h : j < L.length), j < i → ltS L[j].ts t = true
  hi : ∀ j (h : j < L.length), i ≤ j → ltS L[j].ts t = false
def hasM (L : List Mv) (t : St) : Bool := L.any fun m => decide (m.ts = t)
theorem hasM_iff {L : List Mv} {t : St} : hasM L t = true ↔ ∃ m ∈ L, m.ts = t := by unfold hasM; rw [List.any_eq_true]; simp
theorem hasM_no {L : List Mv} {t : St} : hasM L t = false ↔ ∀ m ∈ L, m.ts ≠ t := by unfold hasM; rw [List.any_eq_false]; simp
/-- A move is put in. -/
def insM (L : List Mv) (m : Mv) : List Mv := (L.filter fun x => ltS x.ts m.ts) ++ m :: L.filter fun x => ltS m.ts x.ts
def delM (L : List Mv) (t : St) : List Mv := L.filter fun x => decide (x.ts ≠ t)
theorem SrtM.lt {L : List Mv} (h : SrtM L) {i j : Nat} (hi : i < L.length) (hj : j < L.length) (hij : i < j) : ltS L[i].ts L[j].ts = true := List.pairwise_iff_getElem.1 h i j hi hj hij
theorem PlcM.has {L : List Mv} (h : SrtM L) {t : St} {i : Nat} (p : PlcM L t i) : hasM L t = decide (∃ h : i < L.length, L[i].ts = t) := by
  by_cases hx : ∃ h : i < L.length, L[i].ts = t
  · rw [decide_eq_true hx]
    obtain ⟨a, b⟩ := hx
    exact hasM_iff.2 ⟨_, List.getElem_mem a, b⟩
  · rw [decide_eq_false hx]
    refine hasM_no.2 fun m hm e => hx ?_
    obtain ⟨j, hj, rfl⟩ := List.mem_iff_getElem.1 hm
    rcases Nat.lt_or_ge j i with h1 | h1
    · have := p.lo j hj h1; rw [e, ltS_irr] at this; cases this
    · rcases Nat.lt_or_ge i j with h2 | h2
      · have h3 : i < L.length := by omega
        have h4 := h.lt h3 hj h2
        have h5 := p.hi i h3 (Nat.le_refl _)
        rw [e] at h4
        rw [h4] at h5
        cases h5
      · obtain rfl : i = j := by omega
        exact ⟨hj, e⟩
theorem filter_split {α : Type} (L : List α) (f : α → Bool) (i : Nat) (h1 : ∀ j (h : j < L.length), j < i → f L[j] = true) (h2 : ∀ j (h : j < L.length), i ≤ j → f L[j] = false) : L.filter f = L.take i := by
  induction L generalizing i with
  | nil => simp
  | cons x t ih =>
    match i with
    | 0 =>
      rw [List.take_zero, List.filter_eq_nil_iff]
      intro y hy
      obtain ⟨j, hj, rfl⟩ := List.mem_iff_getElem.1 hy
      simp [h2 j hj (Nat.zero_le _)]
    | i + 1 =>
      have h0 := h1 0 (by simp) (by omega)
      rw [List.getElem_cons_zero] at h0
      rw [List.filter_cons, if_pos h0, List.take_succ_cons, ih i (fun j hj hji => h1 (j + 1) (Nat.succ_lt_succ hj) (by omega)) (fun j hj hji => h2 (j + 1) (Nat.succ_lt_succ hj) (by omega))]
theorem filter_split2 {α : Type} (L : List α) (f : α → Bool) (i : Nat) (h1 : ∀ j (h : j < L.length), j < i → f L[j] = false) (h2 : ∀ j (h : j < L.length), i ≤ j → f L[j] = true) : L.filter f = L.drop i := by
  induction L generalizing i with
  | nil => simp
  | cons x t ih =>
    match i with
    | 0 =>
      rw [List.drop_zero, List.filter_eq_self]
      intro y hy
      obtain ⟨j, hj, rfl⟩ := List.mem_iff_getElem.1 hy
      exact h2 j hj (Nat.zero_le _)
    | i + 1 =>
      have h0 := h1 0 (by simp) (by omega)
      rw [List.getElem_cons_zero] at h0
      rw [List.filter_cons, h0, List.drop_succ_cons, ih i (fun j hj hji => h1 (j + 1) (Nat.succ_lt_succ hj) (by omega)) (fun j hj hji => h2 (j + 1) (Nat.succ_lt_succ hj) (by omega))]
      rfl
theorem PlcM.ins {L : List Mv} {m : Mv} {i : Nat} (p : PlcM L m.ts i) (hn : hasM L m.ts = false) : insM L m = L.take i ++ m :: L.drop i := by
  unfold insM
  rw [filter_split L _ i p.lo p.hi, filter_split2 L _ i (fun j hj hji => ltS_asym (p.lo j hj hji)) fun j hj hji => ?_]
  have := p.hi j hj hji
  rcases ltS_or (hasM_no.1 hn _ (List.getElem_mem hj)) with h | h
  · rw [h] at this; cases this
  · exact h
theorem PlcM.del {L : List Mv} (h : SrtM L) {t : St} {i : Nat} (p : PlcM L t i) (hi : i < L.length) (e : L[i].ts = t) : delM L t = L.take i ++ L.drop (i + 1) := by
  unfold delM
  have e1 : L = L.take i ++ L[i] :: L.drop (i + 1) := by rw [← List.drop_eq_getElem_cons hi, List.take_append_drop]
  have q1 : (L.take i).filter (fun x => decide (x.ts ≠ t)) = L.take i := List.filter_eq_self.2 fun x hx => by
    obtain ⟨j, hj, rfl⟩ := List.mem_iff_getElem.1 hx
    rw [List.getElem_take]
    have hj2 : j < i := by simp at hj; omega
    simpa using ltS_ne (p.lo j (by omega) hj2)
  have q2 : (L.drop (i + 1)).filter (fun x => decide (x.ts ≠ t)) = L.drop (i + 1) := List.filter_eq_self.2 fun x hx => by
    obtain ⟨j, hj, rfl⟩ := List.mem_iff_getElem.1 hx
    rw [List.getElem_drop]
    have := ltS_ne (h.lt hi (show i + 1 + j < L.length by simp at hj; omega) (by omega))
    rw [e] at this
    simpa using this.symm
  conv => lhs; rw [e1]
  rw [List.filter_append, List.filter_cons, q1, q2]
  simp [e]
theorem insM_srt {L : List Mv} (h : SrtM L) (m : Mv) : SrtM (insM L m) := by
  unfold insM SrtM
  rw [List.pairwise_append]
  refine ⟨List.Pairwise.sublist List.filter_sublist h, List.pairwise_cons.2 ⟨fun y hy => by simpa using (List.mem_filter.1 hy).2, List.Pairwise.sublist List.filter_sublist h⟩, fun x hx y hy => ?_⟩
  have h1 := (List.mem_filter.1 hx).2
  rcases List.mem_cons.1 hy with rfl | hy
  · exact h1
  · exact ltS_trans h1 (List.mem_filter.1 hy).2
theorem delM_srt {L : List Mv} (h : SrtM L) (t : St) : SrtM (delM L t) := List.Pairwise.sublist List.filter_sublist h
theorem mem_insM {L : List Mv} {m q : Mv} (hn : hasM L m.ts = false) : q ∈ insM L m ↔ q = m ∨ q ∈ L := by
  unfold insM
  rw [List.mem_append, List.mem_cons, List.mem_filter, List.mem_filter]
  constructor
  · rintro (⟨h1, h2⟩ | h | ⟨h1, h2⟩)
    · exact .inr h1
    · exact .inl h
    · exact .inr h1
  · rintro (h | h1)
    · exact .inr (.inl h)
    · rcases ltS_or (hasM_no.1 hn q h1) with h3 | h3
      · exact .inl ⟨h1, h3⟩
      · exact .inr (.inr ⟨h1, h3⟩)
/-- Two that rise and have the same are the same. -/
theorem SrtM.ext {T U : List Mv} (h : SrtM T) (h2 : SrtM U) (hmem : ∀ p, p ∈ T ↔ p ∈ U) : T = U := by
  have head : ∀ {x : Mv} {t : List Mv}, SrtM (x :: t) → ∀ y ∈ t, ltS x.ts y.ts = true := fun h => (List.pairwise_cons.1 h).1
  have tail : ∀ {x : Mv} {t : List Mv}, SrtM (x :: t) → SrtM t := fun h => (List.pairwise_cons.1 h).2
  induction T generalizing U with
  | nil =>
    cases U with
    | nil => rfl
    | cons y u => exact absurd ((hmem y).2 (List.mem_cons_self ..)) (by simp)
  | cons x t ih =>
    cases U with
    | nil => exact absurd ((hmem x).1 (List.mem_cons_self ..)) (by simp)
    | cons y u =>
      have exy : x = y := by
        rcases List.mem_cons.1 ((hmem x).1 (List.mem_cons_self ..)) with e | e
        · exact e
        · rcases List.mem_cons.1 ((hmem y).2 (List.mem_cons_self ..)) with e2 | e2
          · exact e2.symm
          · have := ltS_asym (head h y e2); rw [head h2 x e] at this; cases this
      subst exy
      rw [ih (tail h) (tail h2) fun p => ⟨fun hp => ?_, fun hp => ?_⟩]
      · rcases List.mem_cons.1 ((hmem p).1 (List.mem_cons_of_mem _ hp)) with e | e
        · exact absurd (ltS_ne (head h p hp)) (by rw [e]; simp)
        · exact e
      · rcases List.mem_cons.1 ((hmem p).2 (List.mem_cons_of_mem _ hp)) with e | e
        · exact absurd (ltS_ne (head h2 p hp)) (by rw [e]; simp)
        · exact e
theorem insM_length {L : List Mv} {m : Mv} {i : Nat} (p : PlcM L m.ts i) (hn : hasM L m.ts = false) : (insM L m).length = L.length + 1 := by
  rw [p.ins hn]
  have := p.le
  simp
  omega
theorem take_insM {L : List Mv} {m : Mv} {i k : Nat} (p : PlcM L m.ts i) (hn : hasM L m.ts = false) (hk : k ≤ i) : (insM L m).take k = L.take k := by
  rw [p.ins hn, List.take_append_of_le_length (by have := p.le; simp; omega), List.take_take, Nat.min_eq_left hk]

/-- A row of the program's list: the move, whether it counts, where its node stood. -/
structure Rw where
  m : Mv
  cn : Bool
  fr : Pl
deriving Inhabited
abbrev mvs (R : List Rw) : List Mv := R.map (·.m)
/-- The list: it rises, and of those that are done it is known what they did. -/
structure LsD (R : List Rw) (k : Nat) : Prop where
  srt : SrtM (mvs R)
  le : k ≤ R.length
  ok : ∀ i (h : i < R.length), i < k → R[i].cn = cntB (doneT ((mvs R).take i)) R[i].m ∧ (R[i].cn = true → R[i].fr = (whT (doneT ((mvs R).take i)) R[i].m.nd).getD zeroPl)
  nz : ∀ x ∈ R, x.m.nd ≠ (0, 0)
theorem LsD.nil : LsD [] 0 := ⟨List.Pairwise.nil, Nat.le_refl _, fun i h => by simp at h, fun x h => by simp at h⟩
/-- Less of it done. -/
theorem LsD.less {R : List Rw} {k : Nat} (h : LsD R k) {j : Nat} (hj : j ≤ k) : LsD R j := ⟨h.srt, Nat.le_trans hj h.le, fun i hi hij => h.ok i hi (by omega), h.nz⟩
theorem mvs_get {R : List Rw} {i : Nat} (h : i < R.length) : (mvs R)[i]'(by simpa using h) = R[i].m := by simp [mvs]
theorem LsD.done {R : List Rw} {k : Nat} (h : k < R.length) : doneT ((mvs R).take (k + 1)) = doM (doneT ((mvs R).take k)) R[k].m := by
  rw [doneT_next (mvs R) k (by simpa using h), mvs_get h]
theorem plOf_nz {m : Mv} (h : m.nd ≠ (0, 0)) : plOf m ≠ zeroPl := fun e => h (by have := congrArg Pl.nd e; exact this)
/-- One is taken back. -/
theorem LsD.back {R : List Rw} {k : Nat} (h : LsD R (k + 1)) (hk : k < R.length) : doneT ((mvs R).take k) = if R[k].cn then (if R[k].fr = zeroPl then delT (doneT ((mvs R).take (k + 1))) R[k].m.nd else setT (doneT ((mvs R).take (k + 1))) R[k].fr) else doneT ((mvs R).take (k + 1)) := by
  obtain ⟨h1, h2⟩ := h.ok k hk (Nat.lt_succ_self _)
  have hs := (goodT ((mvs R).take k)).srt
  rw [LsD.done hk]
  unfold doM
  rw [← h1]
  cases hc : R[k].cn with
  | false => simp
  | true =>
    rw [if_pos rfl, if_pos rfl]
    have h3 := h2 hc
    cases hw : whT (doneT ((mvs R).take k)) R[k].m.nd with
    | none =>
      rw [hw] at h3
      rw [if_pos (show R[k].fr = zeroPl from h3)]
      exact (del_back hs (p := plOf R[k].m) hw).symm
    | some q =>
      rw [hw] at h3
      have hq : R[k].fr = q := h3
      have hqn : q ≠ zeroPl := fun e => by
        have h4 := (whT_some hw).2
        rw [e] at h4
        exact h.nz R[k] (List.getElem_mem hk) h4.symm
      rw [hq, if_neg hqn]
      exact (set_back hs (p := plOf R[k].m) hw).symm
theorem LsD.fr_nd {R : List Rw} {k : Nat} (h : LsD R (k + 1)) (hk : k < R.length) (hc : R[k].cn = true) (hz : R[k].fr ≠ zeroPl) : R[k].fr.nd = R[k].m.nd := by
  obtain ⟨h1, h2⟩ := h.ok k hk (Nat.lt_succ_self _)
  have h3 := h2 hc
  cases hw : whT (doneT ((mvs R).take k)) R[k].m.nd with
  | none => rw [hw] at h3; exact absurd h3 hz
  | some q => rw [hw] at h3; rw [h3]; exact (whT_some hw).2
/-- One is done. -/
theorem mvs_set {R : List Rw} {k : Nat} (x : Rw) (hk : k < R.length) (e : x.m = R[k].m) : mvs (R.set k x) = mvs R := by
  unfold mvs
  rw [List.map_set, e]
  apply List.ext_getElem (by simp)
  intro i h1 h2
  rw [List.getElem_set]
  split
  · rename_i h3; subst h3; simp
  · rfl
theorem LsD.redo {R : List Rw} {k : Nat} (h : LsD R k) (hk : k < R.length) {x : Rw} (e : x.m = R[k].m) (hc : x.cn = cntB (doneT ((mvs R).take k)) R[k].m) (hf : x.cn = true → x.fr = (whT (doneT ((mvs R).take k)) R[k].m.nd).getD zeroPl) : LsD (R.set k x) (k + 1) := by
  refine ⟨by rw [mvs_set x hk e]; exact h.srt, by simp; omega, fun i hi hik => ?_, fun y hy => ?_⟩
  · rw [mvs_set x hk e]
    by_cases hik2 : i = k
    · subst hik2
      rw [List.getElem_set_self, e]
      exact ⟨hc, hf⟩
    · rw [List.getElem_set_ne (fun e => hik2 e.symm)]
      exact h.ok i (by simpa using hi) (by omega)
  · rcases List.mem_or_eq_of_mem_set hy with hy | rfl
    · exact h.nz y hy
    · rw [e]; exact h.nz _ (List.getElem_mem hk)
/-- One that is put in at a place up to which all is done. -/
theorem LsD.ins {R : List Rw} {k : Nat} (h : LsD R k) {m : Mv} {i : Nat} (p : PlcM (mvs R) m.ts i) (hn : hasM (mvs R) m.ts = false) (hk : k ≤ i) (hz : m.nd ≠ (0, 0)) {x : Rw} (hx : x.m = m) : LsD (R.take i ++ x :: R.drop i) k ∧ mvs (R.take i ++ x :: R.drop i) = insM (mvs R) m := by
  have hil : i ≤ R.length := by have := p.le; simpa using this
  have e1 : mvs (R.take i ++ x :: R.drop i) = insM (mvs R) m := by rw [p.ins hn]; simp [mvs, hx]
  refine ⟨⟨by rw [e1]; exact insM_srt h.srt m, by simp; omega, fun j hj hjk => ?_, fun y hy => ?_⟩, e1⟩
  · rw [e1, take_insM p hn (by omega)]
    have e2 : (R.take i ++ x :: R.drop i)[j] = R[j]'(by omega) := by
      rw [List.getElem_append_left (by simp; omega), List.getElem_take]
    rw [e2]
    exact h.ok j (by omega) hjk
  · rcases List.mem_append.1 hy with hy | hy
    · exact h.nz y (List.mem_of_mem_take hy)
    · rcases List.mem_cons.1 hy with rfl | hy
      · rw [hx]; exact hz
      · exact h.nz y (List.mem_of_mem_drop hy)
/-- One that is taken out at such a place. -/
theorem LsD.del {R : List Rw} {k : Nat} (h : LsD R k) {t : St} {i : Nat} (p : PlcM (mvs R) t i) (hi : i < R.length) (e : R[i].m.ts = t) (hk : k ≤ i) : LsD (R.take i ++ R.drop (i + 1)) k ∧ mvs (R.take i ++ R.drop (i + 1)) = delM (mvs R) t := by
  have e1 : mvs (R.take i ++ R.drop (i + 1)) = delM (mvs R) t := by rw [p.del h.srt (by simpa using hi) (by rw [mvs_get hi]; exact e)]; simp [mvs]
  refine ⟨⟨by rw [e1]; exact delM_srt h.srt t, by simp; omega, fun j hj hjk => ?_, fun y hy => ?_⟩, e1⟩
  · have e3 : (mvs (R.take i ++ R.drop (i + 1))).take j = (mvs R).take j := by
      rw [e1, p.del h.srt (by simpa using hi) (by rw [mvs_get hi]; exact e), List.take_append_of_le_length (by simp; omega), List.take_take, Nat.min_eq_left (by omega)]
    have e2 : (R.take i ++ R.drop (i + 1))[j] = R[j]'(by omega) := by
      rw [List.getElem_append_left (by simp; omega), List.getElem_take]
    rw [e3, e2]
    exact h.ok j (by omega) hjk
  · rcases List.mem_append.1 hy with hy | hy
    · exact h.nz y (List.mem_of_mem_take hy)
    · exact h.nz y (List.mem_of_mem_drop hy)

end Go.Proofs.Ytljepindfdhbbaa
