/- Moves as data: the tree that they make, done one behind the other; who is above whom; what a move that is taken back leaves. -/
import Derived.ProofKit
namespace Go.Proofs.Ytljepindfdhbbaa
set_option linter.unusedVariables false
set_option linter.unusedSimpArgs false

/-- A stamp. -/
abbrev St := Int × Int
/-- Is a stamp ahead of another one? -/
def ltS (a b : St) : Bool := decide (a.1 < b.1 ∨ a.1 = b.1 ∧ a.2 < b.2)
theorem ltS_iff (a b : St) : ltS a b = true ↔ a.1 < b.1 ∨ a.1 = b.1 ∧ a.2 < b.2 := by unfold ltS; simp
theorem ltS_no (a b : St) : ltS a b = false ↔ ¬ (a.1 < b.1 ∨ a.1 = b.1 ∧ a.2 < b.2) := by unfold ltS; simp
theorem ltS_trans {a b c : St} (h : ltS a b = true) (h2 : ltS b c = true) : ltS a c = true := by rw [ltS_iff] at *; omega
theorem ltS_irr (a : St) : ltS a a = false := by rw [ltS_no]; omega
theorem ltS_asym {a b : St} (h : ltS a b = true) : ltS b a = false := by rw [ltS_iff] at h; rw [ltS_no]; omega
theorem ltS_ne {a b : St} (h : ltS a b = true) : a ≠ b := fun e => by rw [e, ltS_irr] at h; cases h
theorem ltS_or {a b : St} (h : a ≠ b) : ltS a b = true ∨ ltS b a = true := by
  have : ¬ (a.1 = b.1 ∧ a.2 = b.2) := fun e => h (Prod.ext e.1 e.2)
  rw [ltS_iff, ltS_iff]; omega

/-- Where a node stands. -/
structure Pl where
  nd : St
  pr : St
  sl : St
deriving DecidableEq, Inhabited
def zeroPl : Pl := ⟨(0, 0), (0, 0), (0, 0)⟩
/-- A move. -/
structure Mv where
  ts : St
  nd : St
  pr : St
deriving DecidableEq, Inhabited

/-- The nodes rise. -/
def SrtT (T : List Pl) : Prop := T.Pairwise fun x y => ltS x.nd y.nd = true
def whT (T : List Pl) (n : St) : Option Pl := T.find? fun p => decide (p.nd = n)
theorem whT_some {T : List Pl} {n : St} {p : Pl} (h : whT T n = some p) : p ∈ T ∧ p.nd = n := ⟨List.mem_of_find?_eq_some h, by simpa using List.find?_some h⟩
theorem whT_none {T : List Pl} {n : St} : whT T n = none ↔ ∀ p ∈ T, p.nd ≠ n := by unfold whT; rw [List.find?_eq_none]; simp
theorem SrtT.tail {x : Pl} {T : List Pl} (h : SrtT (x :: T)) : SrtT T := (List.pairwise_cons.1 h).2
theorem SrtT.head {x : Pl} {T : List Pl} (h : SrtT (x :: T)) : ∀ y ∈ T, ltS x.nd y.nd = true := (List.pairwise_cons.1 h).1
theorem SrtT.uniq {T : List Pl} (h : SrtT T) {x y : Pl} (hx : x ∈ T) (hy : y ∈ T) (e : x.nd = y.nd) : x = y := by
  induction T with
  | nil => cases hx
  | cons z t ih =>
    rcases List.mem_cons.1 hx with ex | hx <;> rcases List.mem_cons.1 hy with ey | hy
    · rw [ex, ey]
    · have := ltS_ne (h.head y hy); rw [ex] at e; exact absurd e this
    · have := ltS_ne (h.head x hx); rw [ey] at e; exact absurd e.symm this
    · exact ih h.tail hx hy
theorem whT_mem {T : List Pl} (h : SrtT T) {p : Pl} (hp : p ∈ T) : whT T p.nd = some p := by
  cases hw : whT T p.nd with
  | none => exact absurd rfl (whT_none.1 hw p hp)
  | some q => have := whT_some hw; rw [h.uniq this.1 hp this.2]
theorem SrtT.nodup {T : List Pl} (h : SrtT T) : (T.map (·.nd)).Nodup := by
  rw [List.Nodup, List.pairwise_map]
  exact h.imp fun h => ltS_ne h
/-- Two that rise, with the same at each node, are the same. -/
theorem SrtT.ext {T U : List Pl} (h : SrtT T) (h2 : SrtT U) (e : ∀ n, whT T n = whT U n) : T = U := by
  have hmem : ∀ p, p ∈ T ↔ p ∈ U := fun p => ⟨fun hp => by have := e p.nd; rw [whT_mem h hp] at this; exact (whT_some this.symm).1, fun hp => by have := e p.nd; rw [whT_mem h2 hp] at this; exact (whT_some this).1⟩
  clear e
  induction T generalizing U with
  | nil =>
    cases U with
    | nil => rfl
    | cons y u => exact absurd ((hmem y).2 (List.mem_cons_self ..)) (by simp)
  | cons x t ih =>
    cases U with
    | nil => exact absurd ((hmem x).1 (List.mem_cons_self ..)) (by simp)
    | cons y u =>
      have exy : x = y := by
        rcases List.mem_cons.1 ((hmem x).1 (List.mem_cons_self ..)) with e | e
        · exact e
        · rcases List.mem_cons.1 ((hmem y).2 (List.mem_cons_self ..)) with e2 | e2
          · exact e2.symm
          · have := ltS_asym (h.head y e2); rw [h2.head x e] at this; cases this
      subst exy
      rw [ih h.tail h2.tail fun p => ⟨fun hp => ?_, fun hp => ?_⟩]
      · rcases List.mem_cons.1 ((hmem p).1 (List.mem_cons_of_mem _ hp)) with e | e
        · exact absurd (ltS_ne (h.head p hp)) (by rw [e]; simp)
        · exact e
      · rcases List.mem_cons.1 ((hmem p).2 (List.mem_cons_of_mem _ hp)) with e | e
        · exact absurd (ltS_ne (h2.head p hp)) (by rw [e]; simp)
        · exact e

/-- A node stands at a place, and nowhere else. -/
def setT (T : List Pl) (p : Pl) : List Pl := (T.filter fun x => ltS x.nd p.nd) ++ p :: T.filter fun x => ltS p.nd x.nd
def delT (T : List Pl) (n : St) : List Pl := T.filter fun x => decide (x.nd ≠ n)
theorem setT_srt {T : List Pl} (h : SrtT T) (p : Pl) : SrtT (setT T p) := by
  unfold setT SrtT
  rw [List.pairwise_append]
  refine ⟨List.Pairwise.sublist List.filter_sublist h, List.pairwise_cons.2 ⟨fun y hy => by simpa using (List.mem_filter.1 hy).2, List.Pairwise.sublist List.filter_sublist h⟩, fun x hx y hy => ?_⟩
  have h1 := (List.mem_filter.1 hx).2
  rcases List.mem_cons.1 hy with rfl | hy
  · exact h1
  · exact ltS_trans h1 (List.mem_filter.1 hy).2
theorem delT_srt {T : List Pl} (h : SrtT T) (n : St) : SrtT (delT T n) := List.Pairwise.sublist List.filter_sublist h
theorem mem_setT {T : List Pl} {p q : Pl} : q ∈ setT T p ↔ q = p ∨ (q ∈ T ∧ q.nd ≠ p.nd) := by
  unfold setT
  rw [List.mem_append, List.mem_cons, List.mem_filter, List.mem_filter]
  constructor
  · rintro (⟨h1, h2⟩ | h | ⟨h1, h2⟩)
    · exact .inr ⟨h1, ltS_ne h2⟩
    · exact .inl h
    · exact .inr ⟨h1, fun e => ltS_ne h2 e.symm⟩
  · rintro (h | ⟨h1, h2⟩)
    · exact .inr (.inl h)
    · rcases ltS_or h2 with h3 | h3
      · exact .inl ⟨h1, h3⟩
      · exact .inr (.inr ⟨h1, h3⟩)
theorem mem_delT {T : List Pl} {n : St} {q : Pl} : q ∈ delT T n ↔ q ∈ T ∧ q.nd ≠ n := by unfold delT; rw [List.mem_filter]; simp
theorem whT_eq {T : List Pl} (h : SrtT T) {n : St} {o : Option Pl} (h1 : ∀ p, o = some p → p ∈ T ∧ p.nd = n) (h2 : o = none → ∀ p ∈ T, p.nd ≠ n) : whT T n = o := by
  cases o with
  | none => exact whT_none.2 (h2 rfl)
  | some p => obtain ⟨a, b⟩ := h1 p rfl; rw [← b]; exact whT_mem h a
theorem whT_set_same {T : List Pl} (h : SrtT T) (p : Pl) : whT (setT T p) p.nd = some p := whT_mem (setT_srt h p) (mem_setT.2 (.inl rfl))
theorem whT_set_other {T : List Pl} (h : SrtT T) {p : Pl} {n : St} (hn : n ≠ p.nd) : whT (setT T p) n = whT T n := by
  refine whT_eq (setT_srt h p) (fun q hq => ?_) fun hq q hm e => ?_
  · obtain ⟨a, b⟩ := whT_some hq
    exact ⟨mem_setT.2 (.inr ⟨a, by rw [b]; exact hn⟩), b⟩
  · rcases mem_setT.1 hm with rfl | ⟨a, b⟩
    · exact hn e.symm
    · exact whT_none.1 hq q a e
theorem whT_del_same {T : List Pl} (n : St) : whT (delT T n) n = none := whT_none.2 fun p hp => (mem_delT.1 hp).2
theorem whT_del_other {T : List Pl} (h : SrtT T) {n m : St} (hn : n ≠ m) : whT (delT T m) n = whT T n := by
  refine whT_eq (delT_srt h m) (fun q hq => ?_) fun hq q hm e => ?_
  · obtain ⟨a, b⟩ := whT_some hq
    exact ⟨mem_delT.2 ⟨a, by rw [b]; exact hn⟩, b⟩
  · exact whT_none.1 hq q (mem_delT.1 hm).1 e
/-- What was taken back is as it was. -/
theorem set_back {T : List Pl} (h : SrtT T) {p q : Pl} (hq : whT T p.nd = some q) : setT (setT T p) q = T := by
  obtain ⟨hm, he⟩ := whT_some hq
  refine SrtT.ext (setT_srt (setT_srt h p) q) h fun n => ?_
  by_cases e : n = q.nd
  · rw [e, whT_set_same (setT_srt h p), whT_mem h hm]
  · rw [whT_set_other (setT_srt h p) e, whT_set_other h (by rw [← he]; exact e)]
theorem del_back {T : List Pl} (h : SrtT T) {p : Pl} (hq : whT T p.nd = none) : delT (setT T p) p.nd = T := by
  refine SrtT.ext (delT_srt (setT_srt h p) _) h fun n => ?_
  by_cases e : n = p.nd
  · rw [e, whT_del_same, hq]
  · rw [whT_del_other (setT_srt h p) e, whT_set_other h e]

/-- How many stand beneath a node. -/
def kidsN (T : List Pl) (n : St) : Int := ((T.filter fun p => decide (p.pr = n)).length : Int)
theorem kidsN_perm {T U : List Pl} (h : T.Perm U) (n : St) : kidsN T n = kidsN U n := by unfold kidsN; rw [(h.filter _).length_eq]
theorem kidsN_cons (x : Pl) (T : List Pl) (n : St) : kidsN (x :: T) n = (if x.pr = n then 1 else 0) + kidsN T n := by
  unfold kidsN
  by_cases h : x.pr = n <;> simp [h]
  omega
theorem set_perm {T : List Pl} (p : Pl) : (setT T p).Perm (p :: delT T p.nd) := by
  unfold setT delT
  refine List.perm_middle.trans (List.Perm.cons p ?_)
  induction T with
  | nil => simp
  | cons x t ih =>
    by_cases e : x.nd = p.nd
    · have e1 : ltS x.nd p.nd = false := by rw [e]; exact ltS_irr _
      have e2 : ltS p.nd x.nd = false := by rw [e]; exact ltS_irr _
      simp only [List.filter_cons, e, ltS_irr, Bool.false_eq_true, if_false, ne_eq, not_true_eq_false, decide_false]
      exact ih
    · rcases ltS_or e with h | h
      · have h2 := ltS_asym h
        simpa [h, h2, e] using ih
      · have h2 := ltS_asym h
        simp only [List.filter_cons, h, h2, if_true, Bool.false_eq_true, if_false, ne_eq, e, not_false_eq_true, decide_true]
        exact List.perm_middle.trans (List.Perm.cons x ih)
theorem del_none {T : List Pl} {n : St} (h : whT T n = none) : delT T n = T := List.filter_eq_self.2 fun p hp => by simpa using whT_none.1 h p hp
theorem del_some {T : List Pl} (hs : SrtT T) {n : St} {q : Pl} (h : whT T n = some q) : T.Perm (q :: delT T n) := by
  obtain ⟨hm, he⟩ := whT_some h
  induction T with
  | nil => cases hm
  | cons x t ih =>
    unfold delT
    by_cases e : x.nd = n
    · have exq : x = q := hs.uniq (List.mem_cons_self ..) hm (by rw [e, he])
      subst exq
      have : t.filter (fun p => decide (p.nd ≠ n)) = t := List.filter_eq_self.2 fun p hp => by simpa [e] using (ltS_ne (hs.head p hp)).symm
      simp only [List.filter_cons, ne_eq, e, not_true_eq_false, decide_false, Bool.false_eq_true, if_false]
      exact List.Perm.cons x (by rw [show (List.filter (fun p : Pl => decide ¬p.nd = n) t) = t from this])
    · have hq : q ∈ t := by
        rcases List.mem_cons.1 hm with rfl | h
        · exact absurd he e
        · exact h
      have hw : whT t n = some q := by rw [← he]; exact whT_mem hs.tail hq
      have := ih hs.tail hw hq
      simp only [List.filter_cons, ne_eq, e, not_false_eq_true, decide_true, if_true]
      exact (List.Perm.cons x this).trans (List.Perm.swap q x _)
theorem kidsN_del {T : List Pl} (hs : SrtT T) (n m : St) : kidsN (delT T n) m = kidsN T m - (match whT T n with | some q => if q.pr = m then 1 else 0 | none => 0) := by
  cases h : whT T n with
  | none => rw [del_none h]; simp
  | some q => rw [kidsN_perm (del_some hs h), kidsN_cons]; simp only []; omega
theorem kidsN_set {T : List Pl} (hs : SrtT T) (p : Pl) (m : St) : kidsN (setT T p) m = kidsN T m - (match whT T p.nd with | some q => if q.pr = m then 1 else 0 | none => 0) + (if p.pr = m then 1 else 0) := by
  rw [kidsN_perm (set_perm p), kidsN_cons, kidsN_del hs]
  omega
theorem kidsN_le (T : List Pl) (n : St) : kidsN T n ≤ (T.length : Int) := by
  unfold kidsN
  have := List.length_filter_le (fun p => decide (p.pr = n)) T
  omega
theorem kidsN_nn (T : List Pl) (n : St) : 0 ≤ kidsN T n := by unfold kidsN; omega
theorem kidsN_zero {T : List Pl} {n : St} (h : kidsN T n = 0) : ∀ p ∈ T, p.pr ≠ n := fun p hp e => by
  unfold kidsN at h
  have h1 : (T.filter fun p => decide (p.pr = n)) = [] := List.eq_nil_of_length_eq_zero (by omega)
  have h2 : p ∈ T.filter fun p => decide (p.pr = n) := List.mem_filter.2 ⟨hp, by simpa using e⟩
  rw [h1] at h2
  cases h2
theorem setT_length {T : List Pl} (h : SrtT T) (p : Pl) : (setT T p).length ≤ T.length + 1 := by
  rw [(set_perm p).length_eq, List.length_cons]
  have := List.length_filter_le (fun x : Pl => decide (x.nd ≠ p.nd)) T
  unfold delT
  omega

/-- Who is above a node, the nearest first. -/
inductive Up (T : List Pl) : St → List St → Prop
  | top {n : St} : whT T n = none → Up T n []
  | step {n : St} {p : Pl} {l : List St} : whT T n = some p → Up T p.pr l → Up T n (p.pr :: l)
theorem Up.uniq {T : List Pl} {n : St} {l : List St} (h : Up T n l) : ∀ {m : List St}, Up T n m → l = m := by
  induction h with
  | top h1 =>
    intro m h2
    cases h2 with
    | top => rfl
    | step h3 => rw [h1] at h3; cases h3
  | step h1 h2 ih =>
    intro m h3
    cases h3 with
    | top h4 => rw [h1] at h4; cases h4
    | step h4 h5 => rw [h1] at h4; cases h4; rw [ih h5]
theorem Up.at {T : List Pl} {n : St} {l : List St} (h : Up T n l) : ∀ x ∈ l, ∃ m, Up T x m ∧ m.length < l.length := by
  induction h with
  | top => intro x hx; cases hx
  | step h1 h2 ih =>
    intro x hx
    rcases List.mem_cons.1 hx with rfl | hx
    · exact ⟨_, h2, by simp⟩
    · obtain ⟨m, a, b⟩ := ih x hx
      exact ⟨m, a, by simp; omega⟩
theorem Up.self {T : List Pl} {n : St} {l : List St} (h : Up T n l) : n ∉ l := fun hn => by
  obtain ⟨m, a, b⟩ := h.at n hn
  rw [h.uniq a] at b
  omega
theorem Up.nodup {T : List Pl} {n : St} {l : List St} (h : Up T n l) : l.Nodup := by
  induction h with
  | top => exact List.nodup_nil
  | step h1 h2 ih => exact List.nodup_cons.2 ⟨h2.self, ih⟩
theorem Up.beneath {T : List Pl} {n : St} {l : List St} (h : Up T n l) : ∀ x ∈ l, ∃ p ∈ T, p.pr = x := by
  induction h with
  | top => intro x hx; cases hx
  | step h1 h2 ih =>
    intro x hx
    rcases List.mem_cons.1 hx with rfl | hx
    · exact ⟨_, (whT_some h1).1, rfl⟩
    · exact ih x hx
theorem nodup_le {α : Type} [DecidableEq α] : ∀ {l m : List α}, l.Nodup → (∀ x ∈ l, x ∈ m) → l.length ≤ m.length
  | [], _, _, _ => Nat.zero_le _
  | x :: l, m, hn, hm => by
    have h1 := List.nodup_cons.1 hn
    have h2 : l.length ≤ (m.erase x).length := nodup_le h1.2 fun y hy => (List.mem_erase_of_ne (fun e : y = x => h1.1 (by rw [← e]; exact hy))).2 (hm y (List.mem_cons_of_mem _ hy))
    have h3 := List.length_erase_of_mem (hm x (List.mem_cons_self ..))
    have h4 : 0 < m.length := List.length_pos_of_mem (hm x (List.mem_cons_self ..))
    simp only [List.length_cons]
    omega
theorem Up.stands {T : List Pl} {n : St} {l : List St} (h : Up T n l) : ∀ x ∈ (n :: l).dropLast, x ∈ T.map (·.nd) := by
  induction h with
  | top => intro x hx; simp at hx
  | @step n p l h1 h2 ih =>
    intro x hx
    rw [List.dropLast_cons_of_ne_nil (by simp)] at hx
    rcases List.mem_cons.1 hx with rfl | hx
    · obtain ⟨a, b⟩ := whT_some h1
      exact List.mem_map.2 ⟨p, a, b⟩
    · exact ih x hx
theorem Up.short {T : List Pl} {n : St} {l : List St} (h : Up T n l) : l.length ≤ T.length := by
  have h1 : (n :: l).Nodup := List.nodup_cons.2 ⟨h.self, h.nodup⟩
  have h2 := nodup_le (List.Nodup.sublist (List.dropLast_sublist _) h1) h.stands
  simpa using h2
/-- Nobody is above itself. -/
def Acy (T : List Pl) : Prop := ∀ n, ∃ l, Up T n l
theorem Acy.nil : Acy [] := fun n => ⟨[], .top rfl⟩
theorem Up.other {T : List Pl} (hs : SrtT T) {p : Pl} {n : St} {l : List St} (h : Up T n l) (h1 : p.nd ≠ n) (h2 : p.nd ∉ l) : Up (setT T p) n l := by
  induction h with
  | top h3 => exact .top (by rw [whT_set_other hs (fun e => h1 e.symm)]; exact h3)
  | step h3 h4 ih => exact .step (by rw [whT_set_other hs (fun e => h1 e.symm)]; exact h3) (ih (fun e => h2 (by rw [e]; exact List.mem_cons_self ..)) (fun e => h2 (List.mem_cons_of_mem _ e)))
theorem Acy.set {T : List Pl} (hs : SrtT T) (ha : Acy T) {p : Pl} (h1 : p.nd ≠ p.pr) {l : List St} (hl : Up T p.pr l) (h2 : p.nd ∉ l) : Acy (setT T p) := by
  have hp : Up (setT T p) p.nd (p.pr :: l) := .step (whT_set_same hs p) (hl.other hs h1 h2)
  intro n
  obtain ⟨m, hm⟩ := ha n
  induction hm with
  | @top n h3 =>
    by_cases e : n = p.nd
    · rw [e]; exact ⟨_, hp⟩
    · exact ⟨[], .top (by rw [whT_set_other hs e]; exact h3)⟩
  | @step n q m h3 h4 ih =>
    by_cases e : n = p.nd
    · rw [e]; exact ⟨_, hp⟩
    · obtain ⟨m', h5⟩ := ih
      exact ⟨_, .step (by rw [whT_set_other hs e]; exact h3) h5⟩
/-- .. as the document goes up. -/
def upF (T : List Pl) : Nat → St → List St
  | 0, _ => []
  | k + 1, n => match whT T n with | none => [] | some p => p.pr :: upF T k p.pr
theorem upF_of {T : List Pl} {n : St} {l : List St} (h : Up T n l) : ∀ k, l.length < k → upF T k n = l := by
  induction h with
  | top h1 =>
    intro k hk
    match k with
    | k + 1 => simp [upF, h1]
  | step h1 h2 ih =>
    intro k hk
    match k with
    | k + 1 => simp only [upF, h1]; rw [ih k (by simp at hk; omega)]
def upL (T : List Pl) (n : St) : List St := upF T (T.length + 1) n
theorem upL_of {T : List Pl} {n : St} {l : List St} (h : Up T n l) : upL T n = l := upF_of h _ (by have := h.short; omega)
theorem Acy.up {T : List Pl} (h : Acy T) (n : St) : Up T n (upL T n) := by
  obtain ⟨l, hl⟩ := h n
  rw [upL_of hl]
  exact hl

/-- Does a move count? -/
def cntB (T : List Pl) (m : Mv) : Bool := decide (m.nd ≠ m.pr) && !decide (m.nd ∈ upL T m.pr)
def plOf (m : Mv) : Pl := ⟨m.nd, m.pr, m.ts⟩
def doM (T : List Pl) (m : Mv) : List Pl := if cntB T m then setT T (plOf m) else T
def doneT (L : List Mv) : List Pl := L.foldl doM []
theorem doneT_snoc (L : List Mv) (m : Mv) : doneT (L ++ [m]) = doM (doneT L) m := by simp [doneT]
theorem doneT_next (L : List Mv) (k : Nat) (h : k < L.length) : doneT (L.take (k + 1)) = doM (doneT (L.take k)) L[k] := by
  rw [List.take_succ_eq_append_getElem h, doneT_snoc]
structure GoodT (T : List Pl) : Prop where
  srt : SrtT T
  acy : Acy T
theorem GoodT.doM {T : List Pl} (h : GoodT T) (m : Mv) : GoodT (doM T m) := by
  unfold Go.Proofs.Ytljepindfdhbbaa.doM
  split
  · rename_i hc
    unfold cntB at hc
    simp only [Bool.and_eq_true, decide_eq_true_eq, Bool.not_eq_true', decide_eq_false_iff_not] at hc
    exact ⟨setT_srt h.srt _, Acy.set h.srt h.acy (p := plOf m) hc.1 (h.acy.up _) hc.2⟩
  · exact h
theorem GoodT.nil : GoodT [] := ⟨List.Pairwise.nil, Acy.nil⟩
theorem goodT_fold : ∀ (L : List Mv) {T : List Pl}, GoodT T → GoodT (L.foldl Go.Proofs.Ytljepindfdhbbaa.doM T)
  | [], _, h => h
  | m :: L, _, h => goodT_fold L (h.doM m)
theorem goodT (L : List Mv) : GoodT (doneT L) := goodT_fold L GoodT.nil
theorem doneT_length (L : List Mv) : (doneT L).length ≤ L.length := by
  have : ∀ k, k ≤ L.length → (doneT (L.take k)).length ≤ k := by
    intro k
    induction k with
    | zero => intro _; simp [doneT]
    | succ k ih =>
      intro hk
      rw [doneT_next L k (by omega)]
      have := ih (by omega)
      unfold doM
      split
      · have := setT_length (goodT (L.take k)).srt (plOf L[k]); omega
      · omega
  have h := this L.length (Nat.le_refl _)
  rwa [List.take_length] at h

end Go.Proofs.Ytljepindfdhbbaa
