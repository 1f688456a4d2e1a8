/- Rows of slots as data: who stands under whom, the row's order, who stands just ahead of whom. -/
import Derived.Test.YtfgkdbidgbpobaaPlainSt
namespace Go.Proofs.Ytfgkdbidgbpobaa
set_option linter.unusedVariables false
set_option linter.unusedSimpArgs false

theorem insS_old {l : List St} {t : St} (h : SrtS l) (hm : t ∈ l) : insS l t = l := by
  refine SrtS.ext (insS_srt h t) h fun p => ?_
  unfold insS
  rw [List.mem_append, List.mem_cons, List.mem_filter, List.mem_filter]
  constructor
  · rintro (⟨h1, h2⟩ | h | ⟨h1, h2⟩)
    · exact h1
    · exact h ▸ hm
    · exact h1
  · intro hp
    by_cases e : p = t
    · exact .inr (.inl e)
    · rcases ltS_or e with h3 | h3
      · exact .inl ⟨hp, h3⟩
      · exact .inr (.inr ⟨hp, h3⟩)
theorem mem_insS' {l : List St} {t q : St} : q ∈ insS l t ↔ q = t ∨ q ∈ l := by
  unfold insS
  rw [List.mem_append, List.mem_cons, List.mem_filter, List.mem_filter]
  constructor
  · rintro (⟨h1, h2⟩ | h | ⟨h1, h2⟩)
    · exact .inr h1
    · exact .inl h
    · exact .inr h1
  · rintro (h | h1)
    · exact .inr (.inl h)
    · by_cases e : q = t
      · exact .inr (.inl e)
      · rcases ltS_or e with h3 | h3
        · exact .inl ⟨h1, h3⟩
        · exact .inr (.inr ⟨h1, h3⟩)
theorem mem_delS {l : List St} {t q : St} : q ∈ delS l t ↔ q ∈ l ∧ q ≠ t := by unfold delS; rw [List.mem_filter]; simp
theorem SrtS.nodup {l : List St} (h : SrtS l) : l.Nodup := h.imp fun h => ltS_ne h
/-- Any stamps, rising. -/
def srtL (l : List St) : List St := l.foldr (fun t k => insS k t) []
theorem srtL_srt : ∀ l : List St, SrtS (srtL l)
  | [] => List.Pairwise.nil
  | t :: l => insS_srt (srtL_srt l) t
theorem mem_srtL {q : St} : ∀ {l : List St}, q ∈ srtL l ↔ q ∈ l
  | [] => by simp [srtL]
  | t :: l => by
    show q ∈ insS (srtL l) t ↔ _
    rw [mem_insS', mem_srtL, List.mem_cons]
theorem srtL_eq {l k : List St} (h : SrtS k) (hm : ∀ q, q ∈ l ↔ q ∈ k) : srtL l = k := SrtS.ext (srtL_srt l) h fun q => mem_srtL.trans (hm q)
theorem srtL_ext {l k : List St} (hm : ∀ q, q ∈ l ↔ q ∈ k) : srtL l = srtL k := srtL_eq (srtL_srt k) fun q => (hm q).trans mem_srtL.symm

/-- A slot: its stamp, and the one behind which it was put. -/
structure Sl where
  ts : St
  af : St
deriving DecidableEq, Inhabited
abbrev z0 : St := (0, 0)
def hasL (L : List Sl) (a : St) : Bool := L.any fun s => decide (s.ts = a)
theorem hasL_iff {L : List Sl} {a : St} : hasL L a = true ↔ ∃ s ∈ L, s.ts = a := by unfold hasL; rw [List.any_eq_true]; simp
theorem hasL_no {L : List Sl} {a : St} : hasL L a = false ↔ ∀ s ∈ L, s.ts ≠ a := by unfold hasL; rw [List.any_eq_false]; simp
theorem hasL_snoc (L : List Sl) (s : Sl) (a : St) : hasL (L ++ [s]) a = (hasL L a || decide (s.ts = a)) := by simp [hasL]
/-- May a slot be? -/
def okS (s : Sl) : Bool := decide (1 ≤ s.ts.1 ∧ s.ts.1 ≤ 1099511627776 ∧ 0 ≤ s.ts.2 ∧ s.ts.2 < 64) && (decide (s.af = z0) || decide (1 ≤ s.af.1 ∧ s.af.1 ≤ 1099511627776 ∧ 0 ≤ s.af.2 ∧ s.af.2 < 64) && ltS s.af s.ts)
theorem okS_pos {s : Sl} (h : okS s = true) : ltS z0 s.ts = true := by
  unfold okS at h
  simp only [Bool.and_eq_true, decide_eq_true_eq] at h
  rw [ltS_iff]
  have := h.1
  simp only [z0]
  omega
theorem okS_af {s : Sl} (h : okS s = true) : s.af = z0 ∨ ltS s.af s.ts = true := by
  unfold okS at h
  simp only [Bool.and_eq_true, decide_eq_true_eq, Bool.or_eq_true] at h
  exact h.2.imp id fun h => h.2
theorem okS_ne {s : Sl} (h : okS s = true) : s.af ≠ s.ts := fun e => by
  rcases okS_af h with h1 | h1
  · have := okS_pos h; rw [← e, h1, ltS_irr] at this; cases this
  · rw [e, ltS_irr] at h1; cases h1
/-- Right slots, each stamp once. -/
structure GoodL (L : List Sl) : Prop where
  nod : (L.map (·.ts)).Nodup
  ok : ∀ s ∈ L, okS s = true
theorem GoodL.nil : GoodL [] := ⟨List.nodup_nil, fun s h => by cases h⟩
theorem GoodL.snoc {L : List Sl} (h : GoodL L) {s : Sl} (ho : okS s = true) (hn : hasL L s.ts = false) : GoodL (L ++ [s]) := by
  refine ⟨?_, fun t ht => ?_⟩
  · rw [List.map_append, List.nodup_append]
    refine ⟨h.nod, by simp, fun a ha b hb => ?_⟩
    obtain ⟨x, hx, rfl⟩ := List.mem_map.1 ha
    simp at hb
    rw [hb]
    exact hasL_no.1 hn x hx
  · rcases List.mem_append.1 ht with ht | ht
    · exact h.ok t ht
    · simp at ht; rw [ht]; exact ho
theorem GoodL.zero {L : List Sl} (h : GoodL L) : hasL L z0 = false := hasL_no.2 fun s hs e => by
  have := okS_pos (h.ok s hs)
  rw [e, ltS_irr] at this
  cases this
theorem GoodL.uniq {L : List Sl} (h : GoodL L) {s t : Sl} (hs : s ∈ L) (ht : t ∈ L) (e : s.ts = t.ts) : s = t := by
  have hn := h.nod
  clear h
  induction L with
  | nil => cases hs
  | cons x l ih =>
    rw [List.map_cons, List.nodup_cons] at hn
    rcases List.mem_cons.1 hs with e1 | hs2 <;> rcases List.mem_cons.1 ht with e2 | ht2
    · rw [e1, e2]
    · exact absurd (List.mem_map.2 ⟨t, ht2, by rw [← e, e1]⟩) hn.1
    · exact absurd (List.mem_map.2 ⟨s, hs2, by rw [e, e2]⟩) hn.1
    · exact ih hs2 ht2 hn.2
theorem GoodL.perm {L M : List Sl} (h : GoodL L) (p : L.Perm M) : GoodL M := ⟨(p.map _).nodup_iff.1 h.nod, fun s hs => h.ok s (p.mem_iff.2 hs)⟩
/-- What is told at an Add. -/
def addC (L : List Sl) (s : Sl) : Int := if okS s = false then 2 else if hasL L s.ts = true then 5 else 0
def addL (L : List Sl) (s : Sl) : List Sl := if okS s = true ∧ hasL L s.ts = false then L ++ [s] else L
theorem GoodL.add {L : List Sl} (h : GoodL L) (s : Sl) : GoodL (addL L s) := by
  unfold addL
  split
  · rename_i hc; exact h.snoc hc.1 hc.2
  · exact h
theorem addL_length (L : List Sl) (s : Sl) : (addL L s).length ≤ L.length + 1 := by
  unfold addL
  split <;> simp
/-- The slots that were put behind one; those that stand under the front; those that stand under one. -/
def behL (L : List Sl) (a : St) : List St := srtL ((L.filter fun s => decide (s.af = a)).map (·.ts))
def frL (L : List Sl) : List St := srtL ((L.filter fun s => !hasL L s.af).map (·.ts))
def kidL (L : List Sl) (a : St) : List St := if a = z0 then frL L else behL L a
theorem mem_behL {L : List Sl} {a q : St} : q ∈ behL L a ↔ ∃ s ∈ L, s.af = a ∧ s.ts = q := by
  unfold behL
  rw [mem_srtL, List.mem_map]
  constructor
  · rintro ⟨s, hs, e⟩
    have := List.mem_filter.1 hs
    exact ⟨s, this.1, by simpa using this.2, e⟩
  · rintro ⟨s, hs, e1, e2⟩
    exact ⟨s, List.mem_filter.2 ⟨hs, by simpa using e1⟩, e2⟩
theorem mem_frL {L : List Sl} {q : St} : q ∈ frL L ↔ ∃ s ∈ L, hasL L s.af = false ∧ s.ts = q := by
  unfold frL
  rw [mem_srtL, List.mem_map]
  constructor
  · rintro ⟨s, hs, e⟩
    have := List.mem_filter.1 hs
    exact ⟨s, this.1, by simpa using this.2, e⟩
  · rintro ⟨s, hs, e1, e2⟩
    exact ⟨s, List.mem_filter.2 ⟨hs, by simpa using e1⟩, e2⟩
theorem behL_srt (L : List Sl) (a : St) : SrtS (behL L a) := srtL_srt _
theorem frL_srt (L : List Sl) : SrtS (frL L) := srtL_srt _
theorem kidL_srt (L : List Sl) (a : St) : SrtS (kidL L a) := by unfold kidL; split; exact frL_srt L; exact behL_srt L a
theorem behL_eq {L : List Sl} {a : St} {k : List St} (h : SrtS k) (hm : ∀ q, q ∈ k ↔ ∃ s ∈ L, s.af = a ∧ s.ts = q) : behL L a = k := SrtS.ext (behL_srt L a) h fun q => mem_behL.trans (hm q).symm
theorem frL_eq {L : List Sl} {k : List St} (h : SrtS k) (hm : ∀ q, q ∈ k ↔ ∃ s ∈ L, hasL L s.af = false ∧ s.ts = q) : frL L = k := SrtS.ext (frL_srt L) h fun q => mem_frL.trans (hm q).symm
theorem nodup_mem_le {l m : List St} (h : l.Nodup) (hs : ∀ x ∈ l, x ∈ m) : l.length ≤ m.length := by
  induction l generalizing m with
  | nil => exact Nat.zero_le _
  | cons x l ih =>
    have h1 := List.nodup_cons.1 h
    have hx := hs x (List.mem_cons_self ..)
    have h2 := ih (m := m.erase x) h1.2 fun y hy => (List.mem_erase_of_ne (fun e : y = x => h1.1 (e ▸ hy))).2 (hs y (List.mem_cons_of_mem _ hy))
    have h3 := List.length_erase_of_mem hx
    have h4 : 0 < m.length := List.length_pos_of_mem hx
    simp only [List.length_cons]
    omega
theorem behL_length (L : List Sl) (a : St) : (behL L a).length ≤ L.length := by
  have := nodup_mem_le (behL_srt L a).nodup (m := L.map (·.ts)) fun x hx => by obtain ⟨s, hs, _, e⟩ := mem_behL.1 hx; exact List.mem_map.2 ⟨s, hs, e⟩
  simpa using this
theorem frL_length (L : List Sl) : (frL L).length ≤ L.length := by
  have := nodup_mem_le (frL_srt L).nodup (m := L.map (·.ts)) fun x hx => by obtain ⟨s, hs, _, e⟩ := mem_frL.1 hx; exact List.mem_map.2 ⟨s, hs, e⟩
  simpa using this
/-- A slot more. -/
theorem beh_snoc {L : List Sl} {s : Sl} (a : St) : behL (L ++ [s]) a = if s.af = a then insS (behL L a) s.ts else behL L a := by
  split
  · rename_i e
    refine behL_eq (insS_srt (behL_srt L a) _) fun q => ?_
    rw [mem_insS', mem_behL]
    constructor
    · rintro (h | ⟨t, ht, e1, e2⟩)
      · exact ⟨s, by simp, e, h.symm⟩
      · exact ⟨t, by simp [ht], e1, e2⟩
    · rintro ⟨t, ht, e1, e2⟩
      rcases List.mem_append.1 ht with ht | ht
      · exact .inr ⟨t, ht, e1, e2⟩
      · simp at ht; rw [ht] at e2; exact .inl e2.symm
  · rename_i e
    refine behL_eq (behL_srt L a) fun q => ?_
    rw [mem_behL]
    constructor
    · rintro ⟨t, ht, e1, e2⟩
      exact ⟨t, by simp [ht], e1, e2⟩
    · rintro ⟨t, ht, e1, e2⟩
      rcases List.mem_append.1 ht with ht | ht
      · exact ⟨t, ht, e1, e2⟩
      · simp at ht; rw [ht] at e1; exact absurd e1 e
/-- Those that are taken out, the last one first. -/
def delAll (l : List St) (k : List St) : List St := k.foldl delS l
theorem delAll_srt {l : List St} (h : SrtS l) : ∀ k, SrtS (delAll l k)
  | [] => h
  | t :: k => delAll_srt (delS_srt h t) k
theorem mem_delAll {q : St} : ∀ {l : List St} {k : List St}, q ∈ delAll l k ↔ q ∈ l ∧ q ∉ k
  | l, [] => by simp [delAll]
  | l, t :: k => by
    show q ∈ delAll (delS l t) k ↔ _
    rw [mem_delAll, mem_delS, List.mem_cons, not_or, and_assoc]
theorem delAll_snoc (l k : List St) (t : St) : delAll l (k ++ [t]) = delS (delAll l k) t := by simp [delAll]
theorem delAll_length (l k : List St) : (delAll l k).length ≤ l.length := by
  induction k generalizing l with
  | nil => exact Nat.le_refl _
  | cons t k ih => exact Nat.le_trans (ih (delS l t)) (List.length_filter_le _ _)
theorem fr_snoc {L : List Sl} (h : GoodL L) {s : Sl} (ho : okS s = true) (hn : hasL L s.ts = false) : frL (L ++ [s]) = delAll (if hasL L s.af = true then frL L else insS (frL L) s.ts) (behL L s.ts).reverse := by
  refine frL_eq (delAll_srt (by split; exact frL_srt L; exact insS_srt (frL_srt L) _) _) fun q => ?_
  rw [mem_delAll, List.mem_reverse, mem_behL]
  have hne := okS_ne ho
  constructor
  · rintro ⟨h1, h2⟩
    have h3 : (hasL L s.af = false ∧ q = s.ts) ∨ q ∈ frL L := by
      split at h1
      · exact .inr h1
      · rename_i hc; rcases mem_insS'.1 h1 with e | e
        · exact .inl ⟨by simpa using hc, e⟩
        · exact .inr e
    rcases h3 with ⟨e1, e2⟩ | h3
    · refine ⟨s, by simp, ?_, e2.symm⟩
      rw [hasL_snoc, e1]
      simpa using fun e => hne e.symm
    · obtain ⟨t, ht, e1, e2⟩ := mem_frL.1 h3
      refine ⟨t, by simp [ht], ?_, e2⟩
      rw [hasL_snoc, e1]
      simpa using fun e => h2 ⟨t, ht, e.symm, e2⟩
  · rintro ⟨t, ht, e1, e2⟩
    rw [hasL_snoc, Bool.or_eq_false_iff] at e1
    have e3 : s.ts ≠ t.af := by simpa using e1.2
    rcases List.mem_append.1 ht with ht | ht
    · refine ⟨?_, ?_⟩
      · have : q ∈ frL L := mem_frL.2 ⟨t, ht, e1.1, e2⟩
        split
        · exact this
        · exact mem_insS'.2 (.inr this)
      · rintro ⟨u, hu, f1, f2⟩
        have := h.uniq hu ht (f2.trans e2.symm)
        rw [this] at f1
        exact e3 f1.symm
    · simp at ht
      subst ht
      refine ⟨?_, ?_⟩
      · rw [if_neg (by rw [e1.1]; simp)]
        exact mem_insS'.2 (.inl e2.symm)
      · rintro ⟨u, hu, f1, f2⟩
        exact hasL_no.1 hn u hu (f2.trans e2.symm)

/-- The slot behind which one was put. -/
def afO (L : List Sl) (a : St) : St := match L.find? (fun s => decide (s.ts = a)) with | some s => s.af | none => z0
theorem afO_mem {L : List Sl} (h : GoodL L) {s : Sl} (hs : s ∈ L) : afO L s.ts = s.af := by
  unfold afO
  cases hf : L.find? (fun t => decide (t.ts = s.ts)) with
  | none => have := List.find?_eq_none.1 hf s hs; simp at this
  | some t =>
    have h1 : t ∈ L := List.mem_of_find?_eq_some hf
    have h2 : t.ts = s.ts := by simpa using List.find?_some hf
    rw [h.uniq h1 hs h2]
/-- Under whom one stands. -/
def upO (L : List Sl) (a : St) : St := if hasL L (afO L a) = true then afO L a else z0
theorem kid_up {L : List Sl} (h : GoodL L) {a k : St} (hk : k ∈ kidL L a) (ha : a = z0 ∨ hasL L a = true) : hasL L k = true ∧ upO L k = a ∧ ltS a k = true := by
  unfold kidL at hk
  split at hk
  · rename_i e
    obtain ⟨s, hs, e1, rfl⟩ := mem_frL.1 hk
    refine ⟨hasL_iff.2 ⟨s, hs, rfl⟩, ?_, ?_⟩
    · unfold upO; rw [afO_mem h hs, e1, e]; rfl
    · rw [e]; exact okS_pos (h.ok s hs)
  · rename_i e
    obtain ⟨s, hs, e1, rfl⟩ := mem_behL.1 hk
    have ha' := ha.resolve_left e
    refine ⟨hasL_iff.2 ⟨s, hs, rfl⟩, ?_, ?_⟩
    · unfold upO; rw [afO_mem h hs, e1, if_pos ha']
    · rcases okS_af (h.ok s hs) with h1 | h1
      · exact absurd (e1.symm.trans h1) e
      · rw [← e1]; exact h1
theorem up_kid {L : List Sl} (h : GoodL L) {k : St} (hk : hasL L k = true) : k ∈ kidL L (upO L k) ∧ (upO L k = z0 ∨ hasL L (upO L k) = true) := by
  obtain ⟨s, hs, rfl⟩ := hasL_iff.1 hk
  unfold upO
  rw [afO_mem h hs]
  by_cases e : hasL L s.af = true
  · rw [if_pos e]
    have : s.af ≠ z0 := fun e2 => by rw [e2, h.zero] at e; cases e
    exact ⟨by unfold kidL; rw [if_neg this]; exact mem_behL.2 ⟨s, hs, rfl, rfl⟩, .inr e⟩
  · rw [if_neg e]
    exact ⟨by unfold kidL; rw [if_pos rfl]; exact mem_frL.2 ⟨s, hs, by simpa using e, rfl⟩, .inl rfl⟩
/-- How many are later. -/
def latN (L : List Sl) (a : St) : Nat := (L.filter fun s => ltS a s.ts).length
theorem latN_le (L : List Sl) (a : St) : latN L a ≤ L.length := List.length_filter_le _ _
theorem filter_le_of {α : Type} (L : List α) (f g : α → Bool) (h : ∀ s, f s = true → g s = true) : (L.filter f).length ≤ (L.filter g).length := by
  induction L with
  | nil => simp
  | cons x l ih =>
    cases hf : f x with
    | true => simp [List.filter_cons, hf, h x hf]; exact ih
    | false => cases hg : g x <;> simp [List.filter_cons, hf, hg] <;> omega
theorem latN_lt {L : List Sl} {a k : St} (hk : hasL L k = true) (h : ltS a k = true) : latN L k < latN L a := by
  obtain ⟨s, hs, rfl⟩ := hasL_iff.1 hk
  unfold latN
  clear hk
  induction L with
  | nil => cases hs
  | cons x l ih =>
    have hmono := filter_le_of l (fun t => ltS s.ts t.ts) (fun t => ltS a t.ts) fun t ht => ltS_trans h ht
    rcases List.mem_cons.1 hs with rfl | hs
    · have h1 : ltS s.ts s.ts = false := ltS_irr _
      simp only [List.filter_cons, h, h1, if_true, Bool.false_eq_true, if_false, List.length_cons]
      omega
    · have := ih hs
      cases hx : ltS s.ts x.ts with
      | true => simp only [List.filter_cons, hx, ltS_trans h hx, if_true, List.length_cons]; omega
      | false => cases hy : ltS a x.ts <;> simp only [List.filter_cons, hx, hy, if_true, Bool.false_eq_true, if_false, List.length_cons] <;> omega
/-- All that stand under one, in the row's order. -/
def belF (L : List Sl) : Nat → St → List St
  | 0, _ => []
  | n + 1, a => (kidL L a).reverse.flatMap fun k => k :: belF L n k
theorem flatMap_congr' {α β : Type} {l : List α} {f g : α → List β} (h : ∀ x ∈ l, f x = g x) : l.flatMap f = l.flatMap g := by
  induction l with
  | nil => rfl
  | cons x l ih => rw [List.flatMap_cons, List.flatMap_cons, h x (List.mem_cons_self ..), ih fun y hy => h y (List.mem_cons_of_mem _ hy)]
/-- A node, or the front. -/
def Nd (L : List Sl) (a : St) : Prop := a = z0 ∨ hasL L a = true
theorem belF_stable {L : List Sl} (h : GoodL L) : ∀ (n m : Nat) (a : St), Nd L a → latN L a ≤ n → latN L a ≤ m → belF L n a = belF L m a
  | n, m, a, ha, hn, hm => by
    by_cases e : kidL L a = []
    · have : ∀ n, belF L n a = [] := fun n => by cases n <;> simp [belF, e]
      rw [this n, this m]
    · obtain ⟨k, hk⟩ : ∃ k, k ∈ kidL L a := by cases hl : kidL L a with | nil => exact absurd hl e | cons x y => exact ⟨x, by simp⟩
      obtain ⟨h1, h2, h3⟩ := kid_up h hk ha
      have := latN_lt h1 h3
      match n, m with
      | 0, _ => omega
      | _ + 1, 0 => omega
      | n + 1, m + 1 =>
        simp only [belF]
        refine flatMap_congr' fun k hk => ?_
        rw [List.mem_reverse] at hk
        obtain ⟨h1, h2, h3⟩ := kid_up h hk ha
        have := latN_lt h1 h3
        rw [belF_stable h n m k (.inr h1) (by omega) (by omega)]
def bel (L : List Sl) (a : St) : List St := belF L L.length a
theorem bel_eq {L : List Sl} (h : GoodL L) {a : St} (ha : Nd L a) : bel L a = (kidL L a).reverse.flatMap fun k => k :: bel L k := by
  unfold bel
  rw [belF_stable h L.length (L.length + 1) a ha (latN_le L a) (Nat.le_trans (latN_le L a) (Nat.le_succ _))]
  rfl
def ordL (L : List Sl) : List St := bel L z0
/-- .. with whom it was put behind. -/
def slO (L : List Sl) (a : St) : Sl := ⟨a, afO L a⟩
theorem slO_mem {L : List Sl} (h : GoodL L) {s : Sl} (hs : s ∈ L) : slO L s.ts = s := by unfold slO; rw [afO_mem h hs]
/-- By going down: a rule for what stands under somebody. -/
theorem bel_ind {L : List Sl} (h : GoodL L) {P : St → Prop} (hP : ∀ a, Nd L a → (∀ k ∈ kidL L a, P k) → P a) : ∀ (n : Nat) (a : St), Nd L a → latN L a ≤ n → P a
  | n, a, ha, hn => hP a ha fun k hk => by
    obtain ⟨h1, h2, h3⟩ := kid_up h hk ha
    have := latN_lt h1 h3
    match n with
    | 0 => omega
    | n + 1 => exact bel_ind h hP n k (.inr h1) (by omega)
theorem bel_down {L : List Sl} (h : GoodL L) {P : St → Prop} (hP : ∀ a, Nd L a → (∀ k ∈ kidL L a, P k) → P a) (a : St) (ha : Nd L a) : P a := bel_ind h hP _ a ha (Nat.le_refl _)
theorem mem_bel {L : List Sl} (h : GoodL L) {a : St} (ha : Nd L a) {x : St} : x ∈ bel L a ↔ ∃ k ∈ kidL L a, x = k ∨ x ∈ bel L k := by
  rw [bel_eq h ha, List.mem_flatMap]
  simp only [List.mem_reverse, List.mem_cons]
theorem bel_later {L : List Sl} (h : GoodL L) (a : St) (ha : Nd L a) : ∀ x ∈ bel L a, hasL L x = true ∧ ltS a x = true := by
  refine bel_down h (P := fun a => ∀ x ∈ bel L a, hasL L x = true ∧ ltS a x = true) (fun a ha ih x hx => ?_) a ha
  obtain ⟨k, hk, e⟩ := (mem_bel h ha).1 hx
  obtain ⟨h1, h2, h3⟩ := kid_up h hk ha
  rcases e with rfl | e
  · exact ⟨h1, h3⟩
  · have := ih k hk x e
    exact ⟨this.1, ltS_trans h3 this.2⟩
/-- From who stands under one upward. -/
theorem iter_up {L : List Sl} (h : GoodL L) : ∀ (a : St), Nd L a → ∀ x ∈ bel L a, ∃ n, Nat.repeat (upO L) (n + 1) x = a := by
  refine bel_down h (P := fun a => ∀ x ∈ bel L a, ∃ n, Nat.repeat (upO L) (n + 1) x = a) (fun a ha ih x hx => ?_)
  obtain ⟨k, hk, e⟩ := (mem_bel h ha).1 hx
  obtain ⟨h1, h2, h3⟩ := kid_up h hk ha
  rcases e with rfl | e
  · exact ⟨0, h2⟩
  · obtain ⟨n, hn⟩ := ih k hk x e
    refine ⟨n + 1, ?_⟩
    show upO L (Nat.repeat (upO L) (n + 1) x) = a
    rw [hn, h2]
end Go.Proofs.Ytfgkdbidgbpobaa
