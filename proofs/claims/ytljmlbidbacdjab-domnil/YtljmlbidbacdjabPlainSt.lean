/- Stamps as data: their order; lists of stamps that rise: a place in one, one that is put in, taken out. -/
import Derived.ProofKit
namespace Go.Proofs.Ytljmlbidbacdjab
set_option linter.unusedVariables false
set_option linter.unusedSimpArgs false

/-- A stamp. -/
abbrev St := Int × Int
/-- Is a stamp ahead of another one? -/
def ltS (a b : St) : Bool := decide (a.1 < b.1 ∨ a.1 = b.1 ∧ a.2 < b.2)
theorem ltS_iff (a b : St) : ltS a b = true ↔ a.1 < b.1 ∨ a.1 = b.1 ∧ a.2 < b.2 := by unfold ltS; simp
theorem ltS_no (a b : St) : ltS a b = false ↔ ¬ (a.1 < b.1 ∨ a.1 = b.1 ∧ a.2 < b.2) := by unfold ltS; simp
theorem ltS_trans {a b c : St} (h : ltS a b = true) (h2 : ltS b c = true) : ltS a c = true := by rw [ltS_iff] at *; omega
theorem ltS_irr (a : St) : ltS a a = false := by rw [ltS_no]; omega
theorem ltS_asym {a b : St} (h : ltS a b = true) : ltS b a = false := by rw [ltS_iff] at h; rw [ltS_no]; omega
theorem ltS_ne {a b : St} (h : ltS a b = true) : a ≠ b := fun e => by rw [e, ltS_irr] at h; cases h
theorem ltS_or {a b : St} (h : a ≠ b) : ltS a b = true ∨ ltS b a = true := by
  have : ¬ (a.1 = b.1 ∧ a.2 = b.2) := fun e => h (Prod.ext e.1 e.2)
  rw [ltS_iff, ltS_iff]; omega

def SrtS (L : List St) : Prop := L.Pairwise fun x y => ltS x y = true
/-- A place: all ahead of it are ahead of the stamp, all others are not. -/
structure PlcS (L : List St) (t : St) (i : Nat) : Prop where
  le : i ≤ L.length
  lo : ∀ j (h : j < L.length), j < i → ltS L[j] t = true
  hi : ∀ j (h : j < L.length), i ≤ j → ltS L[j] t = false
def hasS (L : List St) (t : St) : Bool := L.any fun m => decide (m = t)
theorem hasS_iff {L : List St} {t : St} : hasS L t = true ↔ ∃ m ∈ L, m = t := by unfold hasS; rw [List.any_eq_true]; simp
theorem hasS_no {L : List St} {t : St} : hasS L t = false ↔ ∀ m ∈ L, m ≠ t := by unfold hasS; rw [List.any_eq_false]; simp
/-- A stamp is put in. -/
def insS (L : List St) (m : St) : List St := (L.filter fun x => ltS x m) ++ m :: L.filter fun x => ltS m x
def delS (L : List St) (t : St) : List St := L.filter fun x => decide (x ≠ t)
theorem SrtS.lt {L : List St} (h : SrtS L) {i j : Nat} (hi : i < L.length) (hj : j < L.length) (hij : i < j) : ltS L[i] L[j] = true := List.pairwise_iff_getElem.1 h i j hi hj hij
theorem PlcS.has {L : List St} (h : SrtS L) {t : St} {i : Nat} (p : PlcS L t i) : hasS L t = decide (∃ h : i < L.length, L[i] = t) := by
  by_cases hx : ∃ h : i < L.length, L[i] = t
  · rw [decide_eq_true hx]
    obtain ⟨a, b⟩ := hx
    exact hasS_iff.2 ⟨_, List.getElem_mem a, b⟩
  · rw [decide_eq_false hx]
    refine hasS_no.2 fun m hm e => hx ?_
    obtain ⟨j, hj, rfl⟩ := List.mem_iff_getElem.1 hm
    rcases Nat.lt_or_ge j i with h1 | h1
    · have := p.lo j hj h1; rw [e, ltS_irr] at this; cases this
    · rcases Nat.lt_or_ge i j with h2 | h2
      · have h3 : i < L.length := by omega
        have h4 := h.lt h3 hj h2
        have h5 := p.hi i h3 (Nat.le_refl _)
        rw [e] at h4
        rw [h4] at h5
        cases h5
      · obtain rfl : i = j := by omega
        exact ⟨hj, e⟩
theorem filter_split {α : Type} (L : List α) (f : α → Bool) (i : Nat) (h1 : ∀ j (h : j < L.length), j < i → f L[j] = true) (h2 : ∀ j (h : j < L.length), i ≤ j → f L[j] = false) : L.filter f = L.take i := by
  induction L generalizing i with
  | nil => simp
  | cons x t ih =>
    match i with
    | 0 =>
      rw [List.take_zero, List.filter_eq_nil_iff]
      intro y hy
      obtain ⟨j, hj, rfl⟩ := List.mem_iff_getElem.1 hy
      simp [h2 j hj (Nat.zero_le _)]
    | i + 1 =>
      have h0 := h1 0 (by simp) (by omega)
      rw [List.getElem_cons_zero] at h0
      rw [List.filter_cons, if_pos h0, List.take_succ_cons, ih i (fun j hj hji => h1 (j + 1) (Nat.succ_lt_succ hj) (by omega)) (fun j hj hji => h2 (j + 1) (Nat.succ_lt_succ hj) (by omega))]
theorem filter_split2 {α : Type} (L : List α) (f : α → Bool) (i : Nat) (h1 : ∀ j (h : j < L.length), j < i → f L[j] = false) (h2 : ∀ j (h : j < L.length), i ≤ j → f L[j] = true) : L.filter f = L.drop i := by
  induction L generalizing i with
  | nil => simp
  | cons x t ih =>
    match i with
    | 0 =>
      rw [List.drop_zero, List.filter_eq_self]
      intro y hy
      obtain ⟨j, hj, rfl⟩ := List.mem_iff_getElem.1 hy
      exact h2 j hj (Nat.zero_le _)
    | i + 1 =>
      have h0 := h1 0 (by simp) (by omega)
      rw [List.getElem_cons_zero] at h0
      rw [List.filter_cons, h0, List.drop_succ_cons, ih i (fun j hj hji => h1 (j + 1) (Nat.succ_lt_succ hj) (by omega)) (fun j hj hji => h2 (j + 1) (Nat.succ_lt_succ hj) (by omega))]
      rfl
theorem PlcS.ins {L : List St} {m : St} {i : Nat} (p : PlcS L m i) (hn : hasS L m = false) : insS L m = L.take i ++ m :: L.drop i := by
  unfold insS
  rw [filter_split L _ i p.lo p.hi, filter_split2 L _ i (fun j hj hji => ltS_asym (p.lo j hj hji)) fun j hj hji => ?_]
  have := p.hi j hj hji
  rcases ltS_or (hasS_no.1 hn _ (List.getElem_mem hj)) with h | h
  · rw [h] at this; cases this
  · exact h
theorem PlcS.del {L : List St} (h : SrtS L) {t : St} {i : Nat} (p : PlcS L t i) (hi : i < L.length) (e : L[i] = t) : delS L t = L.take i ++ L.drop (i + 1) := by
  unfold delS
  have e1 : L = L.take i ++ L[i] :: L.drop (i + 1) := by rw [← List.drop_eq_getElem_cons hi, List.take_append_drop]
  have q1 : (L.take i).filter (fun x => decide (x ≠ t)) = L.take i := List.filter_eq_self.2 fun x hx => by
    obtain ⟨j, hj, rfl⟩ := List.mem_iff_getElem.1 hx
    rw [List.getElem_take]
    have hj2 : j < i := by simp at hj; omega
    simpa using ltS_ne (p.lo j (by omega) hj2)
  have q2 : (L.drop (i + 1)).filter (fun x => decide (x ≠ t)) = L.drop (i + 1) := List.filter_eq_self.2 fun x hx => by
    obtain ⟨j, hj, rfl⟩ := List.mem_iff_getElem.1 hx
    rw [List.getElem_drop]
    have := ltS_ne (h.lt hi (show i + 1 + j < L.length by simp at hj; omega) (by omega))
    rw [e] at this
    simpa using this.symm
  conv => lhs; rw [e1]
  rw [List.filter_append, List.filter_cons, q1, q2]
  simp [e]
theorem insS_srt {L : List St} (h : SrtS L) (m : St) : SrtS (insS L m) := by
  unfold insS SrtS
  rw [List.pairwise_append]
  refine ⟨List.Pairwise.sublist List.filter_sublist h, List.pairwise_cons.2 ⟨fun y hy => by simpa using (List.mem_filter.1 hy).2, List.Pairwise.sublist List.filter_sublist h⟩, fun x hx y hy => ?_⟩
  have h1 := (List.mem_filter.1 hx).2
  rcases List.mem_cons.1 hy with rfl | hy
  · exact h1
  · exact ltS_trans h1 (List.mem_filter.1 hy).2
theorem delS_srt {L : List St} (h : SrtS L) (t : St) : SrtS (delS L t) := List.Pairwise.sublist List.filter_sublist h
theorem mem_insS {L : List St} {m q : St} (hn : hasS L m = false) : q ∈ insS L m ↔ q = m ∨ q ∈ L := by
  unfold insS
  rw [List.mem_append, List.mem_cons, List.mem_filter, List.mem_filter]
  constructor
  · rintro (⟨h1, h2⟩ | h | ⟨h1, h2⟩)
    · exact .inr h1
    · exact .inl h
    · exact .inr h1
  · rintro (h | h1)
    · exact .inr (.inl h)
    · rcases ltS_or (hasS_no.1 hn q h1) with h3 | h3
      · exact .inl ⟨h1, h3⟩
      · exact .inr (.inr ⟨h1, h3⟩)
/-- Two that rise and have the same are the same. -/
theorem SrtS.ext {T U : List St} (h : SrtS T) (h2 : SrtS U) (hmem : ∀ p, p ∈ T ↔ p ∈ U) : T = U := by
  have head : ∀ {x : St} {t : List St}, SrtS (x :: t) → ∀ y ∈ t, ltS x y = true := fun h => (List.pairwise_cons.1 h).1
  have tail : ∀ {x : St} {t : List St}, SrtS (x :: t) → SrtS t := fun h => (List.pairwise_cons.1 h).2
  induction T generalizing U with
  | nil =>
    cases U with
    | nil => rfl
    | cons y u => exact absurd ((hmem y).2 (List.mem_cons_self ..)) (by simp)
  | cons x t ih =>
    cases U with
    | nil => exact absurd ((hmem x).1 (List.mem_cons_self ..)) (by simp)
    | cons y u =>
      have exy : x = y := by
        rcases List.mem_cons.1 ((hmem x).1 (List.mem_cons_self ..)) with e | e
        · exact e
        · rcases List.mem_cons.1 ((hmem y).2 (List.mem_cons_self ..)) with e2 | e2
          · exact e2.symm
          · have := ltS_asym (head h y e2); rw [head h2 x e] at this; cases this
      subst exy
      rw [ih (tail h) (tail h2) fun p => ⟨fun hp => ?_, fun hp => ?_⟩]
      · rcases List.mem_cons.1 ((hmem p).1 (List.mem_cons_of_mem _ hp)) with e | e
        · exact absurd (ltS_ne (head h p hp)) (by rw [e]; simp)
        · exact e
      · rcases List.mem_cons.1 ((hmem p).2 (List.mem_cons_of_mem _ hp)) with e | e
        · exact absurd (ltS_ne (head h2 p hp)) (by rw [e]; simp)
        · exact e
theorem insS_length {L : List St} {m : St} {i : Nat} (p : PlcS L m i) (hn : hasS L m = false) : (insS L m).length = L.length + 1 := by
  rw [p.ins hn]
  have := p.le
  simp
  omega
theorem take_insS {L : List St} {m : St} {i k : Nat} (p : PlcS L m i) (hn : hasS L m = false) (hk : k ≤ i) : (insS L m).take k = L.take k := by
  rw [p.ins hn, List.take_append_of_le_length (by have := p.le; simp; omega), List.take_take, Nat.min_eq_left hk]

end Go.Proofs.Ytljmlbidbacdjab
