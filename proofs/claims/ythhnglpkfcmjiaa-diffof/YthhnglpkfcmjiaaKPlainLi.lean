/- The longest rising part of a list, plainly: how long the longest one is that begins at each place (begL), the first of the longest ones (risL), what is longest and first about it. -/
import Derived.Test.YthhnglpkfcmjiaaRows
namespace Go.Proofs.Ythhnglpkfcmjiaa
set_option linter.unusedVariables false
/-- Of the places of a list whose numbers are above x, the greatest of what stands beside them; else nought. -/
def bst (x : Int) : List Int → List Int → Int
  | y :: t, b :: bs => if x < y then max b (bst x t bs) else bst x t bs
  | _, _ => 0
/-- How many places the longest rising part has that begins at each place. -/
def begL : List Int → List Int
  | [] => []
  | x :: t => (bst x t (begL t) + 1) :: begL t
/-- The greatest of a list, nought if there is none. -/
def maxL : List Int → Int
  | [] => 0
  | b :: bs => max b (maxL bs)
theorem begL_length : ∀ d : List Int, (begL d).length = d.length
  | [] => rfl
  | x :: t => by simp [begL, begL_length t]
theorem begL_drop : ∀ (d : List Int) (k : Nat), begL (d.drop k) = (begL d).drop k
  | [], k => by simp [begL]
  | x :: t, 0 => rfl
  | x :: t, k + 1 => by simp only [List.drop_succ_cons, begL]; exact begL_drop t k
theorem bst_nonneg (x : Int) : ∀ (t bs : List Int), 0 ≤ bst x t bs
  | [], _ => by simp [bst]
  | _ :: _, [] => by simp [bst]
  | y :: t, b :: bs => by have := bst_nonneg x t bs; simp only [bst]; split <;> omega
theorem begL_pos : ∀ (d : List Int) (k : Nat) (h : k < d.length), 1 ≤ (begL d)[k]'(by rw [begL_length]; exact h)
  | x :: t, 0, _ => by simp only [begL, List.getElem_cons_zero]; have := bst_nonneg x t (begL t); omega
  | x :: t, k + 1, h => by simp only [begL, List.getElem_cons_succ]; exact begL_pos t k (by simpa using h)
theorem maxL_nonneg : ∀ l : List Int, 0 ≤ maxL l
  | [] => Int.le_refl _
  | b :: bs => by have := maxL_nonneg bs; simp only [maxL]; omega
theorem maxL_ge : ∀ (l : List Int) (k : Nat) (h : k < l.length), l[k] ≤ maxL l
  | b :: bs, 0, _ => by simp only [maxL, List.getElem_cons_zero]; omega
  | b :: bs, k + 1, h => by have := maxL_ge bs k (by simpa using h); simp only [maxL, List.getElem_cons_succ]; omega
theorem maxL_get : ∀ (l : List Int), 0 < maxL l → ∃ k, ∃ h : k < l.length, l[k] = maxL l
  | [], h => by simp [maxL] at h
  | b :: bs, h => by
    by_cases hb : maxL bs ≤ b
    · exact ⟨0, by simp, by simp only [maxL, List.getElem_cons_zero]; omega⟩
    · have h0 : 0 < maxL bs := by simp only [maxL] at h; have := maxL_nonneg bs; omega
      obtain ⟨k, hk, e⟩ := maxL_get bs h0
      exact ⟨k + 1, by simpa using hk, by simp only [maxL, List.getElem_cons_succ]; omega⟩
theorem bst_ge (x : Int) : ∀ (t bs : List Int) (j : Nat) (h : j < t.length) (h2 : j < bs.length), x < t[j] → bs[j] ≤ bst x t bs
  | y :: t, b :: bs, 0, _, _, hx => by simp only [bst, List.getElem_cons_zero] at hx ⊢; rw [if_pos hx]; omega
  | y :: t, b :: bs, j + 1, h, h2, hx => by
    have := bst_ge x t bs j (by simpa using h) (by simpa using h2) (by simpa using hx)
    simp only [bst, List.getElem_cons_succ]
    split <;> omega
theorem bst_get (x : Int) : ∀ (t bs : List Int), 0 < bst x t bs → ∃ j, ∃ (h : j < t.length) (h2 : j < bs.length), x < t[j] ∧ bs[j] = bst x t bs
  | [], _, h => by simp [bst] at h
  | _ :: _, [], h => by simp [bst] at h
  | y :: t, b :: bs, h => by
    have hn := bst_nonneg x t bs
    by_cases hx : x < y
    · by_cases hb : bst x t bs ≤ b
      · exact ⟨0, by simp, by simp, by simpa using hx, by simp only [bst, List.getElem_cons_zero]; rw [if_pos hx]; omega⟩
      · obtain ⟨j, h1, h2, e1, e2⟩ := bst_get x t bs (by simp only [bst, if_pos hx] at h; omega)
        exact ⟨j + 1, by simpa using h1, by simpa using h2, by simpa using e1, by simp only [bst, List.getElem_cons_succ]; rw [if_pos hx]; omega⟩
    · simp only [bst, if_neg hx] at h
      obtain ⟨j, h1, h2, e1, e2⟩ := bst_get x t bs h
      exact ⟨j + 1, by simpa using h1, by simpa using h2, by simpa using e1, by simp only [bst, List.getElem_cons_succ]; rw [if_neg hx]; exact e2⟩
/-- How long it is from a place on: longer than from each later place whose number is above. -/
theorem begL_at : ∀ (d : List Int) (i : Nat) (h : i < d.length), (begL d)[i]'(by rw [begL_length]; exact h) = bst d[i] (d.drop (i + 1)) (begL (d.drop (i + 1))) + 1
  | x :: t, 0, _ => by simp [begL]
  | x :: t, i + 1, h => by simp only [begL, List.getElem_cons_succ, List.drop_succ_cons]; exact begL_at t i (by simpa using h)
/-- How long from a place on, for any place. -/
def bgA (d : List Int) (i : Nat) : Int := (begL d).getD i 0
def atD (d : List Int) (i : Nat) : Int := d.getD i 0
theorem bgA_eq {d : List Int} {i : Nat} (h : i < d.length) : (begL d)[i]'(by rw [begL_length]; exact h) = bgA d i := by
  unfold bgA; rw [List.getD_eq_getElem?_getD, List.getElem?_eq_getElem (by rw [begL_length]; exact h)]; rfl
theorem atD_eq {d : List Int} {i : Nat} (h : i < d.length) : d[i] = atD d i := by
  unfold atD; rw [List.getD_eq_getElem?_getD, List.getElem?_eq_getElem h]; rfl
theorem bgA_pos {d : List Int} {i : Nat} (h : i < d.length) : 1 ≤ bgA d i := by rw [← bgA_eq h]; exact begL_pos d i h
theorem bgA_more {d : List Int} {i j : Nat} (hj : j < d.length) (hij : i < j) (hx : atD d i < atD d j) : bgA d j + 1 ≤ bgA d i := by
  have hi : i < d.length := by omega
  have h1 := begL_at d i hi
  rw [bgA_eq hi] at h1
  have h2 := bst_ge d[i] (d.drop (i + 1)) (begL (d.drop (i + 1))) (j - (i + 1)) (by simp; omega) (by rw [begL_length]; simp; omega) (by
    simp only [List.getElem_drop, show i + 1 + (j - (i + 1)) = j by omega]
    rw [atD_eq hi, atD_eq hj]; exact hx)
  simp only [begL_drop, List.getElem_drop, show i + 1 + (j - (i + 1)) = j by omega] at h2
  rw [bgA_eq hj, ← begL_drop] at h2
  omega
theorem bgA_next {d : List Int} {i : Nat} (hi : i < d.length) (h : 1 < bgA d i) : ∃ j, i < j ∧ j < d.length ∧ atD d i < atD d j ∧ bgA d j + 1 = bgA d i := by
  have h1 := begL_at d i hi
  rw [bgA_eq hi] at h1
  obtain ⟨j, h2, h3, h4, h5⟩ := bst_get d[i] (d.drop (i + 1)) (begL (d.drop (i + 1))) (by omega)
  have hj : i + 1 + j < d.length := by simp at h2; omega
  refine ⟨i + 1 + j, by omega, hj, ?_, ?_⟩
  · simp only [List.getElem_drop] at h4
    rw [atD_eq hi, atD_eq hj] at h4; exact h4
  · simp only [begL_drop, List.getElem_drop] at h5
    rw [bgA_eq hj, ← begL_drop] at h5
    omega
theorem bgA_le {d : List Int} {i : Nat} (hi : i < d.length) : bgA d i ≤ (d.length - i : Nat) := by
  have : ∀ (m : Nat) (k : Nat), k < d.length → d.length - k ≤ m → bgA d k ≤ (d.length - k : Nat) := by
    intro m
    induction m with
    | zero => intro k hk h; omega
    | succ m ih =>
      intro k hk h
      rcases Int.lt_or_le 1 (bgA d k) with h1 | h1
      · obtain ⟨j, j1, j2, j3, j4⟩ := bgA_next hk h1
        have := ih j j2 (by omega)
        omega
      · omega
  exact this _ i hi (Nat.le_refl _)
/-- The longest of all. -/
def lngL (d : List Int) : Int := maxL (begL d)
theorem lngL_ge {d : List Int} {i : Nat} (h : i < d.length) : bgA d i ≤ lngL d := by
  rw [← bgA_eq h]; exact maxL_ge _ _ _
theorem lngL_get {d : List Int} (h : 0 < lngL d) : ∃ i, i < d.length ∧ bgA d i = lngL d := by
  obtain ⟨k, hk, e⟩ := maxL_get _ h
  rw [begL_length] at hk
  exact ⟨k, hk, by rw [← bgA_eq hk]; exact e⟩
theorem lngL_nonneg (d : List Int) : 0 ≤ lngL d := maxL_nonneg _
/-- From a place on, the next places from which just what is left begins. -/
def pick (d : List Int) : Nat → Nat → Int → List Int
  | 0, _, _ => []
  | f + 1, i, left => if bgA d i = left then (i : Int) :: pick d f (i + 1) (left - 1) else pick d f (i + 1) left
/-- The first of the longest rising parts. -/
def risL (d : List Int) : List Int := pick d d.length 0 (lngL d)
/-- What is left from a place on: the rest of the list. -/
def rstL (d : List Int) (i : Nat) (left : Int) : List Int := pick d (d.length - i) i left
theorem rstL_zero (d : List Int) : rstL d 0 (lngL d) = risL d := rfl
theorem rstL_end {d : List Int} {i : Nat} (h : d.length ≤ i) (left : Int) : rstL d i left = [] := by unfold rstL; rw [show d.length - i = 0 by omega]; rfl
theorem rstL_yes {d : List Int} {i : Nat} (h : i < d.length) {left : Int} (e : bgA d i = left) : rstL d i left = (i : Int) :: rstL d (i + 1) (left - 1) := by
  unfold rstL; rw [show d.length - i = (d.length - (i + 1)) + 1 by omega]; simp only [pick]; rw [if_pos e]
theorem rstL_no {d : List Int} {i : Nat} (h : i < d.length) {left : Int} (e : bgA d i ≠ left) : rstL d i left = rstL d (i + 1) left := by
  unfold rstL; rw [show d.length - i = (d.length - (i + 1)) + 1 by omega]; simp only [pick]; rw [if_neg e]
theorem rstL_skip {d : List Int} {left : Int} : ∀ (n i : Nat), (∀ k, i ≤ k → k < i + n → bgA d k ≠ left) → rstL d i left = rstL d (i + n) left
  | 0, i, _ => rfl
  | n + 1, i, h => by
    have h0 := h i (Nat.le_refl _) (by omega)
    by_cases hi : i < d.length
    · rw [rstL_no hi h0, rstL_skip n (i + 1) (fun k h1 h2 => h k (by omega) (by omega)), show i + 1 + n = i + (n + 1) by omega]
    · rw [rstL_end (by omega), rstL_end (by omega)]
theorem rstL_none (d : List Int) (i : Nat) : rstL d i 0 = [] := by
  rw [rstL_skip (d.length - i) i (fun k h1 h2 => by have := bgA_pos (d := d) (i := k) (by omega); omega), rstL_end (by omega)]
theorem bst_drop {d : List Int} {x : Int} {k : Nat} (h : k < d.length) : bst x (d.drop k) (begL (d.drop k)) = if x < atD d k then max (bgA d k) (bst x (d.drop (k + 1)) (begL (d.drop (k + 1)))) else bst x (d.drop (k + 1)) (begL (d.drop (k + 1))) := by
  rw [begL_drop, List.drop_eq_getElem_cons h, List.drop_eq_getElem_cons (l := begL d) (by rw [begL_length]; exact h), bgA_eq h, atD_eq h, begL_drop]
  rfl
theorem bst_end {d : List Int} {x : Int} {k : Nat} (h : d.length ≤ k) : bst x (d.drop k) (begL (d.drop k)) = 0 := by
  rw [List.drop_eq_nil_of_le h]; rfl
/-- Where one stands while the part is taken: ahead of place i, with left places to come, and the place 'last' taken just now (none yet: nothing is said). -/
def Ahd (d : List Int) (last : Option Nat) (left : Int) : Prop :=
  match last with
  | none => left = lngL d
  | some p => p < d.length ∧ bgA d p = left + 1
def nxt (last : Option Nat) : Nat := match last with | none => 0 | some p => p + 1
def above (d : List Int) (last : Option Nat) (i : Nat) : Prop := match last with | none => True | some p => atD d p < atD d i
/-- What the document asks of the next place. -/
def Fit (d : List Int) (last : Option Nat) (left : Int) (i : Nat) : Prop := left ≤ bgA d i ∧ above d last i
theorem Ahd.le {d : List Int} {last : Option Nat} {left : Int} (h : Ahd d last left) {i : Nat} (hi : i < d.length) (hn : nxt last ≤ i) (ha : above d last i) : bgA d i ≤ left := by
  cases last with
  | none => rw [show left = lngL d from h]; exact lngL_ge hi
  | some p => have := bgA_more hi (show p < i from hn) ha; have := h.2; omega
theorem Ahd.fit {d : List Int} {last : Option Nat} {left : Int} (h : Ahd d last left) {i : Nat} (hi : i < d.length) (hn : nxt last ≤ i) (hf : Fit d last left i) : bgA d i = left := by
  have := h.le hi hn hf.2; have := hf.1; omega
theorem Ahd.some {d : List Int} {last : Option Nat} {left : Int} (h : Ahd d last left) (hl : 0 < left) : ∃ j, nxt last ≤ j ∧ j < d.length ∧ above d last j ∧ bgA d j = left := by
  cases last with
  | none => obtain ⟨j, hj, e⟩ := lngL_get (d := d) (by rw [← show left = lngL d from h]; exact hl); exact ⟨j, Nat.zero_le _, hj, trivial, by rw [e]; exact h.symm⟩
  | some p => obtain ⟨j, h1, h2, h3, h4⟩ := bgA_next h.1 (by have := h.2; omega); exact ⟨j, h1, h2, h3, by have := h.2; omega⟩
/-- The first place from which just what is left begins is above the last one. -/
theorem Ahd.first {d : List Int} {last : Option Nat} {left : Int} (h : Ahd d last left) (hl : 0 < left) {i : Nat} (hi : i < d.length) (hn : nxt last ≤ i) (hno : ∀ k, nxt last ≤ k → k < i → ¬ Fit d last left k) (e : bgA d i = left) : Fit d last left i := by
  refine ⟨by omega, ?_⟩
  cases last with
  | none => trivial
  | some p =>
    obtain ⟨j, h1, h2, h3, h4⟩ := h.some hl
    show atD d p < atD d i
    rcases Int.lt_or_le (atD d p) (atD d i) with hx | hx
    · exact hx
    · exfalso
      have h3' : atD d p < atD d j := h3
      rcases Nat.lt_trichotomy j i with hji | rfl | hji
      · exact hno j h1 hji ⟨by omega, h3⟩
      · omega
      · have := bgA_more h2 hji (show atD d i < atD d j by omega); omega
theorem Ahd.step {d : List Int} {i : Nat} {left : Int} (hi : i < d.length) (e : bgA d i = left) : Ahd d (Option.some i) (left - 1) := ⟨hi, by omega⟩
/-- A list of places that is a rising part, from a place 'last' on. -/
def RisF (d : List Int) : Option Nat → List Int → Prop
  | _, [] => True
  | last, p :: t => ∃ i : Nat, p = (i : Int) ∧ i < d.length ∧ nxt last ≤ i ∧ above d last i ∧ RisF d (Option.some i) t
theorem RisF.len {d : List Int} : ∀ (t : List Int) (last : Option Nat) (i : Nat) (hi : i < d.length), RisF d (Option.some i) t → (t.length : Int) + 1 ≤ bgA d i
  | [], _, i, hi, _ => by have := bgA_pos hi; simpa using this
  | p :: t, _, i, hi, ⟨j, e, hj, hn, ha, hr⟩ => by
    have h1 := RisF.len t none j hj hr
    have h2 := bgA_more hj (show i < j from hn) ha
    simp only [List.length_cons]; omega
/-- What is left from a place on is a rising part as long as that; whatever else is as long is not ahead of it. -/
theorem rst_ris {d : List Int} : ∀ (f : Nat) (i : Nat) (last : Option Nat) (left : Int), d.length - i ≤ f → 0 ≤ left → nxt last ≤ i → Ahd d last left → (∀ k, nxt last ≤ k → k < i → ¬ Fit d last left k) →
    RisF d last (rstL d i left) ∧ ((rstL d i left).length : Int) = left
  | 0, i, last, left, hf, h0, hn, ha, hno => by
    rcases Int.lt_or_le 0 left with hl | hl
    · obtain ⟨j, h1, h2, h3, h4⟩ := ha.some hl
      exact absurd ⟨by omega, h3⟩ (hno j h1 (by omega))
    · rw [rstL_end (by omega)]; exact ⟨trivial, by simp; omega⟩
  | f + 1, i, last, left, hf, h0, hn, ha, hno => by
    rcases Int.lt_or_le 0 left with hl | hl
    · by_cases hi : i < d.length
      · by_cases e : bgA d i = left
        · have hfit := ha.first hl hi hn hno e
          obtain ⟨h1, h2⟩ := rst_ris f (i + 1) (Option.some i) (left - 1) (by omega) (by omega) (Nat.le_refl _) (Ahd.step hi e) (fun k h1 h2 => by simp [nxt] at h1; omega)
          rw [rstL_yes hi e]
          exact ⟨⟨i, rfl, hi, hn, hfit.2, h1⟩, by simp only [List.length_cons]; omega⟩
        · rw [rstL_no hi e]
          exact rst_ris f (i + 1) last left (by omega) h0 (by omega) ha (fun k h1 h2 hg => by
            rcases Nat.lt_or_ge k i with h3 | h3
            · exact hno k h1 h3 hg
            · obtain rfl : k = i := by omega
              exact e (ha.fit hi h1 hg))
      · obtain ⟨j, h1, h2, h3, h4⟩ := ha.some hl
        exact absurd ⟨by omega, h3⟩ (hno j h1 (by omega))
    · obtain rfl : left = 0 := by omega
      have : rstL d i 0 = [] := by
        rw [rstL_skip (d.length - i) i (fun k h1 h2 => by have := bgA_pos (d := d) (i := k) (by omega); omega), rstL_end (by omega)]
      rw [this]; exact ⟨trivial, rfl⟩
theorem ris_ris (d : List Int) : RisF d none (risL d) ∧ ((risL d).length : Int) = lngL d :=
  rst_ris d.length 0 none (lngL d) (by omega) (lngL_nonneg d) (Nat.zero_le _) rfl (fun k _ h => absurd h (Nat.not_lt_zero _))
/-- How many of a list are above x. -/
def cntG : List Int → Int → Nat
  | [], _ => 0
  | y :: t, x => if x < y then cntG t x + 1 else cntG t x
/-- A list that never rises. -/
def Fall : List Int → Prop
  | [] => True
  | y :: t => (∀ z ∈ t, z ≤ y) ∧ Fall t
/-- x takes the place of the first that is not above it. -/
def insF : List Int → Int → List Int
  | [], x => [x]
  | y :: t, x => if x < y then y :: insF t x else x :: t
theorem cntG_le : ∀ (F : List Int) (x : Int), cntG F x ≤ F.length
  | [], _ => Nat.le_refl _
  | y :: t, x => by have := cntG_le t x; simp only [cntG, List.length_cons]; split <;> omega
theorem cntG_none : ∀ (F : List Int) (x : Int), (∀ z ∈ F, z ≤ x) → cntG F x = 0
  | [], _, _ => rfl
  | y :: t, x, h => by
    have h0 := h y (List.mem_cons_self ..)
    simp only [cntG]; rw [if_neg (by omega)]
    exact cntG_none t x fun z hz => h z (List.mem_cons_of_mem _ hz)
theorem Fall.zero {y x : Int} {t : List Int} (h : Fall (y :: t)) (hx : ¬ x < y) : cntG t x = 0 := cntG_none t x fun z hz => by have := h.1 z hz; omega
theorem Fall.at_ : ∀ {F : List Int} (h : Fall F) (x : Int) (i : Nat) (hi : i < F.length), (x < F[i] ↔ i < cntG F x)
  | y :: t, h, x, 0, _ => by
    simp only [cntG, List.getElem_cons_zero]
    split
    · simp; assumption
    · rename_i hx; rw [h.zero hx]; simp; omega
  | y :: t, h, x, i + 1, hi => by
    have ih := Fall.at_ h.2 x i (by simpa using hi)
    simp only [cntG, List.getElem_cons_succ]
    split
    · rw [ih]; omega
    · rename_i hx
      rw [h.zero hx] at ih ⊢
      rw [ih]; omega
theorem insF_eq : ∀ {F : List Int} (h : Fall F) (x : Int), insF F x = if cntG F x = F.length then F ++ [x] else F.set (cntG F x) x
  | [], _, x => rfl
  | y :: t, h, x => by
    have ih := insF_eq h.2 x
    simp only [insF, cntG]
    split
    · rw [ih]; simp only [List.length_cons, Nat.add_right_cancel_iff]; split <;> simp
    · rename_i hx; rw [h.zero hx]; simp
theorem mem_insF : ∀ {F : List Int} {x z : Int}, z ∈ insF F x → z = x ∨ z ∈ F
  | [], x, z, h => by simp [insF] at h; exact .inl h
  | y :: t, x, z, h => by
    simp only [insF] at h
    split at h
    · rcases List.mem_cons.1 h with rfl | h
      · exact .inr (List.mem_cons_self ..)
      · rcases mem_insF h with h | h
        · exact .inl h
        · exact .inr (List.mem_cons_of_mem _ h)
    · rcases List.mem_cons.1 h with rfl | h
      · exact .inl rfl
      · exact .inr (List.mem_cons_of_mem _ h)
theorem Fall.ins : ∀ {F : List Int} (h : Fall F) (x : Int), Fall (insF F x)
  | [], _, x => ⟨by simp, trivial⟩
  | y :: t, h, x => by
    simp only [insF]
    split
    · rename_i hx
      refine ⟨fun z hz => ?_, h.2.ins x⟩
      rcases mem_insF hz with rfl | hz
      · omega
      · exact h.1 z hz
    · rename_i hx
      exact ⟨fun z hz => by have := h.1 z hz; omega, h.2⟩
theorem Fall.ins_len : ∀ {F : List Int} (h : Fall F) (x : Int), ((insF F x).length : Int) = max (F.length : Int) ((cntG F x : Int) + 1)
  | [], _, x => by simp [insF, cntG]; omega
  | y :: t, h, x => by
    have ih := Fall.ins_len h.2 x
    simp only [insF, cntG]
    split
    · simp only [List.length_cons]; omega
    · rename_i hx; rw [h.zero hx]; simp only [List.length_cons]; omega
theorem Fall.ins_cnt : ∀ {F : List Int} (h : Fall F) (x y : Int), (cntG (insF F x) y : Int) = if y < x then max ((cntG F x : Int) + 1) (cntG F y : Int) else (cntG F y : Int)
  | [], _, x, y => by simp only [insF, cntG]; split <;> (simp <;> omega)
  | z :: t, h, x, y => by
    have ih := Fall.ins_cnt h.2 x y
    simp only [insF]
    by_cases hx : x < z
    · rw [if_pos hx]
      simp only [cntG, if_pos hx]
      by_cases hy : y < x
      · rw [if_pos hy] at ih ⊢
        rw [if_pos (show y < z by omega), if_pos (show y < z by omega)]
        omega
      · rw [if_neg hy] at ih ⊢
        split <;> omega
    · rw [if_neg hx]
      have h0 := h.zero hx
      simp only [cntG, if_neg hx, h0]
      by_cases hy : y < x
      · rw [if_pos hy, if_pos hy]
        by_cases hz : y < z
        · rw [if_pos hz]; omega
        · rw [if_neg hz, h.zero hz]; omega
      · rw [if_neg hy, if_neg hy, if_neg (show ¬ y < z by omega)]
/-- What 'firsts' has of the list behind. -/
def Fst (t F : List Int) : Prop := Fall F ∧ (F.length : Int) = maxL (begL t) ∧ ∀ y, (cntG F y : Int) = bst y t (begL t)
theorem Fst.nil : Fst [] [] := ⟨trivial, rfl, fun y => rfl⟩
theorem Fst.step {t F : List Int} (h : Fst t F) (x : Int) : Fst (x :: t) (insF F x) ∧ begL (x :: t) = ((cntG F x : Int) + 1) :: begL t := by
  obtain ⟨h1, h2, h3⟩ := h
  refine ⟨⟨h1.ins x, ?_, fun y => ?_⟩, by simp only [begL]; rw [h3 x]⟩
  · rw [h1.ins_len x, h2, h3 x]; simp only [begL, maxL]; omega
  · rw [h1.ins_cnt x y, h3 x, h3 y]; simp only [begL, bst]
theorem Fst.len {t F : List Int} (h : Fst t F) : F.length ≤ t.length := by
  have h2 := h.2.1
  rcases Int.lt_or_le 0 (maxL (begL t)) with h0 | h0
  · obtain ⟨k, hk, e⟩ := lngL_get (d := t) h0
    have h4 := bgA_le hk
    unfold lngL at e
    omega
  · omega
theorem range_cnt (F : List Int) (x : Int) : (List.range F.length).countP (fun i => !decide (atD F i ≤ x)) = cntG F x := by
  have hg : ∀ (G : List Int), G.countP (fun y => !decide (y ≤ x)) = cntG G x := by
    intro G
    induction G with
    | nil => rfl
    | cons y t ih =>
      simp only [List.countP_cons, cntG, ih]
      by_cases h : x < y
      · rw [if_pos h]; simp [h]
      · rw [if_neg h]; simp; omega
  rw [← hg F]
  have h : F = (List.range F.length).map (fun i => atD F i) := by
    apply List.ext_getElem
    · simp
    · intro i h1 h2
      simp only [List.getElem_map, List.getElem_range]
      exact atD_eq h1
  conv => rhs; rw [h, List.countP_map]
  rfl
end Go.Proofs.Ythhnglpkfcmjiaa
