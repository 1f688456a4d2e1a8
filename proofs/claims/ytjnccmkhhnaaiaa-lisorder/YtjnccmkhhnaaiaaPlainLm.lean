/- The longest rising part of a list with a number more; of one that rises, of one that never does; of two lists in the same order: plainly. -/
import Derived.Test.YtjnccmkhhnaaiaaPlainLi
namespace Go.Proofs.Ytjnccmkhhnaaiaa
set_option linter.unusedVariables false

/-- A place that lies in a list. -/
def InL (d : List Int) : Option Nat → Prop
  | none => True
  | some p => p < d.length
theorem atD_app {d e : List Int} {i : Nat} (h : i < d.length) : atD (d ++ e) i = atD d i := by
  unfold atD; rw [List.getD_eq_getElem?_getD, List.getD_eq_getElem?_getD, List.getElem?_append_left h]
theorem atD_last (d : List Int) (n : Int) : atD (d ++ [n]) d.length = n := by
  unfold atD; rw [List.getD_eq_getElem?_getD, List.getElem?_append_right (Nat.le_refl _)]; simp
theorem above_app {d e : List Int} {l : Option Nat} {i : Nat} (hl : InL d l) (hi : i < d.length) : above (d ++ e) l i ↔ above d l i := by
  cases l with
  | none => exact Iff.rfl
  | some p => show atD (d ++ e) p < atD (d ++ e) i ↔ _; rw [atD_app hl, atD_app hi]; exact Iff.rfl
theorem RisF.app {d e : List Int} : ∀ (p : List Int) (l : Option Nat), InL d l → RisF d l p → RisF (d ++ e) l p
  | [], _, _, _ => trivial
  | q :: t, l, hl, ⟨i, hq, hi, hn, ha, hr⟩ => ⟨i, hq, by simp; omega, hn, (above_app hl hi).2 ha, RisF.app t (some i) hi hr⟩
theorem RisF.cutL {d : List Int} {n : Int} : ∀ (p : List Int) (l : Option Nat), InL d l → RisF (d ++ [n]) l p → ∃ q, RisF d l q ∧ p.length ≤ q.length + 1
  | [], _, _, _ => ⟨[], trivial, by simp⟩
  | q :: t, l, hl, ⟨i, hq, hi, hn, ha, hr⟩ => by
    by_cases h : i < d.length
    · obtain ⟨s, h1, h2⟩ := RisF.cutL t (some i) h hr
      exact ⟨q :: s, ⟨i, hq, h, hn, (above_app hl h).1 ha, h1⟩, by simp; omega⟩
    · cases t with
      | nil => exact ⟨[], trivial, by simp⟩
      | cons r s =>
        obtain ⟨j, _, hj, hn2, _, _⟩ := hr
        have : i + 1 ≤ j := hn2
        simp at hj
        omega
theorem RisF.push {d : List Int} {n : Int} (h : ∀ i, i < d.length → atD d i < n) : ∀ (p : List Int) (l : Option Nat), InL d l → RisF d l p → RisF (d ++ [n]) l (p ++ [(d.length : Int)])
  | [], l, hl, _ => ⟨d.length, rfl, by simp, (by cases l with | none => exact Nat.zero_le _ | some p => exact hl), (by cases l with | none => trivial | some p => show atD (d ++ [n]) p < atD (d ++ [n]) d.length; rw [atD_app hl, atD_last]; exact h p hl), trivial⟩
  | q :: t, l, hl, ⟨i, hq, hi, hn, ha, hr⟩ => ⟨i, hq, by simp; omega, hn, (above_app hl hi).2 ha, RisF.push h t (some i) hi hr⟩
theorem lng_more (d : List Int) (n : Int) : lngL (d ++ [n]) = lngL d ∨ lngL (d ++ [n]) = lngL d + 1 := by
  have h1 := ris_ris d
  have h2 := ris_ris (d ++ [n])
  have h3 := (RisF.app (e := [n]) (risL d) none trivial h1.1).long
  obtain ⟨q, h4, h5⟩ := RisF.cutL (risL (d ++ [n])) none trivial h2.1
  have h6 := h4.long
  omega
theorem lng_top {d : List Int} {n : Int} (h : ∀ i, i < d.length → atD d i < n) : lngL (d ++ [n]) = lngL d + 1 := by
  have h1 := ris_ris d
  have h3 := (RisF.push h (risL d) none trivial h1.1).long
  have := lng_more d n
  simp at h3
  omega
/-- A list that rises. -/
theorem up_all {d : List Int} (h : ∀ j, 0 < j → j < d.length → atD d (j - 1) < atD d j) : lngL d = d.length := by
  have hb : ∀ (m i : Nat), i < d.length → d.length - i ≤ m → ((d.length - i : Nat) : Int) ≤ bgA d i := by
    intro m
    induction m with
    | zero => intro i h1 h2; omega
    | succ m ih =>
      intro i h1 h2
      by_cases h3 : i + 1 < d.length
      · have h4 := ih (i + 1) h3 (by omega)
        have h5 := bgA_more h3 (Nat.lt_succ_self i) (by have := h (i + 1) (by omega) h3; simpa using this)
        omega
      · have := bgA_pos h1; omega
  rcases Nat.eq_zero_or_pos d.length with h0 | h0
  · have : d = [] := List.eq_nil_of_length_eq_zero h0
    subst this
    rfl
  · have h1 := hb d.length 0 h0 (by omega)
    have h2 := lngL_ge h0
    rcases Int.lt_or_le 0 (lngL d) with h3 | h3
    · obtain ⟨i, hi, e⟩ := lngL_get h3
      have := bgA_le hi
      omega
    · omega
/-- A list that never rises. -/
theorem down_one {d : List Int} (h0 : 0 < d.length) (h : ∀ j, 0 < j → j < d.length → atD d j ≤ atD d (j - 1)) : risL d = [0] := by
  have hm : ∀ (m i j : Nat), j = i + m → j < d.length → atD d j ≤ atD d i := by
    intro m
    induction m with
    | zero => intro i j e _; subst e; exact Int.le_refl _
    | succ m ih =>
      intro i j e hj
      have h1 := ih i (j - 1) (by omega) (by omega)
      have h2 := h j (by omega) hj
      omega
  have hb : ∀ i, i < d.length → bgA d i = 1 := fun i hi => by
    have h1 := bgA_pos hi
    rcases Int.lt_or_le 1 (bgA d i) with h2 | h2
    · obtain ⟨j, h3, h4, h5, _⟩ := bgA_next hi h2
      have := hm (j - i) i j (by omega) h4
      omega
    · omega
  have hl : lngL d = 1 := by
    have h1 := lngL_ge h0
    rw [hb 0 h0] at h1
    obtain ⟨i, hi, e⟩ := lngL_get (d := d) (by omega)
    rw [hb i hi] at e
    exact e.symm
  rw [← rstL_zero, hl, rstL_yes h0 (hb 0 h0)]
  show _ :: rstL d 1 (1 - 1) = _
  rw [show (1 : Int) - 1 = 0 by omega, rstL_none]
  rfl
/-- Lists in the same order have the same part. -/
theorem ris_same {d e : List Int} (hl : d.length = e.length) (h : ∀ i j, i < d.length → j < d.length → (atD d i < atD d j ↔ atD e i < atD e j)) : risL d = risL e := by
  have hb : ∀ (m i : Nat), i < d.length → d.length - i ≤ m → bgA d i = bgA e i := by
    intro m
    induction m with
    | zero => intro i h1 h2; omega
    | succ m ih =>
      intro i h1 h2
      have p1 := bgA_pos h1
      have p2 := bgA_pos (d := e) (i := i) (by omega)
      apply Int.le_antisymm
      · rcases Int.lt_or_le 1 (bgA d i) with h3 | h3
        · obtain ⟨j, h4, h5, h6, h7⟩ := bgA_next h1 h3
          have := ih j h5 (by omega)
          have := bgA_more (d := e) (by omega) h4 ((h i j h1 h5).1 h6)
          omega
        · omega
      · rcases Int.lt_or_le 1 (bgA e i) with h3 | h3
        · obtain ⟨j, h4, h5, h6, h7⟩ := bgA_next (d := e) (by omega) h3
          have := ih j (by omega) (by omega)
          have := bgA_more (d := d) (by omega) h4 ((h i j h1 (by omega)).2 h6)
          omega
        · omega
  have hall : ∀ i, bgA d i = bgA e i := fun i => by
    by_cases hi : i < d.length
    · exact hb d.length i hi (by omega)
    · rw [bgA_out (by omega), bgA_out (by omega)]
  have hlng : lngL d = lngL e := by
    apply Int.le_antisymm
    · rcases Int.lt_or_le 0 (lngL d) with h0 | h0
      · obtain ⟨i, hi, e1⟩ := lngL_get h0
        have := lngL_ge (d := e) (i := i) (by omega)
        have := hall i
        omega
      · have := lngL_nonneg e; omega
    · rcases Int.lt_or_le 0 (lngL e) with h0 | h0
      · obtain ⟨i, hi, e1⟩ := lngL_get h0
        have := lngL_ge (d := d) (i := i) (by omega)
        have := hall i
        omega
      · have := lngL_nonneg d; omega
  have hp : ∀ (f i : Nat) (left : Int), pick d f i left = pick e f i left := by
    intro f
    induction f with
    | zero => intro i left; rfl
    | succ f ih => intro i left; simp only [pick, hall i, ih]
  unfold risL
  rw [hp, hl, hlng]
/-- Is place k the first that has its number? -/
def fstB (d : List Int) (k : Nat) : Bool := (List.range k).all fun j => decide (atD d j ≠ atD d k)
/-- How many of the first k places have a number below x, each number once. -/
def rk (d : List Int) (x : Int) : Nat → Int
  | 0 => 0
  | k + 1 => if atD d k < x ∧ fstB d k = true then rk d x k + 1 else rk d x k
def rkL (d : List Int) : List Int := d.map fun x => rk d x d.length
theorem rk_mono (d : List Int) {x y : Int} (h : x ≤ y) : ∀ k, rk d x k ≤ rk d y k
  | 0 => Int.le_refl _
  | k + 1 => by
    have := rk_mono d h k
    simp only [rk]
    split
    · rename_i h1; rw [if_pos ⟨by omega, h1.2⟩]; omega
    · split <;> omega
theorem rk_first (d : List Int) (x : Int) : ∀ k, atD d k = x → ∃ j, j ≤ k ∧ atD d j = x ∧ fstB d j = true := by
  intro k
  induction k using Nat.strongRecOn with
  | ind k ih =>
    intro hk
    cases hf : fstB d k with
    | true => exact ⟨k, Nat.le_refl _, hk, hf⟩
    | false =>
      unfold fstB at hf
      rw [List.all_eq_false] at hf
      obtain ⟨j, hj, e⟩ := hf
      have hj' := List.mem_range.1 hj
      have e' : atD d j = atD d k := by simpa using e
      obtain ⟨i, h1, h2, h3⟩ := ih j hj' (by rw [e', hk])
      exact ⟨i, by omega, h2, h3⟩
theorem rk_less (d : List Int) {x y : Int} (h : x < y) {j : Nat} (hj : atD d j = x) (hf : fstB d j = true) : ∀ k, j < k → rk d x k + 1 ≤ rk d y k
  | 0, hk => by omega
  | k + 1, hk => by
    simp only [rk]
    by_cases e : j = k
    · subst e
      have := rk_mono d (Int.le_of_lt h) j
      rw [if_neg (by rw [hj]; omega), if_pos ⟨by rw [hj]; exact h, hf⟩]
      omega
    · have ih := rk_less d h hj hf k (by omega)
      split
      · rename_i h1; rw [if_pos ⟨by omega, h1.2⟩]; omega
      · split <;> omega
theorem rkL_at {d : List Int} {i : Nat} (h : i < d.length) : atD (rkL d) i = rk d (atD d i) d.length := by
  unfold rkL atD
  rw [List.getD_eq_getElem?_getD, List.getElem?_map, List.getElem?_eq_getElem h, List.getD_eq_getElem?_getD, List.getElem?_eq_getElem h]
  rfl
theorem rkL_order {d : List Int} {i j : Nat} (hi : i < d.length) (hj : j < d.length) : atD d i < atD d j ↔ atD (rkL d) i < atD (rkL d) j := by
  rw [rkL_at hi, rkL_at hj]
  constructor
  · intro h
    obtain ⟨m, h1, h2, h3⟩ := rk_first d (atD d i) i rfl
    have := rk_less d h h2 h3 d.length (by omega)
    omega
  · intro h
    rcases Int.lt_or_le (atD d i) (atD d j) with h1 | h1
    · exact h1
    · have := rk_mono d h1 d.length; omega
theorem ris_ranks (d : List Int) : risL d = risL (rkL d) := ris_same (by simp [rkL]) fun i j hi hj => rkL_order hi hj
theorem rk_bound (d : List Int) (x : Int) : ∀ k, 0 ≤ rk d x k ∧ rk d x k ≤ k
  | 0 => by simp [rk]
  | k + 1 => by have := rk_bound d x k; simp only [rk]; split <;> omega

end Go.Proofs.Ytjnccmkhhnaaiaa
