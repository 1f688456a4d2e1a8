/- A quoted text at the head of a text; the words of a text between its first blanks. -/
import Derived.Test.YtaocjmipjibiaaaGreatDoorPlainQ
namespace Go.Proofs.YtaocjmipjibiaaaGreatDoor
set_option linter.unusedVariables false

/-- What Unquoted tells of a text, from its first place on. -/
def UnqdIs (l t : List UInt8) (n : Nat) (b : Bool) : Prop := (b = true ∧ n = (quoteL t).length ∧ ∃ r, l = quoteL t ++ r) ∨ (b = false ∧ t = [] ∧ n = 0 ∧ ∀ u r, l ≠ quoteL u ++ r)
theorem body_split2 : ∀ (t u r rest : List UInt8), bodyL t ++ rest = bodyL u ++ 34 :: r → ∃ v, u = t ++ v ∧ rest = bodyL v ++ 34 :: r := by
  intro t
  induction t with
  | nil => intro u r rest h; exact ⟨u, rfl, by simpa [bodyL_nil] using h⟩
  | cons b t ih =>
    intro u r rest h
    cases u with
    | nil =>
      exfalso
      rw [bodyL_cons, bodyL_nil, List.nil_append, List.append_assoc] at h
      cases he : escL b with
      | nil => exact escL_ne b he
      | cons x y =>
        rw [he] at h
        simp only [List.cons_append, List.cons.injEq] at h
        have := escL_mark b
        rw [he, h.1] at this
        simp at this
    | cons c u =>
      rw [bodyL_cons, bodyL_cons, List.append_assoc, List.append_assoc] at h
      obtain ⟨rfl, h2⟩ := escL_head h
      obtain ⟨v, rfl, e⟩ := ih u r rest h2
      exact ⟨v, rfl, e⟩
theorem quoteL_app {u r : List UInt8} : quoteL u ++ r = 34 :: (bodyL u ++ 34 :: r) := by simp [quoteL]
theorem unqd_none {l : List UInt8} (h : l = []) : UnqdIs l [] 0 false := .inr ⟨rfl, rfl, rfl, fun u r e => by rw [h, quoteL_app] at e; cases e⟩
theorem unqd_head {x : UInt8} {l : List UInt8} (h : x ≠ 34) : UnqdIs (x :: l) [] 0 false := .inr ⟨rfl, rfl, rfl, fun u r e => by rw [quoteL_app] at e; simp only [List.cons.injEq] at e; exact h e.1⟩
theorem unqd_end {out : List UInt8} : UnqdIs (34 :: (bodyL out ++ [])) [] 0 false := .inr ⟨rfl, rfl, rfl, fun u r e => by
  rw [quoteL_app] at e
  simp only [List.cons.injEq, true_and] at e
  obtain ⟨v, _, e2⟩ := body_split2 out u r [] e
  have := congrArg List.length e2
  simp at this⟩
theorem unqd_bad {out rest : List UInt8} {b : UInt8} {x : UInt8} {t : List UInt8} (hx : rest = x :: t) (h34 : x ≠ 34) (h : ByteIs rest b 0) : UnqdIs (34 :: (bodyL out ++ rest)) [] 0 false := .inr ⟨rfl, rfl, rfl, fun u r e => by
  rw [quoteL_app] at e
  simp only [List.cons.injEq, true_and] at e
  obtain ⟨v, _, e2⟩ := body_split2 out u r rest e
  cases v with
  | nil => rw [hx, bodyL_nil, List.nil_append] at e2; simp only [List.cons.injEq] at e2; exact h34 e2.1
  | cons c v =>
    rw [bodyL_cons, List.append_assoc] at e2
    rcases h with ⟨_, h⟩ | ⟨h, _⟩
    · exact h _ _ e2
    · have := (escL_len b).1; omega⟩
theorem unqd_good {out r : List UInt8} : UnqdIs (34 :: (bodyL out ++ 34 :: r)) out ((bodyL out).length + 2) true := .inl ⟨rfl, (quoteL_len _).symm, r, quoteL_app.symm⟩
theorem UnqdIs.bad {l t : List UInt8} {n : Nat} (h : UnqdIs l t n false) : UnqIs l [] false := by
  rcases h with ⟨h, _⟩ | ⟨_, _, _, h⟩
  · cases h
  · exact .inr ⟨rfl, rfl, fun u e => h u [] (by rw [List.append_nil]; exact e)⟩
theorem UnqdIs.good {l t : List UInt8} {n : Nat} (h : UnqdIs l t n true) (hn : n = l.length) : UnqIs l t true := by
  rcases h with ⟨_, h, r, e⟩ | ⟨h, _⟩
  · refine .inl ⟨rfl, ?_⟩
    have := congrArg List.length e
    rw [List.length_append] at this
    have hr : r = [] := List.eq_nil_of_length_eq_zero (by omega)
    rw [e, hr, List.append_nil]
  · cases h
theorem UnqdIs.more {l t : List UInt8} {n : Nat} (h : UnqdIs l t n true) (hn : n ≠ l.length) : UnqIs l [] false := by
  rcases h with ⟨_, h, r, e⟩ | ⟨h, _⟩
  · refine .inr ⟨rfl, rfl, fun u e2 => ?_⟩
    apply hn
    rw [e, quoteL_app] at e2
    unfold quoteL at e2
    simp only [List.cons.injEq, true_and] at e2
    obtain ⟨v, _, e3⟩ := body_split2 t u [] (34 :: r) e2
    have hv : v = [] := by
      cases v with
      | nil => rfl
      | cons c v =>
        exfalso
        rw [bodyL_cons, List.append_assoc] at e3
        cases he : escL c with
        | nil => exact escL_ne c he
        | cons x y =>
          rw [he] at e3
          simp only [List.cons_append, List.cons.injEq] at e3
          have := escL_mark c
          rw [he, e3.1] at this
          simp at this
    rw [hv, bodyL_nil, List.nil_append] at e3
    simp only [List.cons.injEq, true_and] at e3
    rw [h, e, e3, List.append_nil]
  · cases h
theorem UnqdIs.len {l t : List UInt8} {n : Nat} {b : Bool} (h : UnqdIs l t n b) : n ≤ l.length := by
  rcases h with ⟨_, h, r, e⟩ | ⟨_, _, h, _⟩
  · rw [h, e, List.length_append]; omega
  · omega

/-- The words between a text's first k blanks; the last one is the rest. -/
def wordsL : Nat → List UInt8 → List (List UInt8)
  | 0, l => [l]
  | k + 1, l => if (32 : UInt8) ∈ l then hdW l :: wordsL k (tlW l) else [l]
def tlN : Nat → List UInt8 → List UInt8
  | 0, l => l
  | k + 1, l => tlN k (tlW l)
theorem tlN_nil (k : Nat) : tlN k [] = [] := by
  induction k with
  | zero => rfl
  | succ k ih => show tlN k (tlW []) = []; exact ih
theorem words_at : ∀ (k : Nat) (l : List UInt8) (i : Nat), (wordsL k l).getD i [] = if i < k then hdW (tlN i l) else if i = k then tlN k l else [] := by
  intro k
  induction k with
  | zero =>
    intro l i
    cases i with
    | zero => rfl
    | succ i => simp [wordsL]
  | succ k ih =>
    intro l i
    unfold wordsL
    by_cases h : (32 : UInt8) ∈ l
    · rw [if_pos h]
      cases i with
      | zero => rw [if_pos (by omega)]; rfl
      | succ i =>
        rw [List.getD_cons_succ, ih]
        by_cases h1 : i < k
        · rw [if_pos h1, if_pos (show i + 1 < k + 1 by omega)]; rfl
        · by_cases h2 : i = k
          · subst h2; rw [if_neg h1, if_pos rfl, if_neg (show ¬ i + 1 < i + 1 by omega), if_pos rfl]; rfl
          · rw [if_neg h1, if_neg h2, if_neg (show ¬ i + 1 < k + 1 by omega), if_neg (show ¬ i + 1 = k + 1 by omega)]
    · rw [if_neg h]
      cases i with
      | zero => rw [if_pos (by omega)]; show l = hdW l; rw [hdW_no h]
      | succ i =>
        have e : tlN (i + 1) l = [] := by show tlN i (tlW l) = []; rw [tlW_no h, tlN_nil]
        have e2 : tlN (k + 1) l = [] := by show tlN k (tlW l) = []; rw [tlW_no h, tlN_nil]
        rw [e, e2]
        simp [hdW]
theorem wordsL_len : ∀ (k : Nat) (l : List UInt8), (wordsL k l).length ≤ k + 1 := by
  intro k
  induction k with
  | zero => intro l; simp [wordsL]
  | succ k ih =>
    intro l
    unfold wordsL
    split
    · rw [List.length_cons]; have := ih (tlW l); omega
    · simp

theorem words_no {k : Nat} {l : List UInt8} (h : (32 : UInt8) ∉ l) : wordsL k l = [l] := by
  cases k with
  | zero => rfl
  | succ k => unfold wordsL; rw [if_neg h]
theorem words_cut {k : Nat} {a b : List UInt8} (h : (32 : UInt8) ∉ a) : wordsL (k + 1) (a ++ 32 :: b) = a :: wordsL k b := by
  show (if (32 : UInt8) ∈ a ++ 32 :: b then _ else _) = _
  rw [if_pos (by simp), hdW_at h, tlW_at h]

/-- How far the words are cut: these are, from place f on to k no blank stands. -/
def CutTo (m : Nat) (L : List UInt8) (W : List (List UInt8)) (f k : Nat) : Prop :=
  f ≤ k ∧ k ≤ L.length ∧ W.length ≤ m ∧ wordsL m L = W ++ wordsL (m - W.length) (L.drop f) ∧ (32 : UInt8) ∉ (L.drop f).take (k - f)
theorem cutTo_start (m : Nat) (L : List UInt8) : CutTo m L [] 0 0 := ⟨Nat.le_refl _, Nat.zero_le _, Nat.zero_le _, by simp, by simp⟩
theorem cutTo_on {m : Nat} {L : List UInt8} {W : List (List UInt8)} {f k : Nat} (h : CutTo m L W f k) (hk : k < L.length) (hc : L[k] ≠ 32) : CutTo m L W f (k + 1) := by
  obtain ⟨h1, h2, h3, h4, h5⟩ := h
  refine ⟨by omega, by omega, h3, h4, ?_⟩
  rw [show k + 1 - f = (k - f) + 1 by omega, List.take_succ_eq_append_getElem (by rw [List.length_drop]; omega), List.mem_append, List.mem_singleton, not_or]
  refine ⟨h5, ?_⟩
  rw [List.getElem_drop]
  intro e
  exact hc (by rw [e]; congr 1; omega)
theorem cutTo_cut {m : Nat} {L : List UInt8} {W : List (List UInt8)} {f k : Nat} (h : CutTo m L W f k) (hk : k < L.length) (hc : L[k] = 32) (hm : W.length < m) : CutTo m L (W ++ [(L.drop f).take (k - f)]) (k + 1) (k + 1) := by
  obtain ⟨h1, h2, h3, h4, h5⟩ := h
  have hd : L.drop f = (L.drop f).take (k - f) ++ 32 :: L.drop (k + 1) := by
    conv => lhs; rw [← List.take_append_drop (k - f) (L.drop f)]
    congr 1
    rw [List.drop_drop, show f + (k - f) = k by omega, List.drop_eq_getElem_cons hk, hc]
  refine ⟨Nat.le_refl _, by omega, by simp; omega, ?_, by simp⟩
  have e2 : m - (W ++ [(L.drop f).take (k - f)]).length = m - W.length - 1 := by simp; omega
  have e1 : m - W.length = (m - W.length - 1) + 1 := by omega
  rw [h4, e2, e1]
  generalize hA : (L.drop f).take (k - f) = A at *
  rw [hd, words_cut h5, List.append_assoc]
  rfl
theorem cutTo_end {m : Nat} {L : List UInt8} {W : List (List UInt8)} {f k : Nat} (h : CutTo m L W f k) (he : k = L.length ∨ W.length = m) : wordsL m L = W ++ [L.drop f] := by
  obtain ⟨h1, h2, h3, h4, h5⟩ := h
  rw [h4]
  congr 1
  rcases he with he | he
  · exact words_no (by rwa [List.take_of_length_le (by rw [List.length_drop]; omega)] at h5)
  · rw [he, Nat.sub_self]; rfl

end Go.Proofs.YtaocjmipjibiaaaGreatDoor
