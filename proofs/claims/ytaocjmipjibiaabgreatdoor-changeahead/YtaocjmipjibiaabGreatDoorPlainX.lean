/- Plain facts on texts of clocks: numerals with commas between. No program is named here. -/
import Derived.Test.YtaocjmipjibiaabGreatDoorPlainT
import Derived.Test.YtaocjmipjibiaabGreatDoorPlainC
import Derived.Lib.Join
namespace Go.Proofs.YtaocjmipjibiaabGreatDoor
open Go.Lib

/-! ### Numerals of all numbers -/
theorem itoa_neg (n : Int) (h : n < 0) : itoa n = 45 :: decDigits (-n).toNat := by
  unfold itoa
  rw [if_pos h]
  congr 2
  omega
theorem itoa_ne (n : Int) : itoa n ≠ [] := by
  by_cases h : n < 0
  · rw [itoa_neg n h]; simp
  · rw [itoa_nat n (by omega)]; exact decDigits_ne _
theorem itoa_signs (n : Int) : ∀ c ∈ itoa n, c = 45 ∨ isDig c := by
  intro c hc
  by_cases h : n < 0
  · rw [itoa_neg n h] at hc
    rcases List.mem_cons.1 hc with rfl | hc
    · exact .inl rfl
    · exact .inr (decDigits_dig _ c hc)
  · rw [itoa_nat n (by omega)] at hc
    exact .inr (decDigits_dig _ c hc)
theorem no_comma (n : Int) : (44 : UInt8) ∉ itoa n := fun h => by
  rcases itoa_signs n 44 h with h | h
  · cases h
  · unfold isDig at h; simp at h
theorem itoa_injZ {a b : Int} (h : itoa a = itoa b) : a = b := by
  have hne : ∀ (n : Int) (u : Nat), 0 ≤ n → itoa n ≠ 45 :: decDigits u := fun n u hn e => by
    have : (45 : UInt8) ∈ itoa n := by rw [e]; simp
    rw [itoa_nat n hn] at this
    have := decDigits_dig _ _ this
    unfold isDig at this
    simp at this
  by_cases ha : a < 0
  · by_cases hb : b < 0
    · rw [itoa_neg a ha, itoa_neg b hb] at h
      have := decDigits_inj (List.cons.inj h).2
      omega
    · rw [itoa_neg a ha] at h
      exact absurd h.symm (hne b _ (by omega))
  · by_cases hb : b < 0
    · rw [itoa_neg b hb] at h
      exact absurd h (hne a _ (by omega))
    · exact itoa_inj (by omega) (by omega) h

/-! ### Lists of numerals -/
def commaL (d : List Int) : List UInt8 := join (d.map itoa) [44]
def preL (d : List Int) : List UInt8 := (d.map fun x => itoa x ++ [44]).flatten
theorem preL_snoc (d : List Int) (x : Int) : preL (d ++ [x]) = preL d ++ itoa x ++ [44] := by simp [preL]
theorem preL_cons (x : Int) (d : List Int) : preL (x :: d) = itoa x ++ 44 :: preL d := by simp [preL]
theorem commaL_nil : commaL [] = [] := rfl
theorem commaL_one (x : Int) : commaL [x] = itoa x := by simp [commaL, join_one]
theorem commaL_cons (x y : Int) (d : List Int) : commaL (x :: y :: d) = itoa x ++ 44 :: commaL (y :: d) := by
  simp only [commaL, List.map_cons, join_cons, joinTail, List.map_cons, List.flatten_cons, List.cons_append, List.nil_append]
theorem commaL_snoc (d : List Int) (x : Int) : commaL (d ++ [x]) = preL d ++ itoa x := by
  induction d with
  | nil => simp [commaL_one, preL]
  | cons y r ih =>
    match hr : r ++ [x], (by simp : r ++ [x] ≠ []) with
    | z :: t, _ =>
      rw [List.cons_append, hr, commaL_cons, ← hr, ih, preL_cons]
      simp
theorem commaL_more (d : List Int) (x : Int) (h : d ≠ []) : commaL (d ++ [x]) = commaL d ++ 44 :: itoa x := by
  obtain ⟨e, y, rfl⟩ : ∃ e y, d = e ++ [y] := ⟨d.dropLast, d.getLast h, (List.dropLast_concat_getLast _).symm⟩
  rw [commaL_snoc, commaL_snoc, preL_snoc]
  simp
theorem commaL_ne {d : List Int} (h : d ≠ []) : commaL d ≠ [] := by
  obtain ⟨e, y, rfl⟩ : ∃ e y, d = e ++ [y] := ⟨d.dropLast, d.getLast h, (List.dropLast_concat_getLast _).symm⟩
  rw [commaL_snoc]
  intro h2
  exact itoa_ne y (List.append_eq_nil_iff.1 h2).2
theorem preL_length (d : List Int) (h : ∀ x ∈ d, -9223372036854775808 ≤ x ∧ x ≤ 9223372036854775807) : (preL d).length ≤ d.length * 22 := by
  induction d with
  | nil => simp [preL]
  | cons x r ih =>
    have h1 := ih (fun y hy => h y (by simp [hy]))
    have h2 := h x (by simp)
    have h3 := itoa_length_le x h2.1 h2.2
    rw [preL_cons]
    simp
    omega
theorem commaL_length (d : List Int) (h : ∀ x ∈ d, -9223372036854775808 ≤ x ∧ x ≤ 9223372036854775807) : (commaL d).length ≤ d.length * 22 := by
  by_cases hd : d = []
  · subst hd; simp [commaL_nil]
  · obtain ⟨e, y, rfl⟩ : ∃ e y, d = e ++ [y] := ⟨d.dropLast, d.getLast hd, (List.dropLast_concat_getLast _).symm⟩
    rw [commaL_snoc]
    have h1 := preL_length e (fun x hx => h x (by simp [hx]))
    have h2 := h y (by simp)
    have h3 := itoa_length_le y h2.1 h2.2
    simp
    omega

theorem cut_comma : ∀ (a b a2 b2 : List UInt8), (44 : UInt8) ∉ a → (44 : UInt8) ∉ a2 → a ++ 44 :: b = a2 ++ 44 :: b2 → a = a2 ∧ b = b2 := by
  intro a
  induction a with
  | nil =>
    intro b a2 b2 _ h2 e
    match a2 with
    | [] => simp at e; exact ⟨rfl, e⟩
    | x :: y => simp at e; simp [e.1] at h2
  | cons x y ih =>
    intro b a2 b2 h1 h2 e
    match a2 with
    | [] => simp at e; simp [e.1] at h1
    | x2 :: y2 =>
      simp at e h1 h2
      obtain ⟨rfl, e⟩ := e
      obtain ⟨e1, e2⟩ := ih b y2 b2 h1.2 h2.2 e
      exact ⟨by rw [e1], e2⟩
theorem comma_ne {a b c : List UInt8} (h : (44 : UInt8) ∉ c) : a ++ 44 :: b ≠ c := fun e => h (by rw [← e]; simp)

/-- What is ahead of a rest that was read tells the list's beginning. -/
theorem pre_split : ∀ (out d : List Int) (s : List UInt8), preL out ++ s = commaL d → d ≠ [] → ∃ d', d = out ++ d' ∧ d' ≠ [] ∧ s = commaL d' := by
  intro out
  induction out with
  | nil => intro d s e hd; exact ⟨d, rfl, hd, by simpa [preL] using e⟩
  | cons x r ih =>
    intro d s e hd
    rw [preL_cons, List.append_assoc, List.cons_append] at e
    match d, hd with
    | [y], _ =>
      rw [commaL_one] at e
      exact absurd e (comma_ne (no_comma y))
    | y :: z :: t, _ =>
      rw [commaL_cons] at e
      obtain ⟨e1, e2⟩ := cut_comma _ _ _ _ (no_comma x) (no_comma y) e
      obtain ⟨d', e3, h3, e4⟩ := ih (z :: t) s e2 (by simp)
      exact ⟨d', by rw [itoa_injZ e1, e3]; rfl, h3, e4⟩
theorem commaL_inj {a b : List Int} (ha : a ≠ []) (hb : b ≠ []) (h : commaL a = commaL b) : a = b := by
  obtain ⟨e, y, rfl⟩ : ∃ e y, a = e ++ [y] := ⟨a.dropLast, a.getLast ha, (List.dropLast_concat_getLast _).symm⟩
  rw [commaL_snoc] at h
  obtain ⟨d', e1, h1, e2⟩ := pre_split e b (itoa y) h hb
  match d', h1 with
  | [z], _ => rw [commaL_one] at e2; rw [e1, itoa_injZ e2]
  | z :: z2 :: t, _ => rw [commaL_cons] at e2; exact absurd e2.symm (comma_ne (no_comma y))
/-- The first word of a list's text. -/
theorem word_of {d : List Int} {s1 s2 : List UInt8} (hd : d ≠ []) (h : (44 : UInt8) ∉ s1) (e : s1 ++ 44 :: s2 = commaL d) : ∃ x r, d = x :: r ∧ s1 = itoa x := by
  match d, hd with
  | [y], _ => rw [commaL_one] at e; exact absurd e (comma_ne (no_comma y))
  | y :: z :: t, _ =>
    rw [commaL_cons] at e
    exact ⟨y, z :: t, rfl, (cut_comma _ _ _ _ h (no_comma y) e).1⟩
theorem word_last {d : List Int} {s : List UInt8} (hd : d ≠ []) (h : (44 : UInt8) ∉ s) (e : s = commaL d) : ∃ x, d = [x] ∧ s = itoa x := by
  match d, hd with
  | [y], _ => exact ⟨y, rfl, by rw [e, commaL_one]⟩
  | y :: z :: t, _ => rw [commaL_cons] at e; exact absurd e.symm (comma_ne h)

/-! ### The clock of a text -/
def GoodC (d : List Int) : Prop := d ≠ [] ∧ OkC d ∧ d.getD (d.length - 1) 0 ≠ 0
def ParseC (l : List UInt8) (d : List Int) (e : Int) : Prop :=
  (l = [45] ∧ d = [] ∧ e = 0) ∨ (GoodC d ∧ l = commaL d ∧ e = 0) ∨ ((l ≠ [45] ∧ ∀ d', GoodC d' → l ≠ commaL d') ∧ d = [] ∧ e = 2)
theorem commaL_hyphen {d : List Int} (h : GoodC d) : commaL d ≠ [45] := fun e => by
  obtain ⟨h1, h2, _⟩ := h
  match d, h1 with
  | [y], _ =>
    rw [commaL_one, itoa_nat y (h2.2 y (by simp)).1] at e
    have := decDigits_dig y.toNat 45 (by rw [e]; simp)
    unfold isDig at this
    simp at this
  | y :: z :: t, _ =>
    rw [commaL_cons] at e
    exact absurd e (comma_ne (by simp))
theorem ParseC.unique {l : List UInt8} {d d2 : List Int} {e e2 : Int} (h : ParseC l d e) (h2 : ParseC l d2 e2) : d = d2 ∧ e = e2 := by
  rcases h with ⟨h, rfl, rfl⟩ | ⟨g, h, rfl⟩ | ⟨⟨n1, n2⟩, rfl, rfl⟩ <;> rcases h2 with ⟨k, rfl, rfl⟩ | ⟨g2, k, rfl⟩ | ⟨⟨m1, m2⟩, rfl, rfl⟩
  · exact ⟨rfl, rfl⟩
  · exact absurd (k.symm.trans h) (commaL_hyphen g2)
  · exact absurd h m1
  · exact absurd (h.symm.trans k) (commaL_hyphen g)
  · exact ⟨commaL_inj g.1 g2.1 (h.symm.trans k), rfl⟩
  · exact absurd h (m2 d g)
  · exact absurd k n1
  · exact absurd k (n2 d2 g2)
  · exact ⟨rfl, rfl⟩

/-- What reading the numbers tells. -/
def NumsIs (l : List UInt8) (out : List Int) (b : Bool) : Prop :=
  (b = true → out ≠ [] ∧ out.length ≤ 64 ∧ l = commaL out) ∧ (b = false → out = [] ∧ ∀ d, d ≠ [] → OkC d → l ≠ commaL d)

/-! ### A clock's text -/
def textC (d : List Int) : List UInt8 := if checkL d = 0 then (if trimL d = [] then [45] else commaL (trimL d)) else []
theorem textC_no {d : List Int} (h : checkL d ≠ 0) : textC d = [] := by unfold textC; rw [if_neg h]
theorem textC_none {d : List Int} (h : checkL d = 0) (h2 : trimL d = []) : textC d = [45] := by unfold textC; rw [if_pos h, if_pos h2]
theorem textC_some {d : List Int} (h : checkL d = 0) (h2 : trimL d ≠ []) : textC d = commaL (trimL d) := by unfold textC; rw [if_pos h, if_neg h2]
theorem trim_last (d : List Int) (h : trimL d ≠ []) : (trimL d).getD ((trimL d).length - 1) 0 ≠ 0 := by
  intro h0
  obtain ⟨e, y, he⟩ : ∃ e y, trimL d = e ++ [y] := ⟨(trimL d).dropLast, (trimL d).getLast h, (List.dropLast_concat_getLast _).symm⟩
  have h1 := trim_idem d
  rw [he] at h0 h1
  simp at h0
  subst h0
  rw [trim_zero] at h1
  have := congrArg List.length h1
  have h2 := trim_length e
  simp at this
  omega
theorem parse_textC {d : List Int} (h : checkL d = 0) : ParseC (textC d) (trimL d) 0 := by
  by_cases h2 : trimL d = []
  · rw [textC_none h h2, h2]; exact .inl ⟨rfl, rfl, rfl⟩
  · rw [textC_some h h2]
    exact .inr (.inl ⟨⟨h2, ((checkL_ok d).1 h).trim, trim_last d h2⟩, rfl, rfl⟩)
theorem textC_len (d : List Int) : (textC d).length ≤ 1408 := by
  by_cases h : checkL d = 0
  · by_cases h2 : trimL d = []
    · rw [textC_none h h2]; simp
    · rw [textC_some h h2]
      have hk := ((checkL_ok d).1 h).trim
      have := commaL_length (trimL d) (fun x hx => by have := hk.2 x hx; omega)
      have := hk.1
      omega
  · rw [textC_no h]; simp

end Go.Proofs.YtaocjmipjibiaabGreatDoor
