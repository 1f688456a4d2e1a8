/- Plain facts on clocks: lists of numbers, trimmed, merged, held against one another. No program is named here. -/
namespace Go.Proofs.Ythhnglpkfcmjiab

/-- A list without the noughts at its end. -/
def trimL : List Int → List Int
  | [] => []
  | x :: t => if trimL t = [] then (if x = 0 then [] else [x]) else x :: trimL t

theorem trim_nil : trimL [] = [] := rfl
theorem trim_cons (x : Int) (t : List Int) : trimL (x :: t) = if trimL t = [] then (if x = 0 then [] else [x]) else x :: trimL t := rfl

theorem trim_zero (l : List Int) : trimL (l ++ [0]) = trimL l := by
  induction l with
  | nil => rfl
  | cons x t ih => rw [List.cons_append, trim_cons, trim_cons, ih]

theorem trim_keep (l : List Int) (x : Int) (h : x ≠ 0) : trimL (l ++ [x]) = l ++ [x] := by
  induction l with
  | nil => simp [trimL, h]
  | cons y t ih => rw [List.cons_append, trim_cons, ih]; simp

theorem trim_zeros (l : List Int) (n : Nat) : trimL (l ++ List.replicate n 0) = trimL l := by
  induction n with
  | zero => simp
  | succ n ih => rw [List.replicate_succ', ← List.append_assoc, trim_zero, ih]

theorem trim_length (l : List Int) : (trimL l).length ≤ l.length := by
  induction l with
  | nil => simp [trimL]
  | cons x t ih => rw [trim_cons]; split <;> (try split) <;> simp <;> omega

theorem trim_getD (l : List Int) : ∀ k, (trimL l).getD k 0 = l.getD k 0 := by
  induction l with
  | nil => intro k; rfl
  | cons x t ih =>
    intro k
    rw [trim_cons]
    split
    · rename_i h
      have ht : ∀ j, t.getD j 0 = 0 := fun j => by rw [← ih j, h]; rfl
      split
      · rename_i hx
        subst hx
        cases k with
        | zero => rfl
        | succ j => simp only [List.getD_cons_succ, ht j]; rfl
      · cases k with
        | zero => rfl
        | succ j => simp only [List.getD_cons_succ, ht j]; rfl
    · cases k with
      | zero => rfl
      | succ j => simp only [List.getD_cons_succ]; exact ih j

theorem trim_none (l : List Int) (h : ∀ k, l.getD k 0 = 0) : trimL l = [] := by
  induction l with
  | nil => rfl
  | cons x t ih =>
    have hx := h 0
    simp at hx
    rw [trim_cons, if_pos (ih fun k => by simpa using h (k + 1)), if_pos hx]

/-- Lists that say the same are the same when trimmed. -/
theorem trim_ext (a : List Int) : ∀ b : List Int, (∀ k, a.getD k 0 = b.getD k 0) → trimL a = trimL b := by
  induction a with
  | nil => intro b h; rw [trim_none b (fun k => (h k).symm)]; rfl
  | cons x t ih =>
    intro b h
    cases b with
    | nil => rw [trim_none (x :: t) (fun k => by rw [h k]; rfl)]; rfl
    | cons y s =>
      have hx : x = y := by simpa using h 0
      have ht := ih s (fun k => by simpa using h (k + 1))
      rw [trim_cons, trim_cons, hx, ht]

theorem trim_idem (l : List Int) : trimL (trimL l) = trimL l := trim_ext _ _ (trim_getD l)

theorem getD_mem {l : List Int} {k : Nat} (h : k < l.length) : l.getD k 0 ∈ l := by
  rw [List.getD_eq_getElem?_getD, List.getElem?_eq_getElem h]; exact List.getElem_mem h
theorem getD_at {l : List Int} {k : Nat} (h : k < l.length) : l.getD k 0 = l[k] := by
  rw [List.getD_eq_getElem?_getD, List.getElem?_eq_getElem h]; rfl
theorem getD_out {l : List Int} {k : Nat} (h : l.length ≤ k) : l.getD k 0 = 0 := by
  rw [List.getD_eq_getElem?_getD, List.getElem?_eq_none h]; rfl

/-- What is left ahead of the noughts at the end. -/
theorem trim_take (l : List Int) : ∀ e, e ≤ l.length → (∀ i, e ≤ i → l.getD i 0 = 0) → (e = 0 ∨ l.getD (e - 1) 0 ≠ 0) → trimL l = l.take e := by
  intro e he h0 h1
  have hx : trimL l = trimL (l.take e) := by
    apply trim_ext
    intro k
    by_cases hk : k < e
    · simp [List.getD_eq_getElem?_getD, hk]
    · rw [h0 k (by omega)]
      simp [List.getD_eq_getElem?_getD, List.getElem?_take, hk]
  rw [hx]
  rcases h1 with rfl | h1
  · rfl
  · have h2 : e - 1 < l.length := by
      rcases Nat.lt_or_ge (e - 1) l.length with h | h
      · exact h
      · exact absurd (getD_out h) h1
    have h3 : e ≠ 0 := fun h => h1 (by subst h; exact h0 0 (Nat.le_refl _))
    have e1 : l.take e = l.take (e - 1) ++ [l[e - 1]] := by
      conv => lhs; rw [show e = (e - 1) + 1 by omega]
      exact List.take_succ_eq_append_getElem h2
    rw [e1]
    exact trim_keep _ _ (by rw [← getD_at h2]; exact h1)

/-! ### Right clocks -/
def OkC (d : List Int) : Prop := d.length ≤ 64 ∧ ∀ x ∈ d, 0 ≤ x ∧ x ≤ 1099511627776
def inC (x : Int) : Bool := decide (0 ≤ x ∧ x ≤ 1099511627776)
def checkL (d : List Int) : Int := if 64 < d.length then 3 else if d.all inC = true then 0 else 1
theorem checkL_ok (d : List Int) : checkL d = 0 ↔ OkC d := by
  unfold checkL OkC
  by_cases h : 64 < d.length
  · rw [if_pos h]
    constructor
    · intro h2; cases h2
    · intro h2; omega
  · rw [if_neg h]
    by_cases h2 : d.all inC = true
    · rw [if_pos h2]
      refine ⟨fun _ => ⟨by omega, fun x hx => ?_⟩, fun _ => rfl⟩
      have := List.all_eq_true.1 h2 x hx
      simpa [inC] using this
    · rw [if_neg h2]
      refine ⟨fun h3 => absurd h3 (by decide), fun h3 => absurd (List.all_eq_true.2 fun x hx => ?_) h2⟩
      simpa [inC] using h3.2 x hx
theorem checkL_cases (d : List Int) : checkL d = 0 ∨ checkL d = 3 ∨ checkL d = 1 := by
  unfold checkL
  split
  · simp
  · split <;> simp
def twoL (a b : List Int) : Int := if checkL a = 0 then checkL b else checkL a
theorem twoL_ok (a b : List Int) : twoL a b = 0 ↔ OkC a ∧ OkC b := by
  unfold twoL
  split
  · rename_i h; rw [checkL_ok]; exact ⟨fun h2 => ⟨(checkL_ok a).1 h, h2⟩, fun h2 => h2.2⟩
  · rename_i h; exact ⟨fun h2 => absurd h2 h, fun h2 => absurd ((checkL_ok a).2 h2.1) h⟩

theorem OkC.getD {d : List Int} (h : OkC d) (k : Nat) : 0 ≤ d.getD k 0 ∧ d.getD k 0 ≤ 1099511627776 := by
  rcases Nat.lt_or_ge k d.length with hk | hk
  · exact h.2 _ (getD_mem hk)
  · rw [getD_out hk]; omega
theorem okC_of (d : List Int) (h1 : d.length ≤ 64) (h : ∀ k, 0 ≤ d.getD k 0 ∧ d.getD k 0 ≤ 1099511627776) : OkC d := by
  refine ⟨h1, fun x hx => ?_⟩
  obtain ⟨k, hk, rfl⟩ := List.mem_iff_getElem.1 hx
  rw [← getD_at hk]
  exact h k
theorem OkC.trim {d : List Int} (h : OkC d) : OkC (trimL d) := okC_of _ (by have := trim_length d; have := h.1; omega) fun k => by rw [trim_getD]; exact h.getD k

/-! ### The greater numbers -/
def maxTo (a b : List Int) (n : Nat) : List Int := (List.range n).map fun r => max (a.getD r 0) (b.getD r 0)
theorem maxTo_succ (a b : List Int) (n : Nat) : maxTo a b (n + 1) = maxTo a b n ++ [max (a.getD n 0) (b.getD n 0)] := by simp [maxTo, List.range_succ]
theorem maxTo_length (a b : List Int) (n : Nat) : (maxTo a b n).length = n := by simp [maxTo]
theorem maxTo_getD (a b : List Int) (n k : Nat) : (maxTo a b n).getD k 0 = if k < n then max (a.getD k 0) (b.getD k 0) else 0 := by
  by_cases h : k < n
  · simp [maxTo, List.getD_eq_getElem?_getD, h]
  · simp [maxTo, List.getD_eq_getElem?_getD, h]
def mergeL (a b : List Int) : List Int := trimL (maxTo a b (max a.length b.length))
theorem mergeL_getD (a b : List Int) (k : Nat) : (mergeL a b).getD k 0 = max (a.getD k 0) (b.getD k 0) := by
  unfold mergeL
  rw [trim_getD, maxTo_getD]
  split
  · rfl
  · rw [getD_out (l := a) (by omega), getD_out (l := b) (by omega)]; rfl
theorem mergeL_64 {a b : List Int} (ha : a.length ≤ 64) (hb : b.length ≤ 64) : trimL (maxTo a b 64) = mergeL a b := by
  refine (trim_ext _ _ fun k => ?_).trans (trim_idem _)
  show _ = (mergeL a b).getD k 0
  rw [maxTo_getD, mergeL_getD]
  split
  · rfl
  · rw [getD_out (l := a) (by omega), getD_out (l := b) (by omega)]; rfl
theorem mergeL_length (a b : List Int) : (mergeL a b).length ≤ max a.length b.length := by
  unfold mergeL
  have := trim_length (maxTo a b (max a.length b.length))
  rw [maxTo_length] at this
  exact this
theorem OkC.merge {a b : List Int} (ha : OkC a) (hb : OkC b) : OkC (mergeL a b) := okC_of _ (by have := mergeL_length a b; have := ha.1; have := hb.1; omega) fun k => by
  rw [mergeL_getD]
  have := ha.getD k
  have := hb.getD k
  omega
theorem mergeL_trim (a b : List Int) : trimL (mergeL a b) = mergeL a b := trim_idem _
theorem mergeL_ext {a b c d : List Int} (h : ∀ k, max (a.getD k 0) (b.getD k 0) = max (c.getD k 0) (d.getD k 0)) : mergeL a b = mergeL c d := by
  rw [← mergeL_trim a b, ← mergeL_trim c d]
  exact trim_ext _ _ fun k => by rw [mergeL_getD, mergeL_getD, h k]
theorem mergeL_comm (a b : List Int) : mergeL a b = mergeL b a := mergeL_ext fun k => by omega
theorem mergeL_assoc (a b c : List Int) : mergeL (mergeL a b) c = mergeL a (mergeL b c) := mergeL_ext fun k => by rw [mergeL_getD, mergeL_getD]; omega

/-! ### Who is above -/
def underB (a b : List Int) : Bool := (List.range a.length).all fun r => decide (a.getD r 0 ≤ b.getD r 0)
theorem underB_iff (a b : List Int) : underB a b = true ↔ ∀ r, r < a.length → a.getD r 0 ≤ b.getD r 0 := by
  unfold underB
  rw [List.all_eq_true]
  simp
theorem underB_no (a b : List Int) (r : Nat) (h : r < a.length) (h2 : b.getD r 0 < a.getD r 0) : underB a b = false := by
  cases e : underB a b
  · rfl
  · have := (underB_iff a b).1 e r h; omega
theorem under_all {a b : List Int} (hb : OkC b) (h : underB a b = true) (k : Nat) : a.getD k 0 ≤ b.getD k 0 := by
  rcases Nat.lt_or_ge k a.length with hk | hk
  · exact (underB_iff a b).1 h k hk
  · rw [getD_out hk]; exact (hb.getD k).1
def compL (a b : List Int) : Int := if underB a b = true then (if underB b a = true then 0 else 1) else (if underB b a = true then 2 else 3)

/-! ### Gaps -/
def gapAt (a b : List Int) (r : Nat) : List (Int × Int × Int) := if b.getD r 0 < a.getD r 0 then [((r : Int), b.getD r 0 + 1, a.getD r 0)] else []
def gapsTo (a b : List Int) (n : Nat) : List (Int × Int × Int) := (List.range n).flatMap (gapAt a b)
def gapsL (a b : List Int) : List (Int × Int × Int) := gapsTo a b a.length
theorem gapsTo_succ (a b : List Int) (n : Nat) : gapsTo a b (n + 1) = gapsTo a b n ++ gapAt a b n := by simp [gapsTo, List.range_succ]
theorem gapsTo_zero (a b : List Int) : gapsTo a b 0 = [] := rfl
theorem gapAt_length (a b : List Int) (n : Nat) : (gapAt a b n).length ≤ 1 := by unfold gapAt; split <;> simp
theorem gapsTo_length (a b : List Int) (n : Nat) : (gapsTo a b n).length ≤ n := by
  induction n with
  | zero => simp [gapsTo]
  | succ n ih => rw [gapsTo_succ, List.length_append]; have := gapAt_length a b n; omega
theorem gaps_none (a b : List Int) : gapsL a b = [] ↔ underB a b = true := by
  rw [underB_iff]
  unfold gapsL gapsTo
  rw [List.flatMap_eq_nil_iff]
  constructor
  · intro h r hr
    have := h r (by simpa using hr)
    unfold gapAt at this
    split at this
    · cases this
    · omega
  · intro h r hr
    have := h r (by simpa using hr)
    unfold gapAt
    rw [if_neg (by omega)]

/-! ### One more -/
def tickTo (d : List Int) (r n : Nat) : List Int := (List.range n).map fun i => if i = r then d.getD i 0 + 1 else d.getD i 0
theorem tickTo_succ (d : List Int) (r n : Nat) : tickTo d r (n + 1) = tickTo d r n ++ [if n = r then d.getD n 0 + 1 else d.getD n 0] := by simp [tickTo, List.range_succ]
theorem tickTo_length (d : List Int) (r n : Nat) : (tickTo d r n).length = n := by simp [tickTo]
theorem tickTo_getD (d : List Int) (r n k : Nat) : (tickTo d r n).getD k 0 = if k < n then (if k = r then d.getD k 0 + 1 else d.getD k 0) else 0 := by
  by_cases h : k < n
  · simp [tickTo, List.getD_eq_getElem?_getD, h]
  · simp [tickTo, List.getD_eq_getElem?_getD, h]
def tickL (d : List Int) (r : Nat) : List Int := trimL (tickTo d r (max d.length (r + 1)))
theorem tickL_64 {d : List Int} {r : Nat} (hd : d.length ≤ 64) (hr : r < 64) : trimL (tickTo d r 64) = tickL d r := by
  unfold tickL
  refine trim_ext _ _ fun k => ?_
  rw [tickTo_getD, tickTo_getD]
  by_cases h : k < max d.length (r + 1)
  · rw [if_pos (by omega), if_pos h]
  · rw [if_neg h]
    split
    · rw [if_neg (by omega), getD_out (by omega)]
    · rfl

end Go.Proofs.Ythhnglpkfcmjiab
