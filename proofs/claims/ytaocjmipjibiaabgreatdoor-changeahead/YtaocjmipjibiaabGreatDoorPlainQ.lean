/- Quoted texts, names and words as plain lists of bytes: a quoted text is one text's alone; the word ahead of the first blank, and what stands behind it. -/
import Derived.Test.YtaocjmipjibiaabGreatDoorPlainX
namespace Go.Proofs.YtaocjmipjibiaabGreatDoor
set_option linter.unusedVariables false

/-- Does a byte stand for itself in a quoted text? -/
def plainB (b : UInt8) : Bool := decide (32 ≤ b.toNat ∧ b.toNat ≤ 126 ∧ b.toNat ≠ 34 ∧ b.toNat ≠ 92)
/-- A digit of base 16. -/
def hexC (n : Nat) : UInt8 := if n < 10 then UInt8.ofNat (48 + n) else UInt8.ofNat (87 + n)
/-- The number of a digit of base 16; 16: it is none. -/
def hexV (b : UInt8) : Nat := if 48 ≤ b.toNat ∧ b.toNat ≤ 57 then b.toNat - 48 else if 97 ≤ b.toNat ∧ b.toNat ≤ 102 then b.toNat - 87 else 16
theorem hexV_C (n : Nat) (h : n < 16) : hexV (hexC n) = n := by
  have : ∀ n : Fin 16, hexV (hexC n.1) = n.1 := by decide
  exact this ⟨n, h⟩
theorem hexC_V (b : UInt8) (h : hexV b < 16) : hexC (hexV b) = b := by
  unfold hexV at h ⊢
  split at h
  · rename_i g
    rw [if_pos g]
    unfold hexC
    rw [if_pos (by omega)]
    apply UInt8.toNat_inj.1
    rw [UInt8.toNat_ofNat', Nat.mod_eq_of_lt (by omega)]
    omega
  · rename_i g
    rw [if_neg g]
    split at h
    · rename_i g2
      rw [if_pos g2]
      unfold hexC
      rw [if_neg (by omega)]
      apply UInt8.toNat_inj.1
      rw [UInt8.toNat_ofNat', Nat.mod_eq_of_lt (by omega)]
      omega
    · omega
theorem hexV_le (b : UInt8) : hexV b ≤ 16 := by unfold hexV; split <;> (try split) <;> omega
theorem hexC_inj {a b : Nat} (ha : a < 16) (hb : b < 16) (h : hexC a = hexC b) : a = b := by rw [← hexV_C a ha, h, hexV_C b hb]

/-- A byte as it stands in a quoted text. -/
def escL (b : UInt8) : List UInt8 := if plainB b = true then [b] else [92, hexC (b.toNat / 16), hexC (b.toNat % 16)]
def bodyL (t : List UInt8) : List UInt8 := (t.map escL).flatten
def quoteL (t : List UInt8) : List UInt8 := 34 :: (bodyL t ++ [34])
theorem bodyL_nil : bodyL [] = [] := rfl
theorem bodyL_cons (b : UInt8) (t : List UInt8) : bodyL (b :: t) = escL b ++ bodyL t := by simp [bodyL]
theorem bodyL_snoc (t : List UInt8) (b : UInt8) : bodyL (t ++ [b]) = bodyL t ++ escL b := by simp [bodyL]
theorem bodyL_app (t u : List UInt8) : bodyL (t ++ u) = bodyL t ++ bodyL u := by simp [bodyL]
theorem escL_plain {b : UInt8} (h : plainB b = true) : escL b = [b] := by unfold escL; rw [if_pos h]
theorem escL_not {b : UInt8} (h : plainB b = false) : escL b = [92, hexC (b.toNat / 16), hexC (b.toNat % 16)] := by unfold escL; rw [if_neg (by simp [h])]
theorem plain92 : plainB 92 = false := by decide
theorem plain34 : plainB 34 = false := by decide
theorem escL_len (b : UInt8) : 1 ≤ (escL b).length ∧ (escL b).length ≤ 3 := by unfold escL; split <;> simp
theorem escL_ne (b : UInt8) : escL b ≠ [] := fun h => by have := (escL_len b).1; rw [h] at this; simp at this
theorem bodyL_len (t : List UInt8) : t.length ≤ (bodyL t).length ∧ (bodyL t).length ≤ 3 * t.length := by
  induction t with
  | nil => simp [bodyL]
  | cons b t ih => rw [bodyL_cons, List.length_append, List.length_cons]; have := escL_len b; omega
theorem quoteL_len (t : List UInt8) : (quoteL t).length = (bodyL t).length + 2 := by simp [quoteL]
theorem byte_hex {a b : UInt8} (h1 : hexC (a.toNat / 16) = hexC (b.toNat / 16)) (h2 : hexC (a.toNat % 16) = hexC (b.toNat % 16)) : a = b := by
  have ha := a.toNat_lt
  have hb := b.toNat_lt
  have e1 := hexC_inj (by omega) (by omega) h1
  have e2 := hexC_inj (by omega) (by omega) h2
  exact UInt8.toNat_inj.1 (by omega)
theorem escL_head {a b : UInt8} {r s : List UInt8} (h : escL a ++ r = escL b ++ s) : a = b ∧ r = s := by
  cases ha : plainB a <;> cases hb : plainB b
  · rw [escL_not ha, escL_not hb] at h
    simp only [List.cons_append, List.nil_append, List.cons.injEq, true_and] at h
    exact ⟨byte_hex h.1 h.2.1, h.2.2⟩
  · rw [escL_not ha, escL_plain hb] at h
    simp only [List.cons_append, List.nil_append, List.cons.injEq] at h
    rw [← h.1, plain92] at hb; cases hb
  · rw [escL_plain ha, escL_not hb] at h
    simp only [List.cons_append, List.nil_append, List.cons.injEq] at h
    rw [h.1, plain92] at ha; cases ha
  · rw [escL_plain ha, escL_plain hb] at h
    simp only [List.cons_append, List.nil_append, List.cons.injEq] at h
    exact h
/-- What is read of a body so far is the head of whatever text the body is. -/
theorem body_split : ∀ (t u r : List UInt8), bodyL t ++ r = bodyL u → ∃ v, u = t ++ v ∧ r = bodyL v := by
  intro t
  induction t with
  | nil => intro u r h; exact ⟨u, rfl, by simpa [bodyL_nil] using h⟩
  | cons b t ih =>
    intro u r h
    cases u with
    | nil =>
      exfalso
      have := congrArg List.length h
      rw [bodyL_cons, bodyL_nil, List.length_append, List.length_append, List.length_nil] at this
      have := (escL_len b).1
      omega
    | cons c u =>
      rw [bodyL_cons, bodyL_cons, List.append_assoc] at h
      obtain ⟨rfl, h2⟩ := escL_head h
      obtain ⟨v, rfl, e⟩ := ih u r h2
      exact ⟨v, rfl, e⟩
theorem bodyL_inj {t u : List UInt8} (h : bodyL t = bodyL u) : t = u := by
  obtain ⟨v, rfl, e⟩ := body_split t u [] (by rw [List.append_nil]; exact h)
  cases v with
  | nil => simp
  | cons b v => rw [bodyL_cons] at e; have := escL_ne b; simp_all
theorem quoteL_body {t b : List UInt8} (h : quoteL t = 34 :: (b ++ [34])) : bodyL t = b := by
  unfold quoteL at h
  simp only [List.cons.injEq, true_and] at h
  exact List.append_cancel_right h
theorem quoteL_inj {t u : List UInt8} (h : quoteL t = quoteL u) : t = u := bodyL_inj (quoteL_body h)
/-- No quotation mark stands in a body. -/
theorem hexC_mark (n : Nat) (h : n < 16) : hexC n ≠ 34 := by
  have : ∀ n : Fin 16, hexC n.1 ≠ 34 := by decide
  exact this ⟨n, h⟩
theorem escL_mark (b : UInt8) : (34 : UInt8) ∉ escL b := by
  have hb := b.toNat_lt
  cases hd : plainB b
  · rw [escL_not hd]
    simp only [List.mem_cons, List.not_mem_nil, or_false, not_or]
    exact ⟨by decide, fun e => hexC_mark _ (by omega) e.symm, fun e => hexC_mark _ (by omega) e.symm⟩
  · rw [escL_plain hd, List.mem_singleton]
    intro e
    rw [← e, plain34] at hd
    cases hd
theorem bodyL_mark (t : List UInt8) : (34 : UInt8) ∉ bodyL t := by
  induction t with
  | nil => simp [bodyL]
  | cons b t ih => rw [bodyL_cons, List.mem_append, not_or]; exact ⟨escL_mark b, ih⟩

/-- What Unquote tells of a text. -/
def UnqIs (l t : List UInt8) (b : Bool) : Prop := (b = true ∧ l = quoteL t) ∨ (b = false ∧ t = [] ∧ ∀ u, l ≠ quoteL u)
theorem UnqIs.unique {l t t2 : List UInt8} {b b2 : Bool} (h : UnqIs l t b) (h2 : UnqIs l t2 b2) : t = t2 ∧ b = b2 := by
  rcases h with ⟨rfl, h⟩ | ⟨rfl, rfl, h⟩ <;> rcases h2 with ⟨rfl, h2⟩ | ⟨rfl, rfl, h2⟩
  · exact ⟨quoteL_inj (h.symm.trans h2), rfl⟩
  · exact absurd h (h2 _)
  · exact absurd h2 (h _)
  · exact ⟨rfl, rfl⟩
theorem UnqIs.back {t t2 : List UInt8} {b : Bool} (h : UnqIs (quoteL t) t2 b) : t2 = t ∧ b = true := by
  obtain ⟨a, b⟩ := h.unique (.inl ⟨rfl, rfl⟩)
  exact ⟨a, b⟩
theorem unq_short {l : List UInt8} (h : l.length < 2) : UnqIs l [] false := .inr ⟨rfl, rfl, fun u e => by rw [e, quoteL_len] at h; omega⟩
theorem unq_head {x : UInt8} {l : List UInt8} (h : x ≠ 34) : UnqIs (x :: l) [] false := .inr ⟨rfl, rfl, fun u e => h (by unfold quoteL at e; simp only [List.cons.injEq] at e; exact e.1)⟩
theorem unq_last {x : UInt8} {l : List UInt8} (h : x ≠ 34) : UnqIs (l ++ [x]) [] false := .inr ⟨rfl, rfl, fun u e => h (by
  have := congrArg List.getLast? e
  rw [show quoteL u = (34 :: bodyL u) ++ [34] by simp [quoteL], List.getLast?_concat, List.getLast?_concat] at this
  exact Option.some.inj this)⟩

/-- The first byte of what is quoted, and how many bytes it stands in; 0: there is none. -/
def ByteIs (r : List UInt8) (b : UInt8) (n : Nat) : Prop := (n = 0 ∧ ∀ c v, r ≠ escL c ++ v) ∨ (n = (escL b).length ∧ r = escL b ++ r.drop n)
theorem unq_bad {out r : List UInt8} (hr : r ≠ []) (h : ∀ c v, r ≠ escL c ++ v) : UnqIs (34 :: (bodyL out ++ r ++ [34])) [] false := .inr ⟨rfl, rfl, fun u e => by
  have e2 := quoteL_body e.symm
  obtain ⟨v, rfl, e3⟩ := body_split out u r e2.symm
  cases v with
  | nil => exact hr (by rw [e3]; rfl)
  | cons c v => exact h c (bodyL v) (by rw [e3, bodyL_cons])⟩
theorem unq_good {out : List UInt8} : UnqIs (34 :: (bodyL out ++ [34])) out true := .inl ⟨rfl, rfl⟩

theorem byteIs_plain {c : UInt8} {r : List UInt8} (h : plainB c = true) : ByteIs (c :: r) c 1 := .inr ⟨by rw [escL_plain h]; rfl, by rw [escL_plain h]; rfl⟩
theorem byteIs_other {c : UInt8} {r : List UInt8} {b : UInt8} (h : plainB c = false) (h2 : c ≠ 92) : ByteIs (c :: r) b 0 := .inl ⟨rfl, fun d v e => by
  cases hd : plainB d
  · rw [escL_not hd] at e
    simp only [List.cons_append, List.cons.injEq] at e
    exact h2 e.1
  · rw [escL_plain hd] at e
    simp only [List.cons_append, List.cons.injEq] at e
    rw [e.1, hd] at h; cases h⟩
theorem byteIs_short {r : List UInt8} {b : UInt8} (h2 : r.length < 2) : ByteIs (92 :: r) b 0 := .inl ⟨rfl, fun d v e => by
  cases hd : plainB d
  · rw [escL_not hd] at e
    have := congrArg List.length e
    simp at this
    omega
  · rw [escL_plain hd] at e
    simp only [List.cons_append, List.cons.injEq] at e
    rw [← e.1, plain92] at hd; cases hd⟩
theorem byteIs_digit {x y : UInt8} {r : List UInt8} {b : UInt8} (h : hexV x = 16 ∨ hexV y = 16) : ByteIs (92 :: x :: y :: r) b 0 := .inl ⟨rfl, fun d v e => by
  cases hd : plainB d
  · rw [escL_not hd] at e
    simp only [List.cons_append, List.nil_append, List.cons.injEq, true_and] at e
    have hb := d.toNat_lt
    rcases h with h | h
    · rw [e.1, hexV_C _ (by omega)] at h; omega
    · rw [e.2.1, hexV_C _ (by omega)] at h; omega
  · rw [escL_plain hd] at e
    simp only [List.cons_append, List.cons.injEq] at e
    rw [← e.1, plain92] at hd; cases hd⟩
theorem byte_of {x y : UInt8} (hx : hexV x < 16) (hy : hexV y < 16) : (UInt8.ofNat (16 * hexV x + hexV y)).toNat = 16 * hexV x + hexV y := by
  rw [UInt8.toNat_ofNat', Nat.mod_eq_of_lt (by omega)]
theorem byteIs_plainly {x y : UInt8} {r : List UInt8} {b : UInt8} (hx : hexV x < 16) (hy : hexV y < 16) (h : plainB (UInt8.ofNat (16 * hexV x + hexV y)) = true) : ByteIs (92 :: x :: y :: r) b 0 := .inl ⟨rfl, fun d v e => by
  cases hd : plainB d
  · rw [escL_not hd] at e
    simp only [List.cons_append, List.nil_append, List.cons.injEq, true_and] at e
    have hb := d.toNat_lt
    rw [e.1, e.2.1, hexV_C _ (by omega), hexV_C _ (by omega), show 16 * (d.toNat / 16) + d.toNat % 16 = d.toNat by omega, UInt8.ofNat_toNat, hd] at h
    cases h
  · rw [escL_plain hd] at e
    simp only [List.cons_append, List.cons.injEq] at e
    rw [← e.1, plain92] at hd; cases hd⟩
theorem byteIs_esc {x y : UInt8} {r : List UInt8} (hx : hexV x < 16) (hy : hexV y < 16) (h : plainB (UInt8.ofNat (16 * hexV x + hexV y)) = false) : ByteIs (92 :: x :: y :: r) (UInt8.ofNat (16 * hexV x + hexV y)) 3 := .inr ⟨by rw [escL_not h]; rfl, by
  rw [escL_not h, byte_of hx hy, show (16 * hexV x + hexV y) / 16 = hexV x by omega, show (16 * hexV x + hexV y) % 16 = hexV y by omega, hexC_V x hx, hexC_V y hy]; rfl⟩

/-- Names. -/
def letB (c : UInt8) : Bool := decide (97 ≤ c.toNat ∧ c.toNat ≤ 122)
def decB (c : UInt8) : Bool := decide (48 ≤ c.toNat ∧ c.toNat ≤ 57)
def namB (c : UInt8) : Bool := letB c || decB c || decide (c.toNat = 45)
def nameL (l : List UInt8) : Bool := decide (1 ≤ l.length ∧ l.length ≤ 32) && (letB (l.headD 0) && l.all namB)

/-- The word ahead of the first blank, and what stands behind that. -/
def hdW (l : List UInt8) : List UInt8 := l.takeWhile (· != 32)
def tlW (l : List UInt8) : List UInt8 := (l.dropWhile (· != 32)).drop 1
theorem takeW_no : ∀ (l : List UInt8), (32 : UInt8) ∉ l → l.takeWhile (· != 32) = l ∧ l.dropWhile (· != 32) = [] := by
  intro l
  induction l with
  | nil => intro _; exact ⟨rfl, rfl⟩
  | cons x y ih =>
    intro h
    simp only [List.mem_cons, not_or] at h
    have hx : (x != 32) = true := by simp only [bne_iff_ne, ne_eq]; exact fun e => h.1 e.symm
    simp only [List.takeWhile_cons, List.dropWhile_cons, hx, if_true, (ih h.2).1, (ih h.2).2, and_self]
theorem takeW_at : ∀ (a b : List UInt8), (32 : UInt8) ∉ a → (a ++ 32 :: b).takeWhile (· != 32) = a ∧ (a ++ 32 :: b).dropWhile (· != 32) = 32 :: b := by
  intro a b
  induction a with
  | nil => intro _; exact ⟨rfl, rfl⟩
  | cons x y ih =>
    intro h
    simp only [List.mem_cons, not_or] at h
    have hx : (x != 32) = true := by simp only [bne_iff_ne, ne_eq]; exact fun e => h.1 e.symm
    simp only [List.cons_append, List.takeWhile_cons, List.dropWhile_cons, hx, if_true, (ih h.2).1, (ih h.2).2, and_self]
theorem hdW_no {l : List UInt8} (h : (32 : UInt8) ∉ l) : hdW l = l := (takeW_no l h).1
theorem tlW_no {l : List UInt8} (h : (32 : UInt8) ∉ l) : tlW l = [] := by unfold tlW; rw [(takeW_no l h).2]; rfl
theorem hdW_at {a b : List UInt8} (h : (32 : UInt8) ∉ a) : hdW (a ++ 32 :: b) = a := (takeW_at a b h).1
theorem tlW_at {a b : List UInt8} (h : (32 : UInt8) ∉ a) : tlW (a ++ 32 :: b) = b := by unfold tlW; rw [(takeW_at a b h).2]; rfl
theorem hdW_len (l : List UInt8) : (hdW l).length ≤ l.length := (List.takeWhile_prefix _).length_le
theorem tlW_len (l : List UInt8) : (tlW l).length ≤ l.length := by
  unfold tlW
  rw [List.length_drop]
  have := (List.dropWhile_suffix (l := l) (· != (32 : UInt8))).length_le
  omega

end Go.Proofs.YtaocjmipjibiaabGreatDoor
