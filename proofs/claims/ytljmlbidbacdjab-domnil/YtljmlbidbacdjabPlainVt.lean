/- Trees as data. -/
import Derived.Test.YtljmlbidbacdjabPlainSt
import Derived.Test.YtljmlbidbacdjabPlainNm
namespace Go.Proofs.Ytljmlbidbacdjab
set_option linter.unusedVariables false
set_option linter.unusedSimpArgs false

/-- A text's bytes. -/
def txL (b : ByteArray) : List UInt8 := b.data.toList
theorem tx_ext {a b : ByteArray} (h : txL a = txL b) : a = b := by
  obtain ⟨⟨a⟩⟩ := a
  obtain ⟨⟨b⟩⟩ := b
  simp only [txL] at h
  rw [h]
def ltT (a b : ByteArray) : Bool := decide (txL a < txL b)
theorem ltT_irr (a : ByteArray) : ltT a a = false := by unfold ltT; simp
theorem ltT_trans {a b c : ByteArray} (h : ltT a b = true) (h2 : ltT b c = true) : ltT a c = true := by
  unfold ltT at *
  rw [decide_eq_true_eq] at *
  exact List.lt_trans h h2
theorem ltT_or {a b : ByteArray} (h : a ≠ b) : ltT a b = true ∨ ltT b a = true := by
  unfold ltT
  rw [decide_eq_true_eq, decide_eq_true_eq]
  by_cases h1 : txL a < txL b
  · exact .inl h1
  · by_cases h2 : txL b < txL a
    · exact .inr h2
    · exact absurd (tx_ext (List.le_antisymm (by exact h2) (by exact h1))) h
theorem ltT_asym {a b : ByteArray} (h : ltT a b = true) : ltT b a = false := by
  cases h2 : ltT b a with
  | false => rfl
  | true => have := ltT_trans h h2; rw [ltT_irr] at this; cases this

/-- An attribute: its name, its value. -/
abbrev At := ByteArray × ByteArray
/-- A tree: a key, a tag, a text, attributes, kids. -/
inductive VT where
  | node (k : St) (tg tx : ByteArray) (at_ : List At) (ks : List VT)
def VT.k : VT → St | .node k _ _ _ _ => k
def VT.tg : VT → ByteArray | .node _ x _ _ _ => x
def VT.tx : VT → ByteArray | .node _ _ x _ _ => x
def VT.at_ : VT → List At | .node _ _ _ a _ => a
def VT.ks : VT → List VT | .node _ _ _ _ l => l
theorem VT.eta (t : VT) : t = .node t.k t.tg t.tx t.at_ t.ks := by cases t; rfl
mutual
/-- How many nodes. -/
def VT.sz : VT → Nat
  | .node _ _ _ _ ks => 1 + szs ks
def szs : List VT → Nat
  | [] => 0
  | t :: r => t.sz + szs r
end
theorem VT.sz_eq (t : VT) : t.sz = 1 + szs t.ks := by cases t; simp only [VT.sz, VT.ks]
theorem VT.sz_pos (t : VT) : 0 < t.sz := by rw [t.sz_eq]; omega
theorem szs_append (l m : List VT) : szs (l ++ m) = szs l + szs m := by
  induction l with
  | nil => simp [szs]
  | cons x r ih => rw [List.cons_append, szs, szs, ih]; omega
theorem szs_get : ∀ (l : List VT) (i : Nat) (h : i < l.length), l[i].sz ≤ szs l
  | [], i, h => by simp at h
  | x :: r, 0, h => by rw [szs]; simp
  | x :: r, i + 1, h => by rw [szs]; have := szs_get r i (by simpa using h); simp; omega
theorem szs_len (l : List VT) : l.length ≤ szs l := by
  induction l with
  | nil => simp
  | cons x r ih => rw [szs, List.length_cons]; have := x.sz_pos; omega
theorem VT.kid {t : VT} {i : Nat} (h : i < t.ks.length) : t.ks[i].sz < t.sz := by rw [t.sz_eq]; have := szs_get t.ks i h; omega
/-- Are two trees the same? -/
noncomputable def eqV (a b : VT) : Bool := @decide (a = b) (Classical.propDecidable _)
theorem eqV_true {a b : VT} (h : a = b) : eqV a b = true := by unfold eqV; simp [h]
theorem eqV_false {a b : VT} (h : a ≠ b) : eqV a b = false := by unfold eqV; simp [h]
theorem eqV_self (a : VT) : eqV a a = true := eqV_true rfl
theorem eqV_iff {a b : VT} : eqV a b = true ↔ a = b := by unfold eqV; simp
theorem eqV_no {a b : VT} : eqV a b = false ↔ a ≠ b := by unfold eqV; simp
noncomputable def eqVs (a b : List VT) : Bool := @decide (a = b) (Classical.propDecidable _)
theorem eqVs_true {a b : List VT} (h : a = b) : eqVs a b = true := by unfold eqVs; simp [h]
theorem eqVs_false {a b : List VT} (h : a ≠ b) : eqVs a b = false := by unfold eqVs; simp [h]
theorem eqVs_no {a b : List VT} : eqVs a b = false ↔ a ≠ b := by unfold eqVs; simp
theorem take_next {α : Type} {l m : List α} {i : Nat} (h : i < l.length) (h2 : i < m.length) (ht : l.take i = m.take i) (he : l[i] = m[i]) : l.take (i + 1) = m.take (i + 1) := by
  rw [List.take_succ_eq_append_getElem h, List.take_succ_eq_append_getElem h2, ht, he]
theorem take_all {α : Type} {l m : List α} (hl : l.length = m.length) (ht : l.take l.length = m.take l.length) : l = m := by
  rw [List.take_length, hl, List.take_length] at ht; exact ht
end Go.Proofs.Ytljmlbidbacdjab
