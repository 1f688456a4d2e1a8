/- Numbers as bytes, seven bits a byte: how one is laid, how one is read, and that each undoes the other. -/
import Derived.WalkKit
namespace Go.Proofs.Ytfjejobakknipaa
set_option linter.unusedVariables false

/-- A number's bytes; with a bound on how many steps are gone. -/
def putF : Nat → Nat → List UInt8
  | 0, n => [UInt8.ofNat n]
  | f + 1, n => if n < 128 then [UInt8.ofNat n] else UInt8.ofNat (128 + n % 128) :: putF f (n / 128)
theorem putF_more : ∀ (f g n : Nat), n ≤ f → n ≤ g → putF f n = putF g n := by
  intro f
  induction f with
  | zero =>
    intro g n h _
    have e : n = 0 := by omega
    subst e
    cases g with
    | zero => rfl
    | succ g => simp [putF]
  | succ f ih =>
    intro g n h1 h2
    cases g with
    | zero =>
      have e : n = 0 := by omega
      subst e
      simp [putF]
    | succ g =>
      simp only [putF]
      by_cases h : n < 128
      · rw [if_pos h, if_pos h]
      · rw [if_neg h, if_neg h, ih g (n / 128) (by omega) (by omega)]
/-- A number's bytes. -/
def putL (n : Nat) : List UInt8 := putF n n
theorem putL_lt {n : Nat} (h : n < 128) : putL n = [UInt8.ofNat n] := by
  unfold putL
  cases n with
  | zero => rfl
  | succ n => simp only [putF]; rw [if_pos h]
theorem putL_ge {n : Nat} (h : ¬ n < 128) : putL n = UInt8.ofNat (128 + n % 128) :: putL (n / 128) := by
  unfold putL
  cases n with
  | zero => omega
  | succ n => simp only [putF]; rw [if_neg h, putF_more n ((n + 1) / 128) ((n + 1) / 128) (by omega) (Nat.le_refl _)]
theorem putL_pos (n : Nat) : 0 < (putL n).length := by
  by_cases h : n < 128
  · rw [putL_lt h]; simp
  · rw [putL_ge h]; simp
theorem putL_len : ∀ (k n : Nat), 0 < k → n < 128 ^ k → (putL n).length ≤ k := by
  intro k
  induction k with
  | zero => intro n h; omega
  | succ k ih =>
    intro n _ hn
    by_cases h : n < 128
    · rw [putL_lt h]; simp
    · rw [putL_ge h]
      have hk : 0 < k := by
        rcases Nat.eq_zero_or_pos k with rfl | h2
        · simp at hn; omega
        · exact h2
      have := ih (n / 128) hk (by rw [Nat.pow_succ] at hn; exact Nat.div_lt_of_lt_mul (by rw [Nat.mul_comm]; exact hn))
      simp; omega
theorem pow9 : (128 : Nat) ^ 9 = 9223372036854775808 := by decide
theorem putL_len9 {n : Nat} (h : n < 9223372036854775808) : (putL n).length ≤ 9 := putL_len 9 n (by decide) (by rw [pow9]; exact h)

/-- The number at the head of bytes, from the i-th one on, and how many bytes it has in all; at most f more are read. -/
def numA : Nat → Nat → Nat → List UInt8 → Option (Nat × Nat)
  | 0, _, _, _ => none
  | _ + 1, _, _, [] => none
  | f + 1, i, a, c :: r =>
    if c.toNat < 128 then (if c.toNat = 0 ∧ i ≠ 0 then none else some (a + c.toNat % 128 * 128 ^ i, i + 1)) else numA f (i + 1) (a + c.toNat % 128 * 128 ^ i) r
/-- The number at the head of bytes, and how many it has. -/
def numL (p : List UInt8) : Option (Nat × Nat) := numA 9 0 0 p

theorem toNat_of {n : Nat} (h : n < 256) : (UInt8.ofNat n).toNat = n := by simp [Nat.mod_eq_of_lt h]
theorem numA_put : ∀ (n f i a : Nat) (r : List UInt8), (putL n).length ≤ f → (i = 0 ∨ n ≠ 0) → numA f i a (putL n ++ r) = some (a + n * 128 ^ i, i + (putL n).length) := by
  intro n
  induction n using Nat.strongRecOn with
  | ind n ih =>
    intro f i a r hf hi
    have hp := putL_pos n
    obtain ⟨f, rfl⟩ : ∃ g, f = g + 1 := ⟨f - 1, by omega⟩
    by_cases h : n < 128
    · rw [putL_lt h]
      simp only [List.cons_append, List.nil_append, numA, toNat_of (show n < 256 by omega)]
      rw [if_pos h, if_neg (by omega), Nat.mod_eq_of_lt h]
      rfl
    · rw [putL_ge h] at hf ⊢
      simp only [List.cons_append, numA, toNat_of (show 128 + n % 128 < 256 by omega)]
      rw [if_neg (by omega), ih (n / 128) (by omega) f (i + 1) _ r (by simpa using hf) (.inr (by omega))]
      have e1 : (128 + n % 128) % 128 = n % 128 := by omega
      have e2 : n * 128 ^ i = (n % 128 + 128 * (n / 128)) * 128 ^ i := by rw [Nat.mod_add_div]
      rw [e1, e2, Nat.pow_succ]
      simp only [List.length_cons, Option.some.injEq, Prod.mk.injEq]
      refine ⟨?_, by omega⟩
      rw [Nat.add_mul, Nat.add_assoc, Nat.mul_comm (128 ^ i) 128, ← Nat.mul_assoc, Nat.mul_comm (n / 128) 128]
theorem numL_put {n : Nat} (h : n < 9223372036854775808) (r : List UInt8) : numL (putL n ++ r) = some (n, (putL n).length) := by
  unfold numL
  rw [numA_put n 9 0 0 r (putL_len9 h) (.inl rfl)]
  simp
theorem numA_strict : ∀ (f i a : Nat) (p : List UInt8) (n k : Nat), numA f i a p = some (n, k) →
    ∃ m r, n = a + m * 128 ^ i ∧ k = i + (putL m).length ∧ p = putL m ++ r ∧ (i ≠ 0 → m ≠ 0) ∧ m < 128 ^ f := by
  intro f
  induction f with
  | zero => intro i a p n k h; simp [numA] at h
  | succ f ih =>
    intro i a p n k h
    cases p with
    | nil => simp [numA] at h
    | cons c r =>
      have hc := UInt8.toNat_lt c
      have ec : UInt8.ofNat c.toNat = c := UInt8.ofNat_toNat
      rw [numA] at h
      by_cases h1 : c.toNat < 128
      · rw [if_pos h1] at h
        by_cases h2 : c.toNat = 0 ∧ i ≠ 0
        · rw [if_pos h2] at h; cases h
        · rw [if_neg h2] at h
          simp only [Option.some.injEq, Prod.mk.injEq] at h
          refine ⟨c.toNat, r, ?_, ?_, ?_, by omega, ?_⟩
          · rw [← h.1, Nat.mod_eq_of_lt h1]
          · rw [putL_lt h1]; exact h.2.symm
          · rw [putL_lt h1, ec]; rfl
          · exact Nat.lt_of_lt_of_le h1 (by rw [Nat.pow_succ]; exact Nat.le_mul_of_pos_left _ (Nat.pow_pos (by decide)))
      · rw [if_neg h1] at h
        obtain ⟨m, r', rfl, rfl, rfl, h3, h4⟩ := ih _ _ _ _ _ h
        have hm := h3 (by omega)
        have hd : (c.toNat % 128 + 128 * m) / 128 = m := by omega
        have hr : (c.toNat % 128 + 128 * m) % 128 = c.toNat % 128 := by omega
        have hg : putL (c.toNat % 128 + 128 * m) = c :: putL m := by
          rw [putL_ge (by omega), hd, hr, show 128 + c.toNat % 128 = c.toNat by omega, ec]
        refine ⟨c.toNat % 128 + 128 * m, r', ?_, ?_, ?_, by omega, ?_⟩
        · rw [Nat.pow_succ, Nat.add_mul, Nat.add_assoc, Nat.mul_comm (128 ^ i) 128, ← Nat.mul_assoc, Nat.mul_comm m 128]
        · rw [hg]; simp; omega
        · rw [hg]; rfl
        · rw [Nat.pow_succ]; omega
theorem numL_strict {p : List UInt8} {n k : Nat} (h : numL p = some (n, k)) : n < 9223372036854775808 ∧ k = (putL n).length ∧ ∃ r, p = putL n ++ r := by
  obtain ⟨m, r, h1, h2, h3, _, h5⟩ := numA_strict 9 0 0 p n k h
  have e : n = m := by simpa using h1
  subst e
  rw [pow9] at h5
  exact ⟨h5, by omega, r, h3⟩
theorem numL_le {p : List UInt8} {n k : Nat} (h : numL p = some (n, k)) : k ≤ p.length ∧ 0 < k ∧ k ≤ 9 ∧ n < 9223372036854775808 := by
  obtain ⟨h1, h2, r, h3⟩ := numL_strict h
  have := putL_pos n
  have := putL_len9 h1
  refine ⟨?_, by omega, by omega, h1⟩
  rw [h3, h2]; simp
/-- Unlike numbers have unlike bytes, and none is a beginning of another one's. -/
theorem put_apart {a b : Nat} (ha : a < 9223372036854775808) (hb : b < 9223372036854775808) (h : putL a <+: putL b) : a = b := by
  obtain ⟨r, hr⟩ := h
  have h1 := numL_put ha r
  have h2 := numL_put hb []
  rw [List.append_nil] at h2
  rw [hr, h2] at h1
  simp at h1
  exact h1.1.symm

/-- What a round of the reading does. -/
theorem numA_end {f i a : Nat} {p : List UInt8} (h : p.length ≤ i) : numA f i a (p.drop i) = none := by
  rw [List.drop_of_length_le h]
  cases f <;> rfl
theorem numA_zero {i a : Nat} {p : List UInt8} : numA 0 i a p = none := rfl
theorem drop_cons {p : List UInt8} {i : Nat} (h : i < p.length) : p.drop i = p[i] :: p.drop (i + 1) := List.drop_eq_getElem_cons h
theorem numA_last {f i a : Nat} {p : List UInt8} (h : i < p.length) (h1 : p[i].toNat < 128) (h2 : ¬ (p[i].toNat = 0 ∧ i ≠ 0)) :
    numA (f + 1) i a (p.drop i) = some (a + p[i].toNat % 128 * 128 ^ i, i + 1) := by
  rw [drop_cons h, numA, if_pos h1, if_neg h2]
theorem numA_nought {f i a : Nat} {p : List UInt8} (h : i < p.length) (h1 : p[i].toNat = 0) (h2 : i ≠ 0) : numA (f + 1) i a (p.drop i) = none := by
  rw [drop_cons h, numA, if_pos (by omega), if_pos ⟨h1, h2⟩]
theorem numA_more {f i a : Nat} {p : List UInt8} (h : i < p.length) (h1 : ¬ p[i].toNat < 128) :
    numA (f + 1) i a (p.drop i) = numA f (i + 1) (a + p[i].toNat % 128 * 128 ^ i) (p.drop (i + 1)) := by
  rw [drop_cons h, numA, if_neg h1]

end Go.Proofs.Ytfjejobakknipaa
