/- Numbers as bytes, seven bits a byte: how one is laid, how one is read, and that each undoes the other. -/
import Derived.WalkKit
import Derived.Test.YtlioiblpcpaejaaGreatXA
import Derived.Test.YtlioiblpcpaejaaGreatRows
import Derived.Laws.Rows
import Derived.WalkSpells
import Derived.Deep.QuietTactic
import Derived.BigQuiet
import Derived.RowKit3
import Derived.WalkSmall
import Derived.Maps.AppendAt
import Derived.OwnWalk
import Derived.Lib.AppendStr
import Derived.Laws.BitsLemmas
import Derived.Laws.AppendOwnNone
import Derived.Laws.IdiomStrings
namespace Go.Proofs.YtlioiblpcpaejaaGreat
set_option linter.unusedVariables false

/-- A number's bytes; with a bound on how many steps are gone. -/
def putF : Nat → Nat → List UInt8
  | 0, n => [UInt8.ofNat n]
  | f + 1, n => if n < 128 then [UInt8.ofNat n] else UInt8.ofNat (128 + n % 128) :: putF f (n / 128)
theorem putF_more : ∀ (f g n : Nat), n ≤ f → n ≤ g → putF f n = putF g n := by
  intro f
  induction f with
  | zero =>
    intro g n h _
    have e : n = 0 := by omega
    subst e
    cases g with
    | zero => rfl
    | succ g => simp [putF]
  | succ f ih =>
    intro g n h1 h2
    cases g with
    | zero =>
      have e : n = 0 := by omega
      subst e
      simp [putF]
    | succ g =>
      simp only [putF]
      by_cases h : n < 128
      · rw [if_pos h, if_pos h]
      · rw [if_neg h, if_neg h, ih g (n / 128) (by omega) (by omega)]
/-- A number's bytes. -/
def putL (n : Nat) : List UInt8 := putF n n
theorem putL_lt {n : Nat} (h : n < 128) : putL n = [UInt8.ofNat n] := by
  unfold putL
  cases n with
  | zero => rfl
  | succ n => simp only [putF]; rw [if_pos h]
theorem putL_ge {n : Nat} (h : ¬ n < 128) : putL n = UInt8.ofNat (128 + n % 128) :: putL (n / 128) := by
  unfold putL
  cases n with
  | zero => omega
  | succ n => simp only [putF]; rw [if_neg h, putF_more n ((n + 1) / 128) ((n + 1) / 128) (by omega) (Nat.le_refl _)]
theorem putL_pos (n : Nat) : 0 < (putL n).length := by
  by_cases h : n < 128
  · rw [putL_lt h]; simp
  · rw [putL_ge h]; simp
theorem putL_len : ∀ (k n : Nat), 0 < k → n < 128 ^ k → (putL n).length ≤ k := by
  intro k
  induction k with
  | zero => intro n h; omega
  | succ k ih =>
    intro n _ hn
    by_cases h : n < 128
    · rw [putL_lt h]; simp
    · rw [putL_ge h]
      have hk : 0 < k := by
        rcases Nat.eq_zero_or_pos k with rfl | h2
        · simp at hn; omega
        · exact h2
      have := ih (n / 128) hk (by rw [Nat.pow_succ] at hn; exact Nat.div_lt_of_lt_mul (by rw [Nat.mul_comm]; exact hn))
      simp; omega
theorem pow9 : (128 : Nat) ^ 9 = 9223372036854775808 := by decide
theorem putL_len9 {n : Nat} (h : n < 9223372036854775808) : (putL n).length ≤ 9 := putL_len 9 n (by decide) (by rw [pow9]; exact h)

/-- The number at the head of bytes, from the i-th one on, and how many bytes it has in all; at most f more are read. -/
def numA : Nat → Nat → Nat → List UInt8 → Option (Nat × Nat)
  | 0, _, _, _ => none
  | _ + 1, _, _, [] => none
  | f + 1, i, a, c :: r =>
    if c.toNat < 128 then (if c.toNat = 0 ∧ i ≠ 0 then none else some (a + c.toNat % 128 * 128 ^ i, i + 1)) else numA f (i + 1) (a + c.toNat % 128 * 128 ^ i) r
/-- The number at the head of bytes, and how many it has. -/
def numL (p : List UInt8) : Option (Nat × Nat) := numA 9 0 0 p

theorem toNat_of {n : Nat} (h : n < 256) : (UInt8.ofNat n).toNat = n := by simp [Nat.mod_eq_of_lt h]
theorem numA_put : ∀ (n f i a : Nat) (r : List UInt8), (putL n).length ≤ f → (i = 0 ∨ n ≠ 0) → numA f i a (putL n ++ r) = some (a + n * 128 ^ i, i + (putL n).length) := by
  intro n
  induction n using Nat.strongRecOn with
  | ind n ih =>
    intro f i a r hf hi
    have hp := putL_pos n
    obtain ⟨f, rfl⟩ : ∃ g, f = g + 1 := ⟨f - 1, by omega⟩
    by_cases h : n < 128
    · rw [putL_lt h]
      simp only [List.cons_append, List.nil_append, numA, toNat_of (show n < 256 by omega)]
      rw [if_pos h, if_neg (by omega), Nat.mod_eq_of_lt h]
      rfl
    · rw [putL_ge h] at hf ⊢
      simp only [List.cons_append, numA, toNat_of (show 128 + n % 128 < 256 by omega)]
      rw [if_neg (by omega), ih (n / 128) (by omega) f (i + 1) _ r (by simpa using hf) (.inr (by omega))]
      have e1 : (128 + n % 128) % 128 = n % 128 := by omega
      have e2 : n * 128 ^ i = (n % 128 + 128 * (n / 128)) * 128 ^ i := by rw [Nat.mod_add_div]
      rw [e1, e2, Nat.pow_succ]
      simp only [List.length_cons, Option.some.injEq, Prod.mk.injEq]
      refine ⟨?_, by omega⟩
      rw [Nat.add_mul, Nat.add_assoc, Nat.mul_comm (128 ^ i) 128, ← Nat.mul_assoc, Nat.mul_comm (n / 128) 128]
theorem numL_put {n : Nat} (h : n < 9223372036854775808) (r : List UInt8) : numL (putL n ++ r) = some (n, (putL n).length) := by
  unfold numL
  rw [numA_put n 9 0 0 r (putL_len9 h) (.inl rfl)]
  simp
theorem numA_strict : ∀ (f i a : Nat) (p : List UInt8) (n k : Nat), numA f i a p = some (n, k) →
    ∃ m r, n = a + m * 128 ^ i ∧ k = i + (putL m).length ∧ p = putL m ++ r ∧ (i ≠ 0 → m ≠ 0) ∧ m < 128 ^ f := by
  intro f
  induction f with
  | zero => intro i a p n k h; simp [numA] at h
  | succ f ih =>
    intro i a p n k h
    cases p with
    | nil => simp [numA] at h
    | cons c r =>
      have hc := UInt8.toNat_lt c
      have ec : UInt8.ofNat c.toNat = c := UInt8.ofNat_toNat
      rw [numA] at h
      by_cases h1 : c.toNat < 128
      · rw [if_pos h1] at h
        by_cases h2 : c.toNat = 0 ∧ i ≠ 0
        · rw [if_pos h2] at h; cases h
        · rw [if_neg h2] at h
          simp only [Option.some.injEq, Prod.mk.injEq] at h
          refine ⟨c.toNat, r, ?_, ?_, ?_, by omega, ?_⟩
          · rw [← h.1, Nat.mod_eq_of_lt h1]
          · rw [putL_lt h1]; exact h.2.symm
          · rw [putL_lt h1, ec]; rfl
          · exact Nat.lt_of_lt_of_le h1 (by rw [Nat.pow_succ]; exact Nat.le_mul_of_pos_left _ (Nat.pow_pos (by decide)))
      · rw [if_neg h1] at h
        obtain ⟨m, r', rfl, rfl, rfl, h3, h4⟩ := ih _ _ _ _ _ h
        have hm := h3 (by omega)
        have hd : (c.toNat % 128 + 128 * m) / 128 = m := by omega
        have hr : (c.toNat % 128 + 128 * m) % 128 = c.toNat % 128 := by omega
        have hg : putL (c.toNat % 128 + 128 * m) = c :: putL m := by
          rw [putL_ge (by omega), hd, hr, show 128 + c.toNat % 128 = c.toNat by omega, ec]
        refine ⟨c.toNat % 128 + 128 * m, r', ?_, ?_, ?_, by omega, ?_⟩
        · rw [Nat.pow_succ, Nat.add_mul, Nat.add_assoc, Nat.mul_comm (128 ^ i) 128, ← Nat.mul_assoc, Nat.mul_comm m 128]
        · rw [hg]; simp; omega
        · rw [hg]; rfl
        · rw [Nat.pow_succ]; omega
theorem numL_strict {p : List UInt8} {n k : Nat} (h : numL p = some (n, k)) : n < 9223372036854775808 ∧ k = (putL n).length ∧ ∃ r, p = putL n ++ r := by
  obtain ⟨m, r, h1, h2, h3, _, h5⟩ := numA_strict 9 0 0 p n k h
  have e : n = m := by simpa using h1
  subst e
  rw [pow9] at h5
  exact ⟨h5, by omega, r, h3⟩
theorem numL_le {p : List UInt8} {n k : Nat} (h : numL p = some (n, k)) : k ≤ p.length ∧ 0 < k ∧ k ≤ 9 ∧ n < 9223372036854775808 := by
  obtain ⟨h1, h2, r, h3⟩ := numL_strict h
  have := putL_pos n
  have := putL_len9 h1
  refine ⟨?_, by omega, by omega, h1⟩
  rw [h3, h2]; simp
/-- Unlike numbers have unlike bytes, and none is a beginning of another one's. -/
theorem put_apart {a b : Nat} (ha : a < 9223372036854775808) (hb : b < 9223372036854775808) (h : putL a <+: putL b) : a = b := by
  obtain ⟨r, hr⟩ := h
  have h1 := numL_put ha r
  have h2 := numL_put hb []
  rw [List.append_nil] at h2
  rw [hr, h2] at h1
  simp at h1
  exact h1.1.symm

/-- What a round of the reading does. -/
theorem numA_end {f i a : Nat} {p : List UInt8} (h : p.length ≤ i) : numA f i a (p.drop i) = none := by
  rw [List.drop_of_length_le h]
  cases f <;> rfl
theorem numA_zero {i a : Nat} {p : List UInt8} : numA 0 i a p = none := rfl
theorem drop_cons {p : List UInt8} {i : Nat} (h : i < p.length) : p.drop i = p[i] :: p.drop (i + 1) := List.drop_eq_getElem_cons h
theorem numA_last {f i a : Nat} {p : List UInt8} (h : i < p.length) (h1 : p[i].toNat < 128) (h2 : ¬ (p[i].toNat = 0 ∧ i ≠ 0)) :
    numA (f + 1) i a (p.drop i) = some (a + p[i].toNat % 128 * 128 ^ i, i + 1) := by
  rw [drop_cons h, numA, if_pos h1, if_neg h2]
theorem numA_nought {f i a : Nat} {p : List UInt8} (h : i < p.length) (h1 : p[i].toNat = 0) (h2 : i ≠ 0) : numA (f + 1) i a (p.drop i) = none := by
  rw [drop_cons h, numA, if_pos (by omega), if_pos ⟨h1, h2⟩]
theorem numA_more {f i a : Nat} {p : List UInt8} (h : i < p.length) (h1 : ¬ p[i].toNat < 128) :
    numA (f + 1) i a (p.drop i) = numA f (i + 1) (a + p[i].toNat % 128 * 128 ^ i) (p.drop (i + 1)) := by
  rw [drop_cons h, numA, if_neg h1]

end Go.Proofs.YtlioiblpcpaejaaGreat

namespace Go.Proofs.YtlioiblpcpaejaaGreat

/-- One move of the register. -/
def stp (r : Nat) : Nat := if r % 2 = 1 then (r / 2) ^^^ 3988292384 else r / 2
def stpN : Nat → Nat → Nat
  | 0, r => r
  | n + 1, r => stpN n (stp r)
/-- The register once a byte has gone through it; once bytes have. -/
def tkR (r c : Nat) : Nat := stpN 8 (r ^^^ c)
def foldR (r : Nat) (l : List UInt8) : Nat := l.foldl (fun r c => tkR r c.toNat) r
def sumL (l : List UInt8) : Nat := foldR 4294967295 l ^^^ 4294967295
/-- The number that bytes are, the lowest first. -/
def leL : List UInt8 → Nat
  | [] => 0
  | c :: r => c.toNat + 256 * leL r

theorem xor_mod2 (a b : Nat) : (a ^^^ b) % 2 = (a + b) % 2 := by
  have h := @Nat.xor_mod_two_pow a b 1
  rw [Nat.pow_one] at h
  rw [h]
  rcases Nat.mod_two_eq_zero_or_one a with ha | ha <;> rcases Nat.mod_two_eq_zero_or_one b with hb | hb <;> rw [ha, hb] <;> simp <;> omega
theorem stp_xor (a b : Nat) : stp (a ^^^ b) = stp a ^^^ stp b := by
  unfold stp
  rw [xor_mod2, Nat.xor_div_two]
  rcases Nat.mod_two_eq_zero_or_one a with ha | ha <;> rcases Nat.mod_two_eq_zero_or_one b with hb | hb
  · rw [if_neg (by omega), if_neg (by omega), if_neg (by omega)]
  · rw [if_pos (by omega), if_neg (by omega), if_pos (by omega), Nat.xor_assoc]
  · rw [if_pos (by omega), if_pos (by omega), if_neg (by omega), Nat.xor_assoc, Nat.xor_assoc, Nat.xor_comm (b / 2)]
  · rw [if_neg (by omega), if_pos (by omega), if_pos (by omega)]
    rw [Nat.xor_assoc, Nat.xor_comm 3988292384, Nat.xor_assoc, Nat.xor_self, Nat.xor_zero]
theorem stpN_xor (n a b : Nat) : stpN n (a ^^^ b) = stpN n a ^^^ stpN n b := by
  induction n generalizing a b with
  | zero => rfl
  | succ n ih => simp only [stpN]; rw [stp_xor, ih]
theorem stp_dbl (x : Nat) : stp (2 * x) = x := by unfold stp; rw [if_neg (by omega)]; omega
theorem stpN_shl (n x : Nat) : stpN n (2 ^ n * x) = x := by
  induction n with
  | zero => simp [stpN]
  | succ n ih => simp only [stpN]; rw [Nat.pow_succ, show 2 ^ n * 2 * x = 2 * (2 ^ n * x) by rw [Nat.mul_comm (2 ^ n) 2, Nat.mul_assoc], stp_dbl, ih]
theorem stpN_add (m n r : Nat) : stpN (m + n) r = stpN n (stpN m r) := by
  induction m generalizing r with
  | zero => simp [stpN]
  | succ m ih => rw [show m + 1 + n = (m + n) + 1 by omega]; simp only [stpN]; rw [ih]
theorem stp_lt {r : Nat} (h : r < 4294967296) : stp r < 4294967296 := by
  unfold stp
  split
  · exact Nat.xor_lt_two_pow (n := 32) (by omega) (by omega)
  · omega
theorem stpN_lt (n : Nat) {r : Nat} (h : r < 4294967296) : stpN n r < 4294967296 := by
  induction n generalizing r with
  | zero => exact h
  | succ n ih => exact ih (stp_lt h)
theorem stp_zero {r : Nat} (h : r < 4294967296) (h0 : stp r = 0) : r = 0 := by
  unfold stp at h0
  split at h0
  · rename_i h1
    have h2 : (r / 2 ^^^ 3988292384).testBit 31 = false := by rw [h0]; simp
    rw [Nat.testBit_xor, Nat.testBit_lt_two_pow (x := r / 2) (i := 31) (by omega)] at h2
    exact absurd h2 (by decide)
  · omega
theorem stpN_zero (n : Nat) {r : Nat} (h : r < 4294967296) (h0 : stpN n r = 0) : r = 0 := by
  induction n generalizing r with
  | zero => exact h0
  | succ n ih => exact stp_zero h (ih (stp_lt h) h0)
/-- The register is a register. -/
theorem tkR_lt {r c : Nat} (h : r < 4294967296) (hc : c < 256) : tkR r c < 4294967296 := stpN_lt 8 (Nat.xor_lt_two_pow (n := 32) h (by omega))
theorem foldR_lt {r : Nat} (l : List UInt8) (h : r < 4294967296) : foldR r l < 4294967296 := by
  induction l generalizing r with
  | nil => exact h
  | cons c l ih => exact ih (tkR_lt h (UInt8.toNat_lt c))
theorem sumL_lt (l : List UInt8) : sumL l < 4294967296 := Nat.xor_lt_two_pow (n := 32) (foldR_lt l (by omega)) (by omega)
theorem foldR_append (r : Nat) (a b : List UInt8) : foldR r (a ++ b) = foldR (foldR r a) b := by simp [foldR]
theorem foldR_snoc (r : Nat) (a : List UInt8) (c : UInt8) : foldR r (a ++ [c]) = tkR (foldR r a) c.toNat := by simp [foldR]

theorem add_xor {c : Nat} (y : Nat) (h : c < 256) : c + 256 * y = c ^^^ (256 * y) := by
  apply Nat.eq_of_testBit_eq
  intro j
  have h1 := Nat.testBit_two_pow_mul_add y (b := c) (i := 8) (by omega) j
  have h2 := @Nat.testBit_two_pow_mul 8 y j
  rw [show (2 : Nat) ^ 8 = 256 from rfl] at h1 h2
  rw [Nat.testBit_xor, Nat.add_comm, h1, h2]
  by_cases hj : j < 8
  · rw [if_pos hj]
    simp [show ¬ (8 ≤ j) by omega]
  · rw [if_neg hj]
    have : c.testBit j = false := Nat.testBit_lt_two_pow (Nat.lt_of_lt_of_le h (by
      calc 256 = 2 ^ 8 := rfl
        _ ≤ 2 ^ j := Nat.pow_le_pow_right (by decide) (by omega)))
    simp [this, show 8 ≤ j by omega]
theorem foldR_leL (r : Nat) (l : List UInt8) : foldR r l = stpN (8 * l.length) (r ^^^ leL l) := by
  induction l generalizing r with
  | nil => simp [foldR, leL, stpN]
  | cons c l ih =>
    show foldR (tkR r c.toNat) l = _
    rw [ih, leL, add_xor _ (UInt8.toNat_lt c), ← Nat.xor_assoc, List.length_cons, show 8 * (l.length + 1) = 8 + 8 * l.length by omega, stpN_add, stpN_xor 8 _ (256 * leL l)]
    have := stpN_shl 8 (leL l)
    rw [show (2 : Nat) ^ 8 = 256 from rfl] at this
    rw [this]
    rfl

/-- Four bytes of a number. -/
def fourL (n : Nat) : List UInt8 := [UInt8.ofNat (n % 256), UInt8.ofNat (n / 256 % 256), UInt8.ofNat (n / 65536 % 256), UInt8.ofNat (n / 16777216 % 256)]
theorem fourL_length (n : Nat) : (fourL n).length = 4 := rfl
theorem leL_fourL {n : Nat} (h : n < 4294967296) : leL (fourL n) = n := by
  unfold fourL
  simp only [leL]
  rw [toNat_of (by omega), toNat_of (by omega), toNat_of (by omega), toNat_of (by omega)]
  omega
theorem u8_ext {a b : UInt8} (h : a.toNat = b.toNat) : a = b := UInt8.toNat_inj.1 h
theorem leL_inj {a b : List UInt8} (hl : a.length = b.length) (h : leL a = leL b) : a = b := by
  induction a generalizing b with
  | nil => cases b with
    | nil => rfl
    | cons y b => simp at hl
  | cons x a ih => cases b with
    | nil => simp at hl
    | cons y b =>
      simp only [leL] at h
      have hx := UInt8.toNat_lt x
      have hy := UInt8.toNat_lt y
      have e1 : x = y := u8_ext (by omega)
      rw [e1, ih (by simpa using hl) (by omega)]
theorem leL_lt (l : List UInt8) : leL l < 256 ^ l.length := by
  induction l with
  | nil => simp [leL]
  | cons c l ih =>
    have := UInt8.toNat_lt c
    simp only [leL, List.length_cons, Nat.pow_succ]
    omega
theorem fourL_leL {l : List UInt8} (h : l.length = 4) : fourL (leL l) = l := by
  have := leL_lt l
  rw [h] at this
  exact leL_inj (by rw [h]; rfl) (leL_fourL (by simpa using this))

/-- A number's place in bytes. -/
theorem leL_set (l : List UInt8) (i j : Nat) (hi : i < l.length) (hj : j < 8) : leL (l.set i (UInt8.ofNat (l[i].toNat ^^^ 2 ^ j))) = leL l ^^^ 2 ^ (8 * i + j) := by
  have hp : 2 ^ j < 256 := by
    calc 2 ^ j < 2 ^ 8 := Nat.pow_lt_pow_right (by decide) hj
      _ = 256 := rfl
  induction l generalizing i with
  | nil => simp at hi
  | cons c l ih =>
    have hc := UInt8.toNat_lt c
    cases i with
    | zero =>
      have hx : c.toNat ^^^ 2 ^ j < 256 := Nat.xor_lt_two_pow (n := 8) hc hp
      simp only [List.set_cons_zero, leL, List.getElem_cons_zero]
      rw [toNat_of hx, add_xor _ hx, add_xor _ hc, show 8 * 0 + j = j by omega, Nat.xor_assoc, Nat.xor_comm (2 ^ j), ← Nat.xor_assoc]
    | succ i =>
      simp only [List.set_cons_succ, leL, List.getElem_cons_succ]
      have hi' : i < l.length := by simpa using hi
      rw [ih i hi', add_xor _ hc, add_xor _ hc]
      rw [Nat.xor_assoc]
      congr 1
      apply Nat.eq_of_testBit_eq
      intro k
      have h1 := @Nat.testBit_two_pow_mul 8 (leL l ^^^ 2 ^ (8 * i + j)) k
      have h2 := @Nat.testBit_two_pow_mul 8 (leL l) k
      rw [show (2 : Nat) ^ 8 = 256 from rfl] at h1 h2
      rw [Nat.testBit_xor, h1, h2, Nat.testBit_xor, Nat.testBit_two_pow, Nat.testBit_two_pow]
      by_cases hk : 8 ≤ k
      · simp only [ge_iff_le, hk, decide_true, Bool.true_and]
        congr 1
        simp only [decide_eq_decide]
        omega
      · simp only [ge_iff_le, hk, decide_false, Bool.false_and, Bool.false_bne]
        symm
        simp
        omega

/-- The frame of a kind and a load. -/
def headL (k : Nat) (load : List UInt8) : List UInt8 := UInt8.ofNat k :: fourL load.length ++ load
def frameL (k : Nat) (load : List UInt8) : List UInt8 := headL k load ++ fourL (sumL (headL k load))
def frameB (p : List UInt8) : Bool := decide (9 ≤ p.length) && (decide (1 ≤ (p.getD 0 0).toNat) && decide ((p.getD 0 0).toNat ≤ 15)) && (decide (leL ((p.drop 1).take 4) ≤ 65536) && decide (leL ((p.drop 1).take 4) + 9 = p.length))
/-- What Open tells of bytes. -/
def openL (p : List UInt8) : Nat × List UInt8 × Int :=
  if frameB p then (if leL (p.drop (p.length - 4)) = sumL (p.take (p.length - 4)) then ((p.getD 0 0).toNat, (p.take (p.length - 4)).drop 5, 0) else (0, [], 9)) else (0, [], 2)
end Go.Proofs.YtlioiblpcpaejaaGreat

namespace Go.Proofs.YtlioiblpcpaejaaGreat
set_option linter.unusedVariables false

/-- Names. -/
def letB (c : UInt8) : Bool := decide (97 ≤ c.toNat ∧ c.toNat ≤ 122)

def decB (c : UInt8) : Bool := decide (48 ≤ c.toNat ∧ c.toNat ≤ 57)

def namB (c : UInt8) : Bool := letB c || decB c || decide (c.toNat = 45)

def nameL (l : List UInt8) : Bool := decide (1 ≤ l.length ∧ l.length ≤ 32) && (letB (l.headD 0) && l.all namB)
theorem nodeB_parts (c r : Int) : nodeB c r = (rootB c r || trashB c r || rightB c r) := by
  unfold nodeB rootB trashB rightB
  rw [Bool.eq_iff_iff]
  simp
  omega
structure Ch where
  ac : Int
  ar : Int
  seq : Int
  deps : List Int
  kind : Int
  nc : Int
  nr : Int
  pc : Int
  pr : Int
  fc : Int
  fr : Int
  name : ByteArray
  value : ByteArray

def Ch.none : Ch := ⟨0, 0, 0, [], 0, 0, 0, 0, 0, 0, 0, ⟨#[]⟩, ⟨#[]⟩⟩

def hasNode (k : Int) : Bool := decide (k ≠ 1)

def hasPlace (k : Int) : Bool := decide (k = 1 ∨ k = 2)

def hasName (k : Int) : Bool := decide (k = 1 ∨ k = 3 ∨ k = 4)

def hasValue (k : Int) : Bool := decide (k = 3 ∨ k = 5)

def aheadB (c r ac ar : Int) : Bool := rightB c r && lessS c r ac ar

def kindB (k : Int) : Bool := decide (1 ≤ k ∧ k ≤ 5)

def depsE (c : Ch) : Int := if checkL c.deps = 0 then (if (trimL c.deps).length = c.deps.length ∧ atL c.deps c.ar = c.seq - 1 then 0 else 2) else checkL c.deps

def nodeR (c : Ch) : Bool := if c.kind = 1 then decide (c.nc = c.ac ∧ c.nr = c.ar) else if c.kind = 2 then aheadB c.nc c.nr c.ac c.ar else (rootB c.nc c.nr || aheadB c.nc c.nr c.ac c.ar)

def placeR (c : Ch) : Bool := if hasPlace c.kind = true then ((nodeB c.pc c.pr && (lessS c.pc c.pr c.ac c.ar && !decide (c.pc = c.nc ∧ c.pr = c.nr))) && (rootB c.fc c.fr || aheadB c.fc c.fr c.ac c.ar)) else (rootB c.pc c.pr && rootB c.fc c.fr)

def nameR (c : Ch) : Bool := if hasName c.kind = true then nameL c.name.data.toList else decide (c.name.size = 0)

def valueE (c : Ch) : Int := if 256 < c.value.size then 3 else if hasValue c.kind = false ∧ c.value.size ≠ 0 then 2 else 0

/-- What Check tells. -/
def checkCh (c : Ch) : Int :=
  if kindB c.kind = true then
    if rightB c.ac c.ar = true then
      if 1 ≤ c.seq ∧ c.seq ≤ c.ac then
        if depsE c = 0 then
          if nodeR c = true ∧ placeR c = true then
            if nameR c = true then valueE c else 8
          else 2
        else depsE c
      else 1
    else 2
  else 1

theorem checkCh_ok (c : Ch) (h : checkCh c = 0) : kindB c.kind = true ∧ rightB c.ac c.ar = true ∧ (1 ≤ c.seq ∧ c.seq ≤ c.ac) ∧ depsE c = 0 ∧ nodeR c = true ∧ placeR c = true ∧ nameR c = true ∧ valueE c = 0 := by
  unfold checkCh at h
  split at h
  · split at h
    · split at h
      · split at h
        · split at h
          · split at h
            · rename_i a b c d e f; exact ⟨a, b, c, d, e.1, e.2, f, h⟩
            · cases h
          · cases h
        · rename_i g; exact absurd h g
      · cases h
    · cases h
  · cases h

theorem trim_take_len (l : List Int) : trimL l = l.take (trimL l).length := by
  induction l with
  | nil => rfl
  | cons x t ih =>
    rw [trim_cons]
    by_cases h : trimL t = []
    · rw [if_pos h]
      by_cases h0 : x = 0
      · rw [if_pos h0]; rfl
      · rw [if_neg h0]; rfl
    · rw [if_neg h, List.length_cons, List.take_succ_cons, ← ih]

theorem depsE_ok (c : Ch) (h : depsE c = 0) : checkL c.deps = 0 ∧ trimL c.deps = c.deps ∧ atL c.deps c.ar = c.seq - 1 := by
  unfold depsE at h
  split at h
  · rename_i h0
    split at h
    · rename_i h1
      refine ⟨h0, ?_, h1.2⟩
      have h2 := trim_take_len c.deps
      rw [h1.1, List.take_length] at h2
      exact h2
    · cases h
  · rename_i g; exact absurd h g

theorem nameL_blank {l : List UInt8} (h : nameL l = true) : (32 : UInt8) ∉ l := fun hm => by
  unfold nameL at h
  simp only [Bool.and_eq_true, List.all_eq_true] at h
  have := h.2.2 32 hm
  revert this
  decide

theorem size_list (s : ByteArray) : s.data.toList.length = s.size := by simp

theorem bytes_ext {s t : ByteArray} (h : s.data.toList = t.data.toList) : s = t := by
  cases s; cases t
  simp only [ByteArray.mk.injEq]
  exact Array.toList_inj.1 h

theorem bytes_none {s : ByteArray} (h : s.size = 0) : s = ⟨#[]⟩ := bytes_ext (by
  have := size_list s
  rw [h] at this
  exact List.eq_nil_of_length_eq_zero this)

/-- A right change, taken apart. -/
theorem ahead_node {c r ac ar : Int} (h : aheadB c r ac ar = true) : nodeB c r = true := by
  unfold aheadB at h
  simp only [Bool.and_eq_true] at h
  rw [nodeB_parts, h.1]; simp

theorem root_node {c r : Int} (h : rootB c r = true) : nodeB c r = true := by rw [nodeB_parts, h]; simp

structure Fine (c : Ch) : Prop where
  kind : c.kind = 1 ∨ c.kind = 2 ∨ c.kind = 3 ∨ c.kind = 4 ∨ c.kind = 5
  at_ : nodeB c.ac c.ar = true
  seq0 : 0 ≤ c.seq
  seq1 : c.seq ≤ 1099511627776
  deps : checkL c.deps = 0
  trim : trimL c.deps = c.deps
  node : nodeB c.nc c.nr = true
  made : c.kind = 1 → c.nc = c.ac ∧ c.nr = c.ar
  parent : nodeB c.pc c.pr = true
  after : nodeB c.fc c.fr = true
  noplace : hasPlace c.kind = false → c.pc = 0 ∧ c.pr = 0 ∧ c.fc = 0 ∧ c.fr = 0
  name : hasName c.kind = true → (32 : UInt8) ∉ c.name.data.toList
  noname : hasName c.kind = false → c.name = ⟨#[]⟩
  novalue : hasValue c.kind = false → c.value = ⟨#[]⟩

theorem fine (c : Ch) (h : checkCh c = 0) : Fine c := by
  obtain ⟨h1, h2, h3, h4, h5, h6, h7, h8⟩ := checkCh_ok c h
  obtain ⟨d1, d2, d3⟩ := depsE_ok c h4
  have h2' := h2
  simp only [rightB, decide_eq_true_eq] at h2'
  simp only [kindB, decide_eq_true_eq] at h1
  have hat : nodeB c.ac c.ar = true := by rw [nodeB_parts, h2]; simp
  unfold placeR at h6
  unfold nodeR at h5
  unfold nameR at h7
  refine ⟨by omega, hat, by omega, by omega, d1, d2, ?_, ?_, ?_, ?_, ?_, ?_, ?_, ?_⟩
  · split at h5
    · simp only [decide_eq_true_eq] at h5; rw [h5.1, h5.2]; exact hat
    · split at h5
      · exact ahead_node h5
      · rcases Bool.or_eq_true _ _ ▸ h5 with h | h
        · exact root_node h
        · exact ahead_node h
  · intro hk
    rw [if_pos hk] at h5
    simpa using h5
  · split at h6
    · simp only [Bool.and_eq_true] at h6; exact h6.1.1
    · simp only [Bool.and_eq_true] at h6; exact root_node h6.1
  · split at h6
    · simp only [Bool.and_eq_true, Bool.or_eq_true] at h6
      rcases h6.2 with h | h
      · exact root_node h
      · exact ahead_node h
    · simp only [Bool.and_eq_true] at h6; exact root_node h6.2
  · intro hp
    rw [if_neg (by simp [hp])] at h6
    simp only [Bool.and_eq_true, rootB, decide_eq_true_eq] at h6
    exact ⟨h6.1.1, h6.1.2, h6.2.1, h6.2.2⟩
  · intro hn
    rw [if_pos hn] at h7
    exact nameL_blank h7
  · intro hn
    rw [if_neg (by simp [hn])] at h7
    exact bytes_none (by simpa using h7)
  · intro hv
    unfold valueE at h8
    split at h8
    · cases h8
    · split at h8
      · cases h8
      · rename_i g
        exact bytes_none (by
          rcases Nat.eq_zero_or_pos c.value.size with h | h
          · exact h
          · exact absurd ⟨hv, by omega⟩ g)

theorem ch_ext {c d : Ch} (h1 : c.ac = d.ac ∧ c.ar = d.ar) (h2 : c.seq = d.seq) (h3 : c.deps = d.deps) (h4 : c.kind = d.kind) (h5 : c.nc = d.nc ∧ c.nr = d.nr) (h6 : c.pc = d.pc ∧ c.pr = d.pr) (h7 : c.fc = d.fc ∧ c.fr = d.fr) (h8 : c.name = d.name) (h9 : c.value = d.value) : c = d := by
  obtain ⟨h1, h1'⟩ := h1
  obtain ⟨h5, h5'⟩ := h5
  obtain ⟨h6, h6'⟩ := h6
  obtain ⟨h7, h7'⟩ := h7
  cases c; cases d
  simp_all

end Go.Proofs.YtlioiblpcpaejaaGreat

namespace Go.Proofs.YtlioiblpcpaejaaGreat
open Go.RowKit
set_option linter.unusedVariables false


/-- The bounds of an int. -/
theorem bounds_int {x : Int} (h : (Lit.int .i64 x).wf = true) : -9223372036854775808 ≤ x ∧ x < 9223372036854775808 := by
  simp [Lit.wf, IntKind.min, IntKind.max, IntKind.signed, IntKind.bits] at h
  exact ⟨by omega, by omega⟩

/-- From block b, offset o on lie these bytes. -/
def BytesAt (w : World) (b o : Nat) (p : List UInt8) : Prop := ∀ i (h : i < p.length), w.cell? ⟨b, o + i, none⟩ = some (.int .u8 (p[i].toNat : Int))
theorem BytesAt.lt {w : World} {b o : Nat} {d : List UInt8} (h : BytesAt w b o d) (hd : d ≠ []) : b < w.heap.size := by
  have h0 := h 0 (by cases d with | nil => exact absurd rfl hd | cons x y => simp)
  rcases Nat.lt_or_ge b w.heap.size with h' | h'
  · exact h'
  · simp [World.cell?, h'] at h0
theorem BytesAt.block {w w' : World} {b o : Nat} {d : List UInt8} (h : BytesAt w b o d) (hb : w'.heap[b]? = w.heap[b]?) : BytesAt w' b o d :=
  fun i hi => (World.cell?_of_block (w := w) (a := ⟨b, o + i, none⟩) hb).trans (h i hi)
theorem BytesAt.below {w w' : World} {b o : Nat} {d : List UInt8} (h : BytesAt w b o d) (hb : Below w.heap.size w w') : BytesAt w' b o d := by
  intro i hi
  have hlt := h.lt (by intro e; subst e; simp at hi)
  exact (hb.cell (p := ⟨b, o + i, none⟩) hlt).trans (h i hi)
theorem BytesAt.take {w : World} {b o : Nat} {d : List UInt8} (h : BytesAt w b o d) (e : Nat) : BytesAt w b o (d.take e) := by
  intro i hi
  rw [List.length_take] at hi
  rw [List.getElem_take]
  exact h i (by omega)
theorem BytesAt.drop {w : World} {b o : Nat} {d : List UInt8} (h : BytesAt w b o d) (e : Nat) : BytesAt w b (o + e) (d.drop e) := by
  intro i hi
  rw [List.length_drop] at hi
  rw [List.getElem_drop, show o + e + i = o + (e + i) by omega]
  exact h (e + i) (by omega)

/-- The value is a slice of these bytes. -/
def IsB (w : World) (v : Value) (p : List UInt8) : Prop :=
  ∃ (a : Option Addr) (cap : Nat), v = .slice a p.length cap ∧ p.length ≤ cap ∧ p.length ≤ 281474976710656 ∧ (p = [] ∨ ∃ b o, a = some ⟨b, o, none⟩ ∧ BytesAt w b o p)
theorem IsB.below {w w' : World} {v : Value} {d : List UInt8} (h : IsB w v d) (hb : Below w.heap.size w w') : IsB w' v d := by
  obtain ⟨a, cap, e, hc, hl, h⟩ := h
  exact ⟨a, cap, e, hc, hl, h.imp id fun ⟨b, o, e2, hr⟩ => ⟨b, o, e2, hr.below hb⟩⟩
theorem IsB.form {w : World} {v : Value} {d : List UInt8} (h : IsB w v d) : ∃ a cap, v = .slice a d.length cap := by obtain ⟨a, cap, e, _⟩ := h; exact ⟨a, cap, e⟩
theorem IsB.non {w : World} (cap : Nat) : IsB w (.slice none 0 cap) [] := ⟨none, cap, rfl, Nat.zero_le _, by simp, .inl rfl⟩
theorem IsB.len {w : World} {v : Value} {d : List UInt8} (h : IsB w v d) : d.length ≤ 281474976710656 := by obtain ⟨_, _, _, _, h, _⟩ := h; exact h

/-- The call's own row of these bytes, in a block from B on. -/
def cellsB (d : List UInt8) : List Value := d.map fun x => .int .u8 (x.toNat : Int)
def OwnB (B : Nat) (w : World) (v : Value) (D : List UInt8) : Prop := w.ownsRow B 5 1 v D.length (cellsB D)
theorem cellsB_length (d : List UInt8) : (cellsB d).length = d.length * 1 := by simp [cellsB]
theorem cellsB_one (d : List UInt8) : ∀ u ∈ cellsB d, u.oneCell' = true := by
  intro u hu
  simp only [cellsB, List.mem_map] at hu
  obtain ⟨x, _, rfl⟩ := hu
  rfl
theorem cellsB_append (a b : List UInt8) : cellsB (a ++ b) = cellsB a ++ cellsB b := by simp [cellsB]
theorem strCells_eq (s : ByteArray) : Lib.strCells s = cellsB s.data.toList := rfl
theorem BytesAt.news {w : World} {b o : Nat} {d : List UInt8} (h : BytesAt w b o d) : ∀ j u, (cellsB d)[j]? = some u → w.cell? ((⟨b, o, none⟩ : Addr).add j) = some u := by
  intro j u hj
  obtain ⟨hl, he⟩ := List.getElem?_eq_some_iff.1 hj
  have hl' : j < d.length := by simpa [cellsB] using hl
  have := h j hl'
  simp [cellsB] at he
  subst he
  rw [Addr.add_lit]
  exact this
theorem OwnB.below {B : Nat} {w w' : World} {v : Value} {D : List UInt8} (h : OwnB B w v D) (hb : Below w.heap.size w w') : OwnB B w' v D := by
  refine ⟨h.1, ?_⟩
  rcases h.2 with hn | ⟨g, cap, cur, hv, hg, hc, rest⟩
  · exact .inl hn
  · refine .inr ⟨g, cap, cur, hv, hg, ?_, rest⟩
    have hlt : g < w.heap.size := (Array.getElem?_eq_some_iff.1 hc).1
    rw [hb.block g hlt]
    exact hc
theorem OwnB.cut {B B' : Nat} {w : World} {v : Value} {D : List UInt8} (h : OwnB B w v D) (hB : B' ≤ B) : OwnB B' w v D := by
  refine ⟨h.1, h.2.imp id fun ⟨g, cap, cur, hv, hg, rest⟩ => ⟨g, cap, cur, hv, Nat.le_trans hB hg, rest⟩⟩
theorem OwnB.isB {B : Nat} {w : World} {v : Value} {D : List UInt8} (h : OwnB B w v D) (hl : D.length ≤ 281474976710656) : IsB w v D := by
  have h0 := h
  rcases h.2 with ⟨rfl, hn⟩ | ⟨g, cap, cur, rfl, hg, hc, hcap, rest⟩
  · have e : D = [] := List.eq_nil_of_length_eq_zero hn
    subst e
    exact IsB.non 0
  · refine ⟨_, cap, rfl, hcap, hl, .inr ⟨g, 0, rfl, fun i hi => ?_⟩⟩
    have := h0.cellAt i (by omega)
    rw [show 0 + i = i by omega, this]
    simp [cellsB, hi]
theorem OwnB.more {B : Nat} {w : World} {v : Value} {D E : List UInt8} {n : Nat} {cs : List Value} (h : w.ownsRow B 5 1 v n cs) (hn : n = D.length + E.length) (hc : cs = cellsB D ++ cellsB E) : OwnB B w v (D ++ E) := by
  unfold OwnB
  rw [cellsB_append, ← hc, List.length_append, ← hn]
  exact h
theorem OwnB.nil0 (w : World) (B : Nat) : OwnB B w (.slice none 0 0) [] := World.ownsRow_nil _ _ _ _
theorem OwnB.empty (w : World) (B : Nat) (hB : B ≤ w.heap.size) : OwnB B (w.alloc (.cells #[] 5)) (.slice (some ⟨w.heap.size, 0, none⟩) 0 0) [] :=
  World.ownsRow_made w #[] 0 hB (by unfold maxLen; omega) (by simp)
theorem OwnB.block {B : Nat} {w : World} {v : Value} {D : List UInt8} (h : OwnB B w v D) : ∀ k, v.ownBlock = some k → B ≤ k := fun k e => (World.ownsRow.lt h k e).1
theorem OwnB.form {B : Nat} {w : World} {v : Value} {D : List UInt8} (h : OwnB B w v D) : ∃ a cap, v = .slice a D.length cap := by
  rcases h.2 with ⟨rfl, hn⟩ | ⟨g, cap, cur, rfl, _⟩
  · exact ⟨none, 0, by rw [hn]⟩
  · exact ⟨_, cap, rfl⟩
theorem infoByte : (Tryz.prog.info? 5).map (fun i => (i.zero, i.size, i.bytes)) = some (some (.int .u8 0), 1, 1) := by kernel_rfl

/-- string(b) of a slice of bytes. -/
def txt (p : List UInt8) : ByteArray := ⟨p.toArray⟩
theorem txt_inj {a b : List UInt8} (h : txt a = txt b) : a = b := by
  have := congrArg (fun s : ByteArray => s.data.toList) h
  simpa [txt] using this

theorem grownBy.trans2 {a b c : World} {r : Option Nat} (h : a.grownBy b r) (k : b.grownBy c r) : a.grownBy c r :=
  ⟨k.os.trans h.os, k.tape.trans h.tape, k.output.trans h.output, Nat.le_trans h.size k.size, fun i hi hne => (k.block i (Nat.lt_of_lt_of_le hi h.size) hne).trans (h.block i hi hne)⟩
theorem grownBy.same (a : World) (r : Option Nat) : a.grownBy a r := ⟨rfl, rfl, rfl, Nat.le_refl _, fun _ _ _ => rfl⟩
theorem grownBy.ofBelow {a b : World} (h : Below a.heap.size a b) (r : Option Nat) : a.grownBy b r := ⟨h.os, h.tape, h.output, h.size, fun i hi _ => h.block i hi⟩
theorem grownBy.drewN {a b : World} {r : Option Nat} (h : a.grownBy b r) (n : Nat) : a.grownBy (b.drewN n) r := ⟨h.os, h.tape, h.output, h.size, h.block⟩

/-- 'append([]byte(nil), b...)': the bytes in a row of the call's own. -/
theorem wpList_copyB {w : World} {ops : Array Oper} {rest : List Oper} {o : Oper} {a : Act} {Q : Exit → Act → World → Prop} (hgd : o.guard = none) (s x : Operand)
    (ho : o.op = .call { callee := .builtin .append, args := #[s, x], argTypes := #[22, 22] })
    (v : Value) (p : List UInt8) (hs : a.eval s = .slice none 0 0) (hx : a.eval x = v) (hv : IsB w v p) (hp : p.length ≤ 140737488355328)
    (h : ∀ v' w', OwnB w.heap.size w' v' p → Below w.heap.size w w' → wpList Tryz.prog ops Q rest (a.put o.dst v') w') : wpList Tryz.prog ops Q (o :: rest) a w := by
  obtain ⟨i0, hi, hz0, hz1, hz2⟩ := info_parts infoByte
  obtain ⟨a1, c1, rfl, hc1, hl1, r1⟩ := hv
  cases a1 with
  | none =>
    obtain rfl : p = [] := by rcases r1 with h | ⟨b, o, h, _⟩; exact h; cases h
    have hcl : ∀ ty c w, (Builtin.append_ #[22, 22] ty #[.slice none 0 0, .slice none 0 c]).run Tryz.prog w = .ok (.slice none 0 0) w := fun ty c w => by
      simp [Builtin.append_, run_underlying Tryz.underlying22, sizeOf, typeInfo, hi, Builtin.lenOf, Builtin.firstCells]
    refine wpList_plain hgd fun K hK => ?_
    unfold Oper.wp
    simp only [List.length_nil] at hx
    simp [execOp, ho, resolve, invoke, builtin, hs, hx, hcl, Result.andThen]
    exact hK _ _ (h _ _ (OwnB.nil0 _ _) (Below.refl _ _))
  | some ad =>
    refine wpList_append_own _ hgd s x 22 ho w.heap.size 5 i0 (.int .u8 0) 1 1 Tryz.underlying22 hi hz0 hz1 hz2 rfl (by decide) _ _ _ hs (World.ownsRow_nil _ _ _ _) ad p.length c1 (cellsB p) hx (cellsB_length p) ?_ (cellsB_one p) (by unfold maxLen; omega) (by omega) (Nat.le_refl _) ?_
    · intro j u hj
      rcases r1 with rfl | ⟨b, o, e, g⟩
      · simp [cellsB] at hj
      · cases e
        exact g.news j u hj
    · intro v3 w3 hown hgrow _
      refine h v3 w3 ?_ ((Below.refl _ _).grown hgrow (Nat.le_refl _) (fun j e => by cases e))
      unfold OwnB
      simpa using hown


theorem OwnB.rows {B : Nat} {w : World} {v : Value} {p : List UInt8} (h : OwnB B w v p) :
    ∃ a cap, v = .slice a p.length cap ∧ p.length ≤ cap ∧ (p = [] ∨ ∃ b o, a = some ⟨b, o, none⟩ ∧ B ≤ b ∧ b < w.heap.size ∧ BytesAt w b o p) := by
  have h0 := h
  rcases h.2 with ⟨rfl, hn⟩ | ⟨g, cap, cur, rfl, hg, hc, hcap, rest⟩
  · have e : p = [] := List.eq_nil_of_length_eq_zero hn
    subst e
    exact ⟨none, 0, rfl, Nat.le_refl _, .inl rfl⟩
  · refine ⟨_, cap, rfl, hcap, .inr ⟨g, 0, rfl, hg, (Array.getElem?_eq_some_iff.1 hc).1, fun i hi => ?_⟩⟩
    have := h0.cellAt i (by omega)
    rw [show 0 + i = i by omega, this]
    simp [cellsB, hi]

/-- string(b). -/
theorem conv_txt {w : World} {v : Value} {p : List UInt8} (h : IsB w v p) : (convert 22 9 v).run Tryz.prog w = .ok (.string (txt p)) w := by
  obtain ⟨a, cap, rfl, hc, hl, r⟩ := h
  rcases r with rfl | ⟨b, o, rfl, hb⟩
  · rw [run_convert_bytes_string w _ _ _ _ _ _ Tryz.underlying22 Tryz.underlying5 Tryz.underlying9]
    cases a <;> simp [Conv.bytesToString, loadCells]
    all_goals rfl
  · exact run_convert_bytes_back (P := Tryz.prog) w _ _ _ ⟨b, o, none⟩ cap p Tryz.underlying22 Tryz.underlying5 Tryz.underlying9 (fun j hj => by rw [Addr.add_lit]; exact hb j hj)

theorem IsB.sub {w : World} {z : Option Addr} {q : List UInt8} {c : Nat} (h : IsB w (.slice z q.length c) q) (s n : Nat) (hn : s + n ≤ q.length) : IsB w (.slice (Option.map (fun x => x.add s) z) n (c - s)) ((q.drop s).take n) := by
  obtain ⟨a, cap, e, hc, hl, r⟩ := h
  cases e
  have hlen : ((q.drop s).take n).length = n := by rw [List.length_take, List.length_drop]; omega
  refine ⟨_, c - s, by rw [hlen], by rw [hlen]; omega, by rw [hlen]; omega, ?_⟩
  rcases r with rfl | ⟨b, o, rfl, hb⟩
  · exact .inl (by simp)
  · exact .inr ⟨b, o + s, by rw [Option.map_some, Addr.add_lit], (hb.drop s).take n⟩
theorem IsB.head {w : World} {z : Option Addr} {q : List UInt8} {c : Nat} (h : IsB w (.slice z q.length c) q) (n : Nat) (hn : n ≤ q.length) : IsB w (.slice z n c) (q.take n) := by
  obtain ⟨a, cap, e, hc, hl, r⟩ := h
  cases e
  have hlen : (q.take n).length = n := by rw [List.length_take]; omega
  refine ⟨z, c, by rw [hlen], by rw [hlen]; omega, by rw [hlen]; omega, ?_⟩
  rcases r with rfl | ⟨b, o, rfl, hb⟩
  · exact .inl (by simp)
  · exact .inr ⟨b, o, rfl, hb.take n⟩
theorem IsB.none0 {w : World} (z : Option Addr) (c : Nat) : IsB w (.slice z 0 c) [] := ⟨z, c, rfl, Nat.zero_le _, by simp, .inl rfl⟩

/-- 'append(out, b...)', out a row of the call's own, b any slice of bytes. -/
theorem wpList_appB {w : World} {ops : Array Oper} {rest : List Oper} {o : Oper} {a : Act} {Q : Exit → Act → World → Prop} (hgd : o.guard = none) (s x : Operand)
    (ho : o.op = .call { callee := .builtin .append, args := #[s, x], argTypes := #[22, 22] })
    (B : Nat) (v : Value) (D : List UInt8) (hs : a.eval s = v) (hown : OwnB B w v D) (hB : B ≤ w.heap.size) (vx : Value) (p : List UInt8) (hx : a.eval x = vx) (hv : IsB w vx p) (hl : D.length + p.length ≤ 140737488355328)
    (h : ∀ v' w', OwnB B w' v' (D ++ p) → w.grownBy w' v.ownBlock → wpList Tryz.prog ops Q rest (a.put o.dst v') w') : wpList Tryz.prog ops Q (o :: rest) a w := by
  obtain ⟨i0, hi, hz0, hz1, hz2⟩ := info_parts infoByte
  obtain ⟨a1, c1, rfl, hc1, hl1, r1⟩ := hv
  cases a1 with
  | none =>
    obtain rfl : p = [] := by rcases r1 with h | ⟨b, o, h, _⟩; exact h; cases h
    have hcl : ∀ ty, (Builtin.append_ #[22, 22] ty #[v, .slice none 0 c1]).run Tryz.prog w = .ok v w := fun ty => by
      rcases hown.2 with ⟨rfl, h0⟩ | ⟨g, cap, cur, rfl, _, _, hnc, _⟩
      · simp [Builtin.append_, run_underlying Tryz.underlying22, sizeOf, typeInfo, hi, Builtin.lenOf, Builtin.firstCells]
      · simp [Builtin.append_, run_underlying Tryz.underlying22, sizeOf, typeInfo, hi, Builtin.lenOf, Builtin.firstCells, hnc, storeCells]
    refine wpList_plain hgd fun K hK => ?_
    unfold Oper.wp
    simp only [List.length_nil] at hx
    simp [execOp, ho, resolve, invoke, builtin, hs, hx, hcl, Result.andThen]
    exact hK _ _ (h _ _ (by rw [List.append_nil]; exact hown) (grownBy.same _ _))
  | some ad =>
    refine wpList_append_own _ hgd s x 22 ho B 5 i0 (.int .u8 0) 1 1 Tryz.underlying22 hi hz0 hz1 hz2 rfl (by decide) _ _ _ hs hown ad p.length c1 (cellsB p) hx (cellsB_length p) ?_ (cellsB_one p) (by unfold maxLen; omega) (by omega) hB ?_
    · intro j u hj
      rcases r1 with rfl | ⟨b, o, e, g⟩
      · simp [cellsB] at hj
      · cases e
        exact g.news j u hj
    · intro v3 w3 hown3 hgrow _
      exact h v3 w3 (OwnB.more hown3 rfl rfl) hgrow

/-- 'append([]byte{}, b...)': where the walk stands behind the building of the empty slice. -/
theorem wpList_copyE {w : World} {ops : Array Oper} {rest : List Oper} {o : Oper} {a : Act} {Q : Exit → Act → World → Prop} (hgd : o.guard = none) (s x : Operand)
    (ho : o.op = .call { callee := .builtin .append, args := #[s, x], argTypes := #[22, 22] })
    (vx : Value) (p : List UInt8) (hs : a.eval s = .slice (some ⟨w.heap.size, 0, none⟩) 0 0) (hx : a.eval x = vx) (hv : IsB w vx p) (hp : p.length ≤ 140737488355328)
    (h : ∀ v' w', OwnB w.heap.size w' v' p → Below w.heap.size w w' → wpList Tryz.prog ops Q rest (a.put o.dst v') w') : wpList Tryz.prog ops Q (o :: rest) a (w.alloc (.cells #[] 5)) := by
  have hb : Below w.heap.size w (w.alloc (.cells #[] 5)) := (Below.refl _ _).alloc (Nat.le_refl _) _
  refine wpList_appB hgd s x ho w.heap.size _ [] hs (OwnB.empty w _ (Nat.le_refl _)) hb.size vx p hx (hv.below hb) (by simpa using hp) ?_
  intro v' w' ho' hg
  exact h v' w' ho' (hb.grown hg hb.size (OwnB.empty w _ (Nat.le_refl _)).block)

/-- A slice of these bytes that lies in another block than g. -/
def IsBn (g : Option Nat) (w : World) (v : Value) (p : List UInt8) : Prop :=
  ∃ (a : Option Addr) (cap : Nat), v = .slice a p.length cap ∧ p.length ≤ cap ∧ p.length ≤ 281474976710656 ∧ (p = [] ∨ ∃ b o, a = some ⟨b, o, none⟩ ∧ some b ≠ g ∧ BytesAt w b o p)
theorem IsBn.isB {g : Option Nat} {w : World} {v : Value} {p : List UInt8} (h : IsBn g w v p) : IsB w v p := by
  obtain ⟨a, cap, e, hc, hl, h⟩ := h
  exact ⟨a, cap, e, hc, hl, h.imp id fun ⟨b, o, e2, _, hr⟩ => ⟨b, o, e2, hr⟩⟩
theorem IsBn.below {g : Option Nat} {w w' : World} {v : Value} {p : List UInt8} (h : IsBn g w v p) (hb : Below w.heap.size w w') : IsBn g w' v p := by
  obtain ⟨a, cap, e, hc, hl, h⟩ := h
  exact ⟨a, cap, e, hc, hl, h.imp id fun ⟨b, o, e2, hn, hr⟩ => ⟨b, o, e2, hn, hr.below hb⟩⟩
theorem IsBn.grown {g : Option Nat} {w w' : World} {v : Value} {p : List UInt8} (h : IsBn g w v p) (hb : w.grownBy w' g) : IsBn g w' v p := by
  obtain ⟨a, cap, e, hc, hl, h⟩ := h
  refine ⟨a, cap, e, hc, hl, ?_⟩
  by_cases hp : p = []
  · exact .inl hp
  · obtain ⟨b, o, e2, hn, hr⟩ := h.resolve_left hp
    exact .inr ⟨b, o, e2, hn, hr.block (hb.block b (hr.lt hp) hn)⟩
theorem IsB.apart {w w' : World} {v u : Value} {p q : List UInt8} (h : IsB w v p) (hb : Below w.heap.size w w') (ho : OwnB w.heap.size w' u q) : IsBn u.ownBlock w' v p := by
  obtain ⟨a, cap, e, hc, hl, h⟩ := h
  refine ⟨a, cap, e, hc, hl, ?_⟩
  by_cases hp : p = []
  · exact .inl hp
  · obtain ⟨b, o, e2, hr⟩ := h.resolve_left hp
    refine .inr ⟨b, o, e2, fun e => ?_, hr.below hb⟩
    have h1 := ho.block b e.symm
    have h2 := hr.lt hp
    omega
theorem OwnB.apart {B : Nat} {w : World} {v : Value} {p : List UInt8} (h : OwnB B w v p) (hl : p.length ≤ 281474976710656) (g : Option Nat) (hg : ∀ k, g = some k → k < B) : IsBn g w v p := by
  obtain ⟨a, cap, e, hc, r⟩ := h.rows
  exact ⟨a, cap, e, hc, hl, r.imp id fun ⟨b, o, e2, hB, _, hr⟩ => ⟨b, o, e2, fun e3 => by have := hg b e3.symm; omega, hr⟩⟩
theorem IsBn.form {g : Option Nat} {w : World} {v : Value} {p : List UInt8} (h : IsBn g w v p) : ∃ a cap, v = .slice a p.length cap := by obtain ⟨a, cap, e, _⟩ := h; exact ⟨a, cap, e⟩
/-- One byte of an own row is written over. -/
theorem OwnB.write {B : Nat} {w : World} {g cap : Nat} {D : List UInt8} (h : OwnB B w (.slice (some ⟨g, 0, none⟩) D.length cap) D) (j : Nat) (c : UInt8) :
    OwnB B (w.setCell ⟨g, j, none⟩ (.int .u8 (c.toNat : Int))) (.slice (some ⟨g, 0, none⟩) D.length cap) (D.set j c) ∧ w.grownBy (w.setCell ⟨g, j, none⟩ (.int .u8 (c.toNat : Int))) (some g) := by
  obtain ⟨h1, h2⟩ := World.ownsRow.stored h j (.int .u8 (c.toNat : Int))
  refine ⟨?_, h2⟩
  unfold OwnB
  rw [List.length_set]
  have e : cellsB (D.set j c) = (cellsB D).set j (.int .u8 (c.toNat : Int)) := by simp [cellsB, List.map_set]
  rw [e]
  exact h1
theorem OwnB.cell {B : Nat} {w : World} {g cap n : Nat} {D : List UInt8} (h : OwnB B w (.slice (some ⟨g, 0, none⟩) n cap) D) (hn : n = D.length) {j : Nat} (hj : j < D.length) :
    w.cell? ⟨g, j, none⟩ = some (.int .u8 (D[j].toNat : Int)) ∧ w.frozen? ⟨g, j, none⟩ = false := by
  subst hn
  refine ⟨?_, World.ownsRow.frozenAt h j⟩
  rw [World.ownsRow.cellAt h j (by omega)]
  simp [cellsB, hj]

/-- A slice literal of bytes is the call's own. -/
theorem OwnB.made (w : World) (D : List UInt8) (cs : Array Value) (hc : cs.toList = cellsB D) (hl : D.length ≤ 140737488355328) {B : Nat} (hB : B ≤ w.heap.size) : OwnB B (w.alloc (.cells cs 5)) (.slice (some ⟨w.heap.size, 0, none⟩) D.length D.length) D := by
  have hs : cs.size = D.length := by rw [← Array.length_toList, hc]; simp [cellsB]
  refine ⟨by simp [cellsB], .inr ⟨w.heap.size, D.length, cs, rfl, hB, heap_alloc_new w _, Nat.le_refl _, by unfold maxLen; omega, by simp [hs], ?_⟩⟩
  rw [hc, List.take_of_length_le (by simp [cellsB])]

/-- 'append(out, b...)' in a region that draws its order. -/
theorem step_appS {w : World} {ops : Array Oper} {o : Oper} {a : Act} {K : Act → World → Prop} {Q : Exit → Act → World → Prop} {E : Prop} (hgd : o.guard = none) (s x : Operand)
    (ho : o.op = .call { callee := .builtin .append, args := #[s, x], argTypes := #[22, 22] })
    (B : Nat) (v : Value) (D : List UInt8) (hs : a.eval s = v) (hown : OwnB B w v D) (hB : B ≤ w.heap.size) (ad : Addr) (m c : Nat) (p : List UInt8) (hx : a.eval x = .slice (some ad) m c) (hv : IsB w (.slice (some ad) m c) p) (hl : D.length + p.length ≤ 140737488355328)
    (h : ∀ v' w', OwnB B w' v' (D ++ p) → w.grownBy w' v.ownBlock → K (a.put o.dst v') w') :
    if Region.wanted o (yielded ops a.tmps) = true then Oper.wp Tryz.prog o a w K Q else E := by
  obtain ⟨i0, hi, hz0, hz1, hz2⟩ := info_parts infoByte
  have hw : Region.wanted o (yielded ops a.tmps) = true := by simp [Region.wanted, hgd]
  rw [if_pos hw]
  obtain ⟨a1, c1, e, hc1, hl1, r1⟩ := hv
  cases e
  refine wp_append_own _ s x 22 ho B 5 i0 (.int .u8 0) 1 1 Tryz.underlying22 hi hz0 hz1 hz2 rfl (by decide) _ _ _ hs hown ad p.length c (cellsB p) hx (cellsB_length p) ?_ (cellsB_one p) (by unfold maxLen; omega) (by omega) hB ?_
  · intro j u hj
    rcases r1 with rfl | ⟨b, o, e, g⟩
    · simp [cellsB] at hj
    · cases e
      exact g.news j u hj
  · intro v3 w3 hown3 hgrow _
    exact h v3 w3 (OwnB.more hown3 rfl rfl) hgrow

end Go.Proofs.YtlioiblpcpaejaaGreat

namespace Go.Proofs.YtlioiblpcpaejaaGreat
open Go.RowKit
set_option linter.unusedVariables false

/-- A reader's block: these bytes, a place, an error; what it holds lies where L says. -/
def RdIs (L : Nat → Prop) (w : World) (g : Nat) (p : List UInt8) (k : Nat) (y : Int) : Prop :=
  ∃ (a : Option Addr) (cap : Nat), w.heap[g]? = some (.cells #[.slice a p.length cap, .int .i64 (k : Int), .int .i64 y] 68) ∧ L g ∧ p.length ≤ cap ∧ p.length ≤ 140737488355328 ∧ k ≤ p.length ∧ (p = [] ∨ ∃ b o, a = some ⟨b, o, none⟩ ∧ L b ∧ b ≠ g ∧ BytesAt w b o p)
theorem RdIs.lt {L : Nat → Prop} {w : World} {g : Nat} {p : List UInt8} {k : Nat} {y : Int} (h : RdIs L w g p k y) : g < w.heap.size := by
  obtain ⟨a, cap, h, _⟩ := h
  exact (Array.getElem?_eq_some_iff.1 h).1
theorem RdIs.low {L : Nat → Prop} {w : World} {g : Nat} {p : List UInt8} {k : Nat} {y : Int} (h : RdIs L w g p k y) : L g := by
  obtain ⟨a, cap, _, h, _⟩ := h
  exact h
theorem RdIs.at_le {L : Nat → Prop} {w : World} {g : Nat} {p : List UInt8} {k : Nat} {y : Int} (h : RdIs L w g p k y) : k ≤ p.length ∧ p.length ≤ 140737488355328 := by
  obtain ⟨a, cap, _, _, _, h1, h2, _⟩ := h
  exact ⟨h2, h1⟩
theorem RdIs.low' {L L2 : Nat → Prop} {w : World} {g : Nat} {p : List UInt8} {k : Nat} {y : Int} (h : RdIs L w g p k y) (hL : ∀ j, L j → L2 j) : RdIs L2 w g p k y := by
  obtain ⟨a, cap, h1, h2, h3, h4, h5, h6⟩ := h
  exact ⟨a, cap, h1, hL _ h2, h3, h4, h5, h6.imp id fun ⟨b, o, e, hb, rest⟩ => ⟨b, o, e, hL _ hb, rest⟩⟩
/-- What keeps a reader: all that leaves its own blocks alone. -/
theorem RdIs.kept {L : Nat → Prop} {w w' : World} {g : Nat} {p : List UInt8} {k : Nat} {y : Int} (h : RdIs L w g p k y) (hk : ∀ j, L j → j < w.heap.size → w'.heap[j]? = w.heap[j]?) : RdIs L w' g p k y := by
  have hlt := h.lt
  obtain ⟨a, cap, h1, h2, h3, h4, h5, h6⟩ := h
  refine ⟨a, cap, (hk g h2 hlt).trans h1, h2, h3, h4, h5, ?_⟩
  by_cases hp : p = []
  · exact .inl hp
  · obtain ⟨b, o, e, hb, hne, hB⟩ := h6.resolve_left hp
    exact .inr ⟨b, o, e, hb, hne, hB.block (hk b hb (hB.lt hp))⟩
theorem RdIs.below {L : Nat → Prop} {w w' : World} {g : Nat} {p : List UInt8} {k : Nat} {y : Int} (h : RdIs L w g p k y) (hb : Below w.heap.size w w') : RdIs L w' g p k y := h.kept fun j _ hj => hb.block j hj
theorem RdIs.other {L : Nat → Prop} {g2 : Nat} {w w' : World} {g : Nat} {p : List UInt8} {k : Nat} {y : Int} (h : RdIs L w g p k y) (hb : w.grownBy w' (some g2)) (h2 : ¬ L g2) : RdIs L w' g p k y :=
  h.kept fun j hj hs => hb.block j hs (fun e => by injection e with e; exact h2 (e ▸ hj))
end Go.Proofs.YtlioiblpcpaejaaGreat
