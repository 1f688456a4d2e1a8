/- Frames, plainly: Open undoes Seal, Seal undoes Open; a frame with bits of one stretch of 32 turned is none; nor is one cut short, or with bytes behind it. -/
import Derived.Test.YtcdnppiigejjgaaSeH
namespace Go.Proofs.Ytcdnppiigejjgaa
set_option linter.unusedVariables false

theorem frameL_take (k : Nat) (load : List UInt8) : (frameL k load).take (load.length + 5) = headL k load := by
  unfold frameL
  rw [List.take_append_of_le_length (by rw [headL_length]; omega), List.take_of_length_le (by rw [headL_length]; omega)]
theorem frameL_drop (k : Nat) (load : List UInt8) : (frameL k load).drop (load.length + 5) = fourL (sumL (headL k load)) := by
  unfold frameL
  rw [List.drop_append_of_le_length (by rw [headL_length]; omega), List.drop_of_length_le (by rw [headL_length]; omega)]
  rfl
theorem headL_drop (k : Nat) (load : List UInt8) : (headL k load).drop 5 = load := by simp [headL, fourL]
theorem frameL_zero (k : Nat) (load : List UInt8) (h : 0 < (frameL k load).length) : (frameL k load)[0] = UInt8.ofNat k := rfl
theorem frameL_size (k : Nat) (load : List UInt8) : ((frameL k load).drop 1).take 4 = fourL load.length := by
  simp [frameL, headL, fourL]
theorem frameB_frame {k : Nat} {load : List UInt8} (h1 : 1 ≤ k) (h2 : k ≤ 15) (h3 : load.length ≤ 65536) : frameB (frameL k load) = true := by
  have hl := frameL_length k load
  rw [frameB_long (by omega), frameL_zero, frameL_size, leL_fourL (by omega), toNat_of (by omega), hl]
  simp [h1, h2, h3]
theorem open_seal {k : Nat} {load : List UInt8} (h1 : 1 ≤ k) (h2 : k ≤ 15) (h3 : load.length ≤ 65536) : openL (frameL k load) = (k, load, 0) := by
  have hl := frameL_length k load
  have := openL_yes (p := frameL k load) (e := load.length + 5) (frameB_frame h1 h2 h3) (by omega) (by
    rw [frameL_take, frameL_drop, List.take_of_length_le (by simp [fourL]), leL_fourL (sumL_lt _)]) (by omega)
  rw [this, frameL_zero, frameL_take, headL_drop, toNat_of (by omega)]
theorem openL_err (p : List UInt8) : ((openL p).2.2 = 0) ∨ (openL p = (0, [], 2)) ∨ (openL p = (0, [], 9)) := by
  unfold openL
  split
  · split
    · exact .inl rfl
    · exact .inr (.inr rfl)
  · exact .inr (.inl rfl)
theorem seal_open {p : List UInt8} (h : (openL p).2.2 = 0) : 1 ≤ (openL p).1 ∧ (openL p).1 ≤ 15 ∧ (openL p).2.1.length ≤ 65536 ∧ frameL (openL p).1 (openL p).2.1 = p ∧ openL p = ((openL p).1, (openL p).2.1, 0) ∧ frameB p = true ∧ leL (p.drop (p.length - 4)) = sumL (p.take (p.length - 4)) := by
  have hf : frameB p = true := by
    cases hf : frameB p with
    | true => rfl
    | false => rw [openL_no hf] at h; cases h
  have h9 := frameB_nine hf
  obtain ⟨e, he⟩ : ∃ e, p.length = e + 4 := ⟨p.length - 4, by omega⟩
  by_cases hq : leL ((p.drop e).take 4) = sumL (p.take e)
  · have ho := openL_yes hf he hq (by omega)
    have hb := hf
    rw [frameB_long h9] at hb
    simp only [Bool.and_eq_true, decide_eq_true_eq] at hb
    obtain ⟨⟨q1, q2⟩, q3, q4⟩ := hb
    have hlen : ((p.take e).drop 5).length = leL ((p.drop 1).take 4) := by
      rw [List.length_drop, List.length_take]; omega
    have hq' := hq
    rw [List.take_of_length_le (by rw [List.length_drop]; omega)] at hq'
    rw [ho]
    refine ⟨q1, q2, by rw [hlen]; exact q3, ?_, rfl, hf, by rw [he, Nat.add_sub_cancel]; exact hq'⟩
    have hh : headL p[0].toNat ((p.take e).drop 5) = p.take e := by
      unfold headL
      rw [hlen, fourL_leL (by rw [List.length_take, List.length_drop]; omega)]
      have e1 : UInt8.ofNat p[0].toNat = p[0] := by simp
      rw [e1]
      have e2 : p.take e = p[0] :: ((p.drop 1).take 4 ++ (p.take e).drop 5) := by
        cases p with
        | nil => simp at h9
        | cons x t =>
          obtain ⟨e', rfl⟩ : ∃ e', e = e' + 1 := ⟨e - 1, by simp at he h9; omega⟩
          simp only [List.take_succ_cons, List.drop_succ_cons, List.drop_zero, List.getElem_cons_zero]
          congr 1
          conv => lhs; rw [← List.take_append_drop 4 (t.take e')]
          rw [List.take_take, Nat.min_eq_left (by simp at he h9; omega)]
      conv => rhs; rw [e2]
      rfl
    show frameL p[0].toNat ((p.take e).drop 5) = p
    unfold frameL
    rw [hh, ← hq', fourL_leL (by rw [List.length_drop]; omega), List.take_append_drop]
  · rw [openL_sum hf he hq] at h; cases h

/-- What the register is once a whole frame has gone through it. -/
theorem fold_frame {p : List UInt8} {e : Nat} (he : p.length = e + 4) (h : leL (p.drop e) = sumL (p.take e)) : stpN (8 * p.length) (4294967295 ^^^ leL p) = stpN 32 4294967295 := by
  rw [← foldR_leL]
  conv => lhs; rw [← List.take_append_drop e p]
  rw [foldR_append, foldR_leL _ (p.drop e), h, List.length_drop, he, Nat.add_sub_cancel_left]
  unfold sumL
  rw [← Nat.xor_assoc, Nat.xor_self, Nat.zero_xor]
theorem xor_cancel {a b c : Nat} (h : a ^^^ b = a ^^^ c) : b = c := by
  have := congrArg (fun x => a ^^^ x) h
  simpa only [← Nat.xor_assoc, Nat.xor_self, Nat.zero_xor] using this
/-- Bits of a stretch of 32, turned: the register tells. -/
theorem burst {p q : List UInt8} {m at_ : Nat} (hl : q.length = p.length) (hq : leL q = leL p ^^^ (2 ^ at_ * m)) (hm : m < 4294967296) (h0 : m ≠ 0) (hat : at_ ≤ 8 * p.length)
    (h1 : stpN (8 * p.length) (4294967295 ^^^ leL p) = stpN 32 4294967295) (h2 : stpN (8 * q.length) (4294967295 ^^^ leL q) = stpN 32 4294967295) : False := by
  rw [hl, hq, ← Nat.xor_assoc, stpN_xor, h1] at h2
  have h3 : stpN (8 * p.length) (2 ^ at_ * m) = 0 := xor_cancel (a := stpN 32 4294967295) (by rw [h2, Nat.xor_zero])
  obtain ⟨n, hn⟩ : ∃ n, 8 * p.length = at_ + n := ⟨8 * p.length - at_, by omega⟩
  rw [hn, stpN_add, stpN_shl] at h3
  exact h0 (stpN_zero n hm h3)
/-- The bits that a mask turns, as far as there are bits. -/
def turnL (mask lim : Nat) : Nat → Nat
  | 0 => 0
  | k + 1 => if mask / 2 ^ k % 2 = 1 ∧ k < lim then turnL mask lim k + 2 ^ k else turnL mask lim k
theorem turnL_lt (mask lim k : Nat) : turnL mask lim k < 2 ^ k := by
  induction k with
  | zero => simp [turnL]
  | succ k ih =>
    unfold turnL
    rw [Nat.pow_succ]
    split <;> omega
theorem add_pow_xor {a k : Nat} (h : a < 2 ^ k) : a + 2 ^ k = a ^^^ 2 ^ k := by
  apply Nat.eq_of_testBit_eq
  intro j
  have h1 := Nat.testBit_two_pow_mul_add 1 (b := a) (i := k) h j
  rw [Nat.mul_one] at h1
  rw [Nat.testBit_xor, Nat.testBit_two_pow, Nat.add_comm, h1]
  by_cases hj : j < k
  · rw [if_pos hj]
    simp [show ¬ k = j by omega]
  · rw [if_neg hj]
    have : a.testBit j = false := Nat.testBit_lt_two_pow (Nat.lt_of_lt_of_le h (Nat.pow_le_pow_right (by decide) (by omega)))
    rw [this]
    by_cases he : k = j
    · simp [he]
    · have : Nat.testBit 1 (j - k) = false := by
        rw [show j - k = (j - k - 1) + 1 by omega, Nat.testBit_succ]; simp
      simp [this, he]
theorem shl_xor (n a b : Nat) : 2 ^ n * (a ^^^ b) = 2 ^ n * a ^^^ 2 ^ n * b := by
  apply Nat.eq_of_testBit_eq
  intro j
  rw [Nat.testBit_xor, Nat.testBit_two_pow_mul, Nat.testBit_two_pow_mul, Nat.testBit_two_pow_mul, Nat.testBit_xor]
  cases decide (j ≥ n) <;> simp
theorem turnL_yes {mask lim k : Nat} (h : mask / 2 ^ k % 2 = 1) (h2 : k < lim) (at_ : Nat) : turnL mask lim (k + 1) ≠ 0 ∧ 2 ^ at_ * turnL mask lim (k + 1) = 2 ^ at_ * turnL mask lim k ^^^ 2 ^ (at_ + k) := by
  have e : turnL mask lim (k + 1) = turnL mask lim k + 2 ^ k := by
    show (if _ then _ else _) = _
    rw [if_pos ⟨h, h2⟩]
  refine ⟨by rw [e]; have := Nat.two_pow_pos k; omega, ?_⟩
  rw [e, add_pow_xor (turnL_lt mask lim k), shl_xor, ← Nat.pow_add]
theorem turnL_no {mask lim k : Nat} (h : ¬ (mask / 2 ^ k % 2 = 1 ∧ k < lim)) : turnL mask lim (k + 1) = turnL mask lim k := by
  show (if _ then _ else _) = _
  rw [if_neg h]
/-- A frame of which bits were turned is refused. -/
theorem burst_open {k : Nat} {load q : List UInt8} {m at_ : Nat} (h1 : 1 ≤ k) (h2 : k ≤ 15) (h3 : load.length ≤ 65536) (hl : q.length = (frameL k load).length) (hq : leL q = leL (frameL k load) ^^^ (2 ^ at_ * m)) (hm : m < 4294967296) (h0 : m ≠ 0) (hat : at_ ≤ 8 * (frameL k load).length) :
    openL q = (0, [], 2) ∨ openL q = (0, [], 9) := by
  rcases openL_err q with h | h | h
  · exfalso
    have hs := (seal_open h).2.2.2.2.2
    have ho := open_seal h1 h2 h3
    have hs0 := (seal_open (p := frameL k load) (by rw [ho])).2.2.2.2.2
    have n1 := frameB_nine hs.1
    have n2 := frameB_nine hs0.1
    exact burst hl hq hm h0 hat (fold_frame (by omega) hs0.2) (fold_frame (by omega) hs.2)
  · exact .inl h
  · exact .inr h
/-- A frame that is cut short; one with bytes behind it. -/
theorem cut_open {k : Nat} {load : List UInt8} {c : Nat} (h3 : load.length ≤ 65536) (hc : c < (frameL k load).length) : openL ((frameL k load).take c) = (0, [], 2) := by
  apply openL_no
  have hl := frameL_length k load
  by_cases h9 : 9 ≤ ((frameL k load).take c).length
  · rw [frameB_long h9]
    rw [List.length_take] at h9
    have e : (((frameL k load).take c).drop 1).take 4 = fourL load.length := by
      rw [List.drop_take, List.take_take, Nat.min_eq_left (by omega), frameL_size]
    rw [e, leL_fourL (by omega)]
    have : ¬ (load.length + 9 = ((frameL k load).take c).length) := by rw [List.length_take]; omega
    simp only [decide_eq_false this, Bool.and_false]
  · exact frameB_short h9
theorem more_open {k : Nat} {load more : List UInt8} (h3 : load.length ≤ 65536) (hm : more ≠ []) : openL (frameL k load ++ more) = (0, [], 2) := by
  apply openL_no
  have hl := frameL_length k load
  have hp : 0 < more.length := List.length_pos_iff.2 hm
  rw [frameB_long (by rw [List.length_append]; omega)]
  have e : ((frameL k load ++ more).drop 1).take 4 = fourL load.length := by
    rw [List.drop_append_of_le_length (by omega), List.take_append_of_le_length (by rw [List.length_drop]; omega), frameL_size]
  rw [e, leL_fourL (by omega)]
  have : ¬ (load.length + 9 = (frameL k load ++ more).length) := by rw [List.length_append]; omega
  simp only [decide_eq_false this, Bool.and_false]

end Go.Proofs.Ytcdnppiigejjgaa
