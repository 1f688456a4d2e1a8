/- The sum of bytes, plainly: a register that moves down bit by bit; a frame; what a frame's bytes are with bits of one stretch turned. -/
namespace Go.Proofs.Ytlcnfoljkcfplaa

/-- One move of the register. -/
def stp (r : Nat) : Nat := if r % 2 = 1 then (r / 2) ^^^ 3988292384 else r / 2
def stpN : Nat → Nat → Nat
  | 0, r => r
  | n + 1, r => stpN n (stp r)
/-- The register once a byte has gone through it; once bytes have. -/
def tkR (r c : Nat) : Nat := stpN 8 (r ^^^ c)
def foldR (r : Nat) (l : List UInt8) : Nat := l.foldl (fun r c => tkR r c.toNat) r
def sumL (l : List UInt8) : Nat := foldR 4294967295 l ^^^ 4294967295
/-- The number that bytes are, the lowest first. -/
def leL : List UInt8 → Nat
  | [] => 0
  | c :: r => c.toNat + 256 * leL r

theorem xor_mod2 (a b : Nat) : (a ^^^ b) % 2 = (a + b) % 2 := by
  have h := @Nat.xor_mod_two_pow a b 1
  rw [Nat.pow_one] at h
  rw [h]
  rcases Nat.mod_two_eq_zero_or_one a with ha | ha <;> rcases Nat.mod_two_eq_zero_or_one b with hb | hb <;> rw [ha, hb] <;> simp <;> omega
theorem stp_xor (a b : Nat) : stp (a ^^^ b) = stp a ^^^ stp b := by
  unfold stp
  rw [xor_mod2, Nat.xor_div_two]
  rcases Nat.mod_two_eq_zero_or_one a with ha | ha <;> rcases Nat.mod_two_eq_zero_or_one b with hb | hb
  · rw [if_neg (by omega), if_neg (by omega), if_neg (by omega)]
  · rw [if_pos (by omega), if_neg (by omega), if_pos (by omega), Nat.xor_assoc]
  · rw [if_pos (by omega), if_pos (by omega), if_neg (by omega), Nat.xor_assoc, Nat.xor_assoc, Nat.xor_comm (b / 2)]
  · rw [if_neg (by omega), if_pos (by omega), if_pos (by omega)]
    rw [Nat.xor_assoc, Nat.xor_comm 3988292384, Nat.xor_assoc, Nat.xor_self, Nat.xor_zero]
theorem stpN_xor (n a b : Nat) : stpN n (a ^^^ b) = stpN n a ^^^ stpN n b := by
  induction n generalizing a b with
  | zero => rfl
  | succ n ih => simp only [stpN]; rw [stp_xor, ih]
theorem stp_dbl (x : Nat) : stp (2 * x) = x := by unfold stp; rw [if_neg (by omega)]; omega
theorem stpN_shl (n x : Nat) : stpN n (2 ^ n * x) = x := by
  induction n with
  | zero => simp [stpN]
  | succ n ih => simp only [stpN]; rw [Nat.pow_succ, show 2 ^ n * 2 * x = 2 * (2 ^ n * x) by rw [Nat.mul_comm (2 ^ n) 2, Nat.mul_assoc], stp_dbl, ih]
theorem stpN_add (m n r : Nat) : stpN (m + n) r = stpN n (stpN m r) := by
  induction m generalizing r with
  | zero => simp [stpN]
  | succ m ih => rw [show m + 1 + n = (m + n) + 1 by omega]; simp only [stpN]; rw [ih]
theorem stp_lt {r : Nat} (h : r < 4294967296) : stp r < 4294967296 := by
  unfold stp
  split
  · exact Nat.xor_lt_two_pow (n := 32) (by omega) (by omega)
  · omega
theorem stpN_lt (n : Nat) {r : Nat} (h : r < 4294967296) : stpN n r < 4294967296 := by
  induction n generalizing r with
  | zero => exact h
  | succ n ih => exact ih (stp_lt h)
theorem stp_zero {r : Nat} (h : r < 4294967296) (h0 : stp r = 0) : r = 0 := by
  unfold stp at h0
  split at h0
  · rename_i h1
    have h2 : (r / 2 ^^^ 3988292384).testBit 31 = false := by rw [h0]; simp
    rw [Nat.testBit_xor, Nat.testBit_lt_two_pow (x := r / 2) (i := 31) (by omega)] at h2
    exact absurd h2 (by decide)
  · omega
theorem stpN_zero (n : Nat) {r : Nat} (h : r < 4294967296) (h0 : stpN n r = 0) : r = 0 := by
  induction n generalizing r with
  | zero => exact h0
  | succ n ih => exact stp_zero h (ih (stp_lt h) h0)
/-- The register is a register. -/
theorem tkR_lt {r c : Nat} (h : r < 4294967296) (hc : c < 256) : tkR r c < 4294967296 := stpN_lt 8 (Nat.xor_lt_two_pow (n := 32) h (by omega))
theorem foldR_lt {r : Nat} (l : List UInt8) (h : r < 4294967296) : foldR r l < 4294967296 := by
  induction l generalizing r with
  | nil => exact h
  | cons c l ih => exact ih (tkR_lt h (UInt8.toNat_lt c))
theorem sumL_lt (l : List UInt8) : sumL l < 4294967296 := Nat.xor_lt_two_pow (n := 32) (foldR_lt l (by omega)) (by omega)
theorem foldR_append (r : Nat) (a b : List UInt8) : foldR r (a ++ b) = foldR (foldR r a) b := by simp [foldR]
theorem foldR_snoc (r : Nat) (a : List UInt8) (c : UInt8) : foldR r (a ++ [c]) = tkR (foldR r a) c.toNat := by simp [foldR]

theorem add_xor {c : Nat} (y : Nat) (h : c < 256) : c + 256 * y = c ^^^ (256 * y) := by
  apply Nat.eq_of_testBit_eq
  intro j
  have h1 := Nat.testBit_two_pow_mul_add y (b := c) (i := 8) (by omega) j
  have h2 := @Nat.testBit_two_pow_mul 8 y j
  rw [show (2 : Nat) ^ 8 = 256 from rfl] at h1 h2
  rw [Nat.testBit_xor, Nat.add_comm, h1, h2]
  by_cases hj : j < 8
  · rw [if_pos hj]
    simp [show ¬ (8 ≤ j) by omega]
  · rw [if_neg hj]
    have : c.testBit j = false := Nat.testBit_lt_two_pow (Nat.lt_of_lt_of_le h (by
      calc 256 = 2 ^ 8 := rfl
        _ ≤ 2 ^ j := Nat.pow_le_pow_right (by decide) (by omega)))
    simp [this, show 8 ≤ j by omega]
theorem foldR_leL (r : Nat) (l : List UInt8) : foldR r l = stpN (8 * l.length) (r ^^^ leL l) := by
  induction l generalizing r with
  | nil => simp [foldR, leL, stpN]
  | cons c l ih =>
    show foldR (tkR r c.toNat) l = _
    rw [ih, leL, add_xor _ (UInt8.toNat_lt c), ← Nat.xor_assoc, List.length_cons, show 8 * (l.length + 1) = 8 + 8 * l.length by omega, stpN_add, stpN_xor 8 _ (256 * leL l)]
    have := stpN_shl 8 (leL l)
    rw [show (2 : Nat) ^ 8 = 256 from rfl] at this
    rw [this]
    rfl

/-- Four bytes of a number. -/
def fourL (n : Nat) : List UInt8 := [UInt8.ofNat (n % 256), UInt8.ofNat (n / 256 % 256), UInt8.ofNat (n / 65536 % 256), UInt8.ofNat (n / 16777216 % 256)]
theorem fourL_length (n : Nat) : (fourL n).length = 4 := rfl
theorem toNat_of {n : Nat} (h : n < 256) : (UInt8.ofNat n).toNat = n := by simp; omega
theorem leL_fourL {n : Nat} (h : n < 4294967296) : leL (fourL n) = n := by
  unfold fourL
  simp only [leL]
  rw [toNat_of (by omega), toNat_of (by omega), toNat_of (by omega), toNat_of (by omega)]
  omega
theorem u8_ext {a b : UInt8} (h : a.toNat = b.toNat) : a = b := UInt8.toNat_inj.1 h
theorem leL_inj {a b : List UInt8} (hl : a.length = b.length) (h : leL a = leL b) : a = b := by
  induction a generalizing b with
  | nil => cases b with
    | nil => rfl
    | cons y b => simp at hl
  | cons x a ih => cases b with
    | nil => simp at hl
    | cons y b =>
      simp only [leL] at h
      have hx := UInt8.toNat_lt x
      have hy := UInt8.toNat_lt y
      have e1 : x = y := u8_ext (by omega)
      rw [e1, ih (by simpa using hl) (by omega)]
theorem leL_lt (l : List UInt8) : leL l < 256 ^ l.length := by
  induction l with
  | nil => simp [leL]
  | cons c l ih =>
    have := UInt8.toNat_lt c
    simp only [leL, List.length_cons, Nat.pow_succ]
    omega
theorem fourL_leL {l : List UInt8} (h : l.length = 4) : fourL (leL l) = l := by
  have := leL_lt l
  rw [h] at this
  exact leL_inj (by rw [h]; rfl) (leL_fourL (by simpa using this))

/-- A number's place in bytes. -/
theorem leL_set (l : List UInt8) (i j : Nat) (hi : i < l.length) (hj : j < 8) : leL (l.set i (UInt8.ofNat (l[i].toNat ^^^ 2 ^ j))) = leL l ^^^ 2 ^ (8 * i + j) := by
  have hp : 2 ^ j < 256 := by
    calc 2 ^ j < 2 ^ 8 := Nat.pow_lt_pow_right (by decide) hj
      _ = 256 := rfl
  induction l generalizing i with
  | nil => simp at hi
  | cons c l ih =>
    have hc := UInt8.toNat_lt c
    cases i with
    | zero =>
      have hx : c.toNat ^^^ 2 ^ j < 256 := Nat.xor_lt_two_pow (n := 8) hc hp
      simp only [List.set_cons_zero, leL, List.getElem_cons_zero]
      rw [toNat_of hx, add_xor _ hx, add_xor _ hc, show 8 * 0 + j = j by omega, Nat.xor_assoc, Nat.xor_comm (2 ^ j), ← Nat.xor_assoc]
    | succ i =>
      simp only [List.set_cons_succ, leL, List.getElem_cons_succ]
      have hi' : i < l.length := by simpa using hi
      rw [ih i hi', add_xor _ hc, add_xor _ hc]
      rw [Nat.xor_assoc]
      congr 1
      apply Nat.eq_of_testBit_eq
      intro k
      have h1 := @Nat.testBit_two_pow_mul 8 (leL l ^^^ 2 ^ (8 * i + j)) k
      have h2 := @Nat.testBit_two_pow_mul 8 (leL l) k
      rw [show (2 : Nat) ^ 8 = 256 from rfl] at h1 h2
      rw [Nat.testBit_xor, h1, h2, Nat.testBit_xor, Nat.testBit_two_pow, Nat.testBit_two_pow]
      by_cases hk : 8 ≤ k
      · simp only [ge_iff_le, hk, decide_true, Bool.true_and]
        congr 1
        simp only [decide_eq_decide]
        omega
      · simp only [ge_iff_le, hk, decide_false, Bool.false_and, Bool.false_bne]
        symm
        simp
        omega

/-- The frame of a kind and a load. -/
def headL (k : Nat) (load : List UInt8) : List UInt8 := UInt8.ofNat k :: fourL load.length ++ load
def frameL (k : Nat) (load : List UInt8) : List UInt8 := headL k load ++ fourL (sumL (headL k load))
def frameB (p : List UInt8) : Bool := decide (9 ≤ p.length) && (decide (1 ≤ (p.getD 0 0).toNat) && decide ((p.getD 0 0).toNat ≤ 15)) && (decide (leL ((p.drop 1).take 4) ≤ 65536) && decide (leL ((p.drop 1).take 4) + 9 = p.length))
/-- What Open tells of bytes. -/
def openL (p : List UInt8) : Nat × List UInt8 × Int :=
  if frameB p then (if leL (p.drop (p.length - 4)) = sumL (p.take (p.length - 4)) then ((p.getD 0 0).toNat, (p.take (p.length - 4)).drop 5, 0) else (0, [], 9)) else (0, [], 2)
end Go.Proofs.Ytlcnfoljkcfplaa
