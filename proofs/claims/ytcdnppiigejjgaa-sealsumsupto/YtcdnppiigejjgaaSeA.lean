/- What the register does with a byte (take), kinds (isKind), a number laid in four bytes (appendWord, the document's Four). -/
import Derived.Test.YtcdnppiigejjgaaRowC
namespace Go.Proofs.Ytcdnppiigejjgaa
open Go.RowKit
set_option linter.unusedVariables false

theorem wraps_u32 (n : Int) (h₀ : 0 ≤ n) (h₁ : n < 2 ^ 32) : IntKind.u32.wrap n = n := by rw [IntKind.wrap_u32]; omega
theorem xor_nat (k : IntKind) (j : Nat) (hj : j ≤ k.bits) (hk : ∀ n : Int, 0 ≤ n → n < 2 ^ j → k.wrap n = n) (a b : Nat) (ha : a < 2 ^ j) (hb : b < 2 ^ j) : bits .xor k a b = ((a ^^^ b : Nat) : Int) := by
  have hp : 2 ^ j ≤ 2 ^ k.bits := Nat.pow_le_pow_right (by decide) hj
  have ha' : a % 2 ^ k.bits = a := Nat.mod_eq_of_lt (Nat.lt_of_lt_of_le ha hp)
  have hb' : b % 2 ^ k.bits = b := Nat.mod_eq_of_lt (Nat.lt_of_lt_of_le hb hp)
  have cast : ∀ n : Nat, n < 2 ^ j → ((n : Nat) : Int) < 2 ^ j := fun n h => by exact_mod_cast h
  simp only [bits, BitVec.ofInt_natCast, BitVec.toNat_xor, BitVec.toNat_ofNat, ha', hb']
  exact hk _ (Int.natCast_nonneg _) (cast _ (Nat.xor_lt_two_pow ha hb))
theorem xor_u32 {a b : Nat} (ha : a < 4294967296) (hb : b < 4294967296) : bits .xor .u32 (a : Int) (b : Int) = ((a ^^^ b : Nat) : Int) := xor_nat .u32 32 (by decide) wraps_u32 a b ha hb
theorem xor_u8 {a b : Nat} (ha : a < 256) (hb : b < 256) : bits .xor .u8 (a : Int) (b : Int) = ((a ^^^ b : Nat) : Int) := xor_nat .u8 8 (by decide) wraps_u8 a b ha hb
theorem and1_u32 {a : Nat} (ha : a < 4294967296) : bits .and .u32 (a : Int) 1 = ((a % 2 : Nat) : Int) := by
  have := bits_mask .u32 32 (by decide) wraps_u32 1 (by decide) (a : Int) (by omega) (by omega)
  simp at this
  rw [this]; omega
theorem stp_odd {r : Nat} (h : r % 2 = 1) : stp r = (r / 2) ^^^ 3988292384 := by unfold stp; rw [if_pos h]
theorem stp_even {r : Nat} (h : r % 2 = 0) : stp r = r / 2 := by unfold stp; rw [if_neg (by omega)]
theorem stpN_back (n r : Nat) : stpN (n + 1) r = stpN n (stp r) := rfl

set_option maxRecDepth 100000 in
set_option maxHeartbeats 1000000 in
/-- seal.take. -/
theorem take_any (r c : Nat) (w : World) (hr : r < 4294967296) (hc : c < 256) :
    Calls Try.prog 18 #[.int .u32 (r : Int), .int .u8 (c : Int)] w fun e w' => e = .returned (.int .u32 (tkR r c : Int)) ∧ w' = w := by
  have hx := xor_u32 hr (show c < 4294967296 by omega)
  have hxl : r ^^^ c < 4294967296 := Nat.xor_lt_two_pow (n := 32) hr (by omega)
  have HT : Hid (tkR r c = stpN 8 (r ^^^ c)) := rfl
  generalize tkR r c = t at *
  generalize r ^^^ c = x at *
  have HX : Hid (bits .xor .u32 (r : Int) (c : Int) = (x : Int)) := hx
  go_enter Try.func18, Try.ntmps18
  go_wp2
  go_loop [0, 10] (fun u i => ∃ y k : Nat, u = .int .u32 (y : Int) ∧ i = .int .i64 (k : Int) ∧ k ≤ 8 ∧ y < 4294967296 ∧ Hid (t = stpN (8 - k) y)) (fun _ i => 8 - (intOf i).toNat)
  case atStart => exact ⟨x, 0, by rfl, rfl, by omega, hxl, HT⟩
  case round =>
    obtain ⟨y, k, rfl, rfl, hk, hy, HY⟩ := hrel
    by_cases h8 : k < 8
    · have HY2 : Hid (t = stpN (8 - (k + 1)) (stp y)) := by
        have := HY.out
        rw [show 8 - k = (8 - (k + 1)) + 1 by omega, stpN_back] at this
        exact this
      have ha := and1_u32 hy
      have hy2 : y / 2 < 4294967296 := by omega
      have hl := stp_lt hy
      rcases Nat.mod_two_eq_zero_or_one y with h0 | h0
      · have hs := stp_even h0
        rw [hs] at hl HY2
        rw [h0] at ha
        go_wp2
        go_round
        case rel => exact ⟨y / 2, k + 1, by go_num, by go_num, by omega, hl, HY2⟩
        case measure => simp [intOf]; omega
      · have hs := stp_odd h0
        have hz : bits .xor .u32 ((y : Int) / 2) 3988292384 = ((y / 2 ^^^ 3988292384 : Nat) : Int) := xor_u32 hy2 (show 3988292384 < 4294967296 by omega)
        rw [← hs] at hz
        generalize stp y = z at *
        rw [h0] at ha
        go_wp2
        go_round
        case rel => exact ⟨z, k + 1, by first | rfl | go_num, by go_num, by omega, hl, HY2⟩
        case measure => simp [intOf]; omega
    · obtain rfl : k = 8 := by omega
      have HE : Hid (t = y) := HY.out
      go_wp2
      go_ret
      exact ⟨by rw [HE.out]; rfl, rfl⟩

set_option maxRecDepth 100000 in
/-- seal.isKind. -/
theorem isKind_any (k : Int) (w : World) :
    Calls Try.prog 19 #[.int .i64 k] w fun e w' => e = .returned (.bool (decide (1 ≤ k) && decide (k ≤ 15))) ∧ w' = w := by
  by_cases h1 : 1 ≤ k
  all_goals (by_cases h2 : k ≤ 15)
  all_goals (
    go_enter Try.func19, Try.ntmps19
    go_wp2
    go_ret
    exact ⟨ret_b (by simp [h1, h2]), rfl⟩)

theorem fourA (n : Nat) : fourL n = [UInt8.ofNat (n % 256)] ++ ([UInt8.ofNat (n / 256 % 256)] ++ ([UInt8.ofNat (n / 65536 % 256)] ++ [UInt8.ofNat (n / 16777216 % 256)])) := rfl
/-- The first bytes of a number. -/
def wordL : Nat → Nat → List UInt8
  | 0, _ => []
  | k + 1, n => UInt8.ofNat (n % 256) :: wordL k (n / 256)
theorem wordL_four (n : Nat) : wordL 4 n = fourL n := by simp only [wordL, fourL, Nat.div_div_eq_div_mul]
theorem wordL_step (k n : Nat) : wordL (k + 1) n = [UInt8.ofNat (n % 256)] ++ wordL k (n / 256) := rfl

set_option maxRecDepth 100000 in
set_option maxHeartbeats 1000000 in
/-- seal.appendWord. -/
theorem appendWord_any (B : Nat) (v : Value) (D : List UInt8) (n : Nat) (w : World) (hn : n < 4294967296) (h : OwnB B w v D) (hB : B ≤ w.heap.size) (hl : D.length + 4 ≤ 140737488355328) :
    Calls Try.prog 20 #[v, .int .u32 (n : Int)] w fun e w' => ∃ v', e = .returned v' ∧ OwnB B w' v' (D ++ fourL n) ∧ Below B w w' := by
  obtain ⟨i0, hi, hz0, hz1, hz2⟩ := info_parts infoByte
  have H0 : Hid (OwnB B w v (D ++ [])) := by show OwnB _ _ _ _; rw [List.append_nil]; exact h
  have HW : Hid (fourL n = wordL 4 n) := (wordL_four n).symm
  generalize fourL n = T at *
  clear h
  go_enter Try.func20, Try.ntmps20
  go_wp2
  go_loopw [0, 1, 5] (fun u x i wr => ∃ (m k : Nat) (E : List UInt8), x = .int .u32 (m : Int) ∧ i = .int .i64 (k : Int) ∧ k ≤ 4 ∧ m < 4294967296 ∧ Hid (E.length = k) ∧ Hid (E ++ wordL (4 - k) m = T) ∧ Hid (OwnB B wr u (D ++ E)) ∧ Hid (Below B w wr)) (fun _ _ i _ => 4 - (intOf i).toNat)
  case atStart => exact ⟨n, 0, [], rfl, rfl, by omega, hn, rfl, HW.out.symm, H0, Below.refl _ _⟩
  case round =>
    obtain ⟨m, k, E, rfl, rfl, hk, hm, HEL, HE, HO, HB⟩ := hrel
    have hsz := HB.out.size
    by_cases h4 : k < 4
    · have hlen : D.length + E.length + 1 ≤ 140737488355328 := by have := HEL.out; omega
      have HE3 : Hid ((E ++ [UInt8.ofNat (m % 256)]) ++ wordL (4 - (k + 1)) (m / 256) = T) := by
        have := HE.out
        rw [show 4 - k = (4 - (k + 1)) + 1 by omega, wordL_step, ← List.append_assoc] at this
        exact this
      go_wp2_with (at_builtin; refine wpList_append_own _ rfl _ _ 23 rfl B 5 i0 (.int .u8 0) 1 1 Try.underlying23 hi hz0 hz1 hz2 rfl (by decide) _ _ _ rfl (World.ownsRow.alloc HO.out _) ⟨wr.heap.size, 0, none⟩ 1 1 [_] rfl rfl (cell_one_new _ _ _) (fun x hx => by simp at hx; subst hx; rfl) (by unfold maxLen; simp; omega) (by simp; omega) (by simp; omega) ?_; intro v' w3 hown' hgrow3 hnil3)
      have HO3 : Hid (OwnB B w3 v' (D ++ (E ++ [UInt8.ofNat (m % 256)]))) := by
        show OwnB _ _ _ _
        rw [← List.append_assoc]
        refine OwnB.more hown' (by simp) ?_
        simp only [cellsB, List.map_cons, List.map_nil]
        rw [toNat_of (show m % 256 < 256 by omega)]
        rfl
      have HEL3 : Hid ((E ++ [UInt8.ofNat (m % 256)]).length = k + 1) := by show _ = _; rw [List.length_append, HEL.out]; rfl
      go_roundw
      case rel => exact ⟨m / 256, k + 1, _, by go_num, by go_num, by omega, by omega, HEL3, HE3, HO3, (HB.out.alloc (by omega) _).grown hgrow3 (by simp; omega) (fun j e => (World.ownsRow.lt HO.out j e).1)⟩
      case measure => simp [intOf]; omega
    · obtain rfl : k = 4 := by omega
      have HT : Hid (E = T) := by have := HE.out; show _ = _; simpa [wordL] using this
      go_wp2
      go_ret
      refine ⟨_, rfl, ?_, HB.out⟩
      rw [← HT.out]
      exact HO.out

end Go.Proofs.Ytcdnppiigejjgaa
