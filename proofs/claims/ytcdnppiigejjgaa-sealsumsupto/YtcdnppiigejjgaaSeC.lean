/- What four bytes are (word, the document's Number, Four), and whether bytes are a frame (isFrame). -/
import Derived.Test.YtcdnppiigejjgaaSeB
namespace Go.Proofs.Ytcdnppiigejjgaa
open Go.RowKit
set_option linter.unusedVariables false

theorem leL_snoc (l : List UInt8) (c : UInt8) : leL (l ++ [c]) = leL l + c.toNat * 256 ^ l.length := by
  induction l with
  | nil => simp [leL]
  | cons x l ih =>
    simp only [List.cons_append, leL, ih, List.length_cons, Nat.pow_succ]
    rw [Nat.mul_add, Nat.add_assoc]
    congr 2
    rw [Nat.mul_comm 256, Nat.mul_assoc]
theorem leL_at {p : List UInt8} {j : Nat} (hj : j < p.length) : leL (p.take (j + 1)) = leL (p.take j) + p[j].toNat * 256 ^ j := by
  rw [List.take_succ_eq_append_getElem hj, leL_snoc, List.length_take, Nat.min_eq_left (by omega)]
theorem pow256 (j : Nat) (h : j ≤ 3) : (256 : Nat) ^ j = 2 ^ (8 * j) ∧ (256 : Nat) ^ j ≤ 16777216 ∧ (256 : Nat) ^ (j + 1) ≤ 4294967296 := by
  rcases show j = 0 ∨ j = 1 ∨ j = 2 ∨ j = 3 by omega with rfl | rfl | rfl | rfl <;> decide
theorem or_word (j acc c : Nat) (hj : j ≤ 3) (ha : acc < 256 ^ j) (hc : c < 256) : bits .or .u32 (acc : Int) ((c : Int) * 2 ^ (8 * j) % 4294967296) = ((acc + c * 256 ^ j : Nat) : Int) ∧ acc + c * 256 ^ j < 256 ^ (j + 1) := by
  obtain ⟨h1, h2, h3⟩ := pow256 j hj
  have h4 : c * 256 ^ j + 256 ^ j ≤ 256 ^ (j + 1) := by
    rw [Nat.pow_succ, ← Nat.succ_mul, Nat.mul_comm (256 ^ j) 256]
    exact Nat.mul_le_mul_right _ (by omega)
  refine ⟨?_, by omega⟩
  have e1 : ((c : Int) * 2 ^ (8 * j) % 4294967296) = ((c * 256 ^ j : Nat) : Int) := by
    rw [show ((c : Int) * 2 ^ (8 * j)) = ((c * 2 ^ (8 * j) : Nat) : Int) by push_cast; rfl, ← h1]
    omega
  rw [e1, (bits_nat .u32 32 (by decide) wraps_u32 acc (c * 256 ^ j) (by omega) (by omega)).2]
  congr 1
  rw [h1] at ha ⊢
  rw [Nat.or_comm, Nat.mul_comm, ← Nat.two_pow_add_eq_or_of_lt ha c, Nat.add_comm]

set_option maxRecDepth 100000 in
set_option maxHeartbeats 1000000 in
/-- seal.word. -/
theorem word_any (v : Value) (p : List UInt8) (w : World) (h : IsB w v p) (h4 : 4 ≤ p.length) :
    Calls Try.prog 23 #[v] w fun e w' => e = .returned (.int .u32 (leL (p.take 4) : Int)) ∧ w' = w := by
  obtain ⟨a1, c1, rfl, hc1, hl1, r1⟩ := h
  obtain ⟨b1, o1, rfl, g1⟩ := r1.resolve_left (by intro e; subst e; simp at h4)
  have HR : Hid (BytesAt w b1 o1 p) := g1
  clear r1 g1
  go_enter Try.func23, Try.ntmps23
  go_wp2
  go_loop [3, 5] (fun u i => ∃ y k : Nat, u = .int .u32 (y : Int) ∧ i = .int .i64 (k : Int) ∧ k ≤ 4 ∧ Hid (y < 256 ^ k) ∧ Hid (y = leL (p.take k))) (fun _ i => 4 - (intOf i).toNat)
  case atStart => exact ⟨0, 0, rfl, rfl, by omega, by show _ < _; simp, rfl⟩
  case round =>
    obtain ⟨y, k, rfl, rfl, hk, HL, HY⟩ := hrel
    by_cases hlt : k < 4
    · have hlt2 : k < p.length := by omega
      have x1 := HR.out k hlt2
      have hc := UInt8.toNat_lt p[k]
      have HY2 : Hid (y + p[k].toNat * 256 ^ k = leL (p.take (k + 1))) := by show _ = _; rw [leL_at hlt2, ← HY.out]
      obtain ⟨q1, q2⟩ := or_word k y p[k].toNat (by omega) HL.out hc
      have HQ : Hid (y + p[k].toNat * 256 ^ k < 256 ^ (k + 1)) := q2
      clear q2
      generalize p[k].toNat = c at *
      generalize y + c * 256 ^ k = z at *
      have HV : Hid (bits .or .u32 (y : Int) ((c : Int) * 2 ^ (8 * k) % 4294967296) = (z : Int)) := q1
      clear q1
      have k1 : (k : Int) < (p.length : Int) := by omega
      have k0 : (0 : Int) ≤ (k : Int) := by omega
      go_wp2
      go_round
      case rel => exact ⟨z, k + 1, by rw [← HV.out], by go_num, by omega, HQ, HY2⟩
      case measure => simp [intOf]; omega
    · obtain rfl : k = 4 := by omega
      go_wp2
      go_ret
      exact ⟨by rw [← HY.out]; rfl, rfl⟩

theorem leL_four {p : List UInt8} (h4 : 4 ≤ p.length) : leL (p.take 4) = p[0].toNat + p[1].toNat * 256 + p[2].toNat * 65536 + p[3].toNat * 16777216 := by
  rw [leL_at (show 3 < p.length by omega), leL_at (show 2 < p.length by omega), leL_at (show 1 < p.length by omega), leL_at (show 0 < p.length by omega)]
  simp [leL]

set_option maxRecDepth 100000 in
set_option maxHeartbeats 1000000 in
/-- The document's Number. -/
theorem refNumber_any (v : Value) (p : List UInt8) (w : World) (h : IsB w v p) (h4 : 4 ≤ p.length) :
    Calls Try.prog 24 #[v] w fun e w' => e = .returned (.int .i64 (leL (p.take 4) : Int)) ∧ ∃ m, w' = w.drewN m := by
  obtain ⟨a1, c1, rfl, hc1, hl1, r1⟩ := h
  obtain ⟨b1, o1, rfl, g1⟩ := r1.resolve_left (by intro e; subst e; simp at h4)
  have x0 := g1 0 (by omega)
  have x1 := g1 1 (by omega)
  have x2 := g1 2 (by omega)
  have x3 := g1 3 (by omega)
  have HE : Hid (leL (p.take 4) = p[0].toNat + p[1].toNat * 256 + p[2].toNat * 65536 + p[3].toNat * 16777216) := leL_four h4
  have q0 := UInt8.toNat_lt p[0]
  have q1 := UInt8.toNat_lt p[1]
  have q2 := UInt8.toNat_lt p[2]
  have q3 := UInt8.toNat_lt p[3]
  generalize p[0].toNat = y0 at *
  generalize p[1].toNat = y1 at *
  generalize p[2].toNat = y2 at *
  generalize p[3].toNat = y3 at *
  clear r1 g1
  rw [Nat.add_zero] at x0
  generalize p.length = n at *
  have l0 : (0 : Int) < (n : Int) := by omega
  have l1 : (1 : Int) < (n : Int) := by omega
  have l2 : (2 : Int) < (n : Int) := by omega
  have l3 : (3 : Int) < (n : Int) := by omega
  go_enter Try.func24, Try.ntmps24
  go_wp2
  go_quiet (fail)
  go_wp2
  go_ret
  refine ⟨ret_i ?_, _, rfl⟩
  rw [HE.out]
  omega

/-- A slice literal of bytes is the call's own. -/
theorem OwnB.made (w : World) (D : List UInt8) (cs : Array Value) (hc : cs.toList = cellsB D) (hl : D.length ≤ 140737488355328) {B : Nat} (hB : B ≤ w.heap.size) : OwnB B (w.alloc (.cells cs 5)) (.slice (some ⟨w.heap.size, 0, none⟩) D.length D.length) D := by
  have hs : cs.size = D.length := by rw [← Array.length_toList, hc]; simp [cellsB]
  refine ⟨by simp [cellsB], .inr ⟨w.heap.size, D.length, cs, rfl, hB, heap_alloc_new w _, Nat.le_refl _, by unfold maxLen; omega, by simp [hs], ?_⟩⟩
  rw [hc, List.take_of_length_le (by simp [cellsB])]

set_option maxRecDepth 100000 in
set_option maxHeartbeats 1000000 in
/-- The document's Four. -/
theorem refFour_any (n : Nat) (w : World) (hn : n < 4294967296) :
    Calls Try.prog 21 #[.int .u32 (n : Int)] w fun e w' => ∃ v', e = .returned v' ∧ OwnB w.heap.size w' v' (fourL n) ∧ Below w.heap.size w w' := by
  go_enter Try.func21, Try.ntmps21
  go_wp2
  go_ret
  refine ⟨_, rfl, ?_, (Below.refl _ _).alloc (Nat.le_refl _) _⟩
  refine OwnB.made w (fourL n) _ ?_ (by rw [fourL_length]; omega) (Nat.le_refl _)
  simp only [cellsB, fourL, List.map_cons, List.map_nil]
  rw [toNat_of (by omega), toNat_of (by omega), toNat_of (by omega), toNat_of (by omega)]
  rw [show n / 16777216 % 256 = n / 16777216 by omega]
  simp

theorem isKind_yes (k : Int) (w : World) (h : 1 ≤ k ∧ k ≤ 15) : Calls Try.prog 19 #[.int .i64 k] w fun e w' => e = .returned (.bool true) ∧ w' = w := by
  have := isKind_any k w
  rw [show (decide (1 ≤ k) && decide (k ≤ 15)) = true by simp; omega] at this
  exact this
theorem isKind_no (k : Int) (w : World) (h : ¬ (1 ≤ k ∧ k ≤ 15)) : Calls Try.prog 19 #[.int .i64 k] w fun e w' => e = .returned (.bool false) ∧ w' = w := by
  have := isKind_any k w
  rw [show (decide (1 ≤ k) && decide (k ≤ 15)) = false by by_cases h1 : 1 ≤ k <;> simp [h1] <;> omega] at this
  exact this

theorem frameB_short {p : List UInt8} (h : ¬ 9 ≤ p.length) : frameB p = false := by simp [frameB, h]
theorem frameB_long {p : List UInt8} (h : 9 ≤ p.length) : frameB p = ((decide (1 ≤ p[0].toNat) && decide (p[0].toNat ≤ 15)) && (decide (leL ((p.drop 1).take 4) ≤ 65536) && decide (leL ((p.drop 1).take 4) + 9 = p.length))) := by
  unfold frameB
  rw [List.getD_eq_getElem?_getD, List.getElem?_eq_getElem (show 0 < p.length by omega)]
  simp [h]

set_option maxRecDepth 100000 in
set_option maxHeartbeats 1000000 in
/-- seal.isFrame. -/
theorem isFrame_any (v : Value) (p : List UInt8) (w : World) (h : IsB w v p) :
    Calls Try.prog 22 #[v] w fun e w' => e = .returned (.bool (frameB p)) ∧ w' = w := by
  have H : Hid (IsB w v p) := h
  obtain ⟨a1, c1, rfl, hc1, hl1, r1⟩ := h
  by_cases h9 : 9 ≤ p.length
  · obtain ⟨b1, o1, rfl, g1⟩ := r1.resolve_left (by intro e; subst e; simp at h9)
    have x0 := g1 0 (by omega)
    rw [Nat.add_zero] at x0
    have HF : Hid (frameB p = ((decide (1 ≤ p[0].toNat) && decide (p[0].toNat ≤ 15)) && (decide (leL ((p.drop 1).take 4) ≤ 65536) && decide (leL ((p.drop 1).take 4) + 9 = p.length)))) := frameB_long h9
    have HS : Hid (IsB w (.slice (some ⟨b1, o1 + 1, none⟩) (p.length - 1) (c1 - 1)) (p.drop 1)) := by
      have := H.out.sub 1 (p.length - 1) (by omega)
      rw [List.take_of_length_le (by rw [List.length_drop]; omega)] at this
      exact this
    have h4 : 4 ≤ (p.drop 1).length := by rw [List.length_drop]; omega
    have HD : Hid (4 ≤ (p.drop 1).length) := h4
    have q0 := UInt8.toNat_lt p[0]
    have qn : leL ((p.drop 1).take 4) < 4294967296 := by
      have := leL_lt ((p.drop 1).take 4)
      rw [List.length_take, Nat.min_eq_left h4] at this
      exact this
    generalize hnn : leL ((p.drop 1).take 4) = n at *
    generalize p[0].toNat = k at *
    have HW : Hid (∀ v, IsB w v (p.drop 1) → Calls Try.prog 23 #[v] w fun e w' => e = .returned (.int .u32 (n : Int)) ∧ w' = w) := fun v hv => by
      have := word_any v (p.drop 1) w hv HD.out
      rw [hnn] at this
      exact this
    clear r1 g1 h4 hnn
    generalize frameB p = fb at *
    generalize p.length = pl at *
    by_cases hk : 1 ≤ (k : Int) ∧ (k : Int) ≤ 15
    · have HK : Hid (1 ≤ (k : Int) ∧ (k : Int) ≤ 15) := hk
      have e1 : decide (1 ≤ k) = true := by simp; omega
      have e2 : decide (k ≤ 15) = true := by simp; omega
      have HB : Hid (fb = (decide (n ≤ 65536) && decide (n + 9 = pl))) := by have := HF.out; rw [e1, e2] at this; exact this
      clear e1 e2 hk HF
      by_cases hn1 : n ≤ 65536
      all_goals by_cases hn2 : n + 9 = pl
      all_goals (
        have HB2 : Hid (fb = (decide (n ≤ 65536) && decide (n + 9 = pl))) := HB.out
        simp [hn1, hn2] at HB2
        have hq : ((n : Int) == (pl : Int) - 9) = decide (n + 9 = pl) := by by_cases h : n + 9 = pl <;> simp [h] <;> omega
        simp only [hn2, decide_true, decide_false] at hq
        clear HB
        go_enter Try.func22, Try.ntmps22
        go_wp2_with (first | (go_at_call 19; refine (isKind_yes _ _ HK.out).mono ?_; rintro e w' ⟨rfl, hw⟩; replace hw := hw.symm; subst hw) | (go_at_call 23; refine (HW.out _ HS.out).mono ?_; rintro e w' ⟨rfl, hw⟩; replace hw := hw.symm; subst hw))
        go_ret
        exact ⟨by rw [HB2.out]; rfl, rfl⟩)
    · have HK : Hid (¬ (1 ≤ (k : Int) ∧ (k : Int) ≤ 15)) := hk
      have HB2 : Hid (fb = false) := by
        have := HF.out
        rw [show (decide (1 ≤ k) && decide (k ≤ 15)) = false by by_cases h1 : 1 ≤ k <;> simp [h1] <;> omega] at this
        exact this
      clear hk HF
      go_enter Try.func22, Try.ntmps22
      go_wp2_with (go_at_call 19; refine (isKind_no _ _ HK.out).mono ?_; rintro e w' ⟨rfl, hw⟩; replace hw := hw.symm; subst hw)
      go_ret
      exact ⟨by rw [HB2.out]; rfl, rfl⟩
  · have HF : Hid (frameB p = false) := frameB_short h9
    clear r1
    go_enter Try.func22, Try.ntmps22
    go_wp2
    go_ret
    exact ⟨by rw [HF.out]; rfl, rfl⟩

end Go.Proofs.Ytcdnppiigejjgaa
