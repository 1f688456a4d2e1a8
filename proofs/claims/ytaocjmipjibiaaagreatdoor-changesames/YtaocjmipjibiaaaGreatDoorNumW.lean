/- What the document's Digits does; plain facts on Whole. -/
import Derived.Test.YtaocjmipjibiaaaGreatDoorWalksT
namespace Go.Proofs.YtaocjmipjibiaaaGreatDoor
open Go.RowKit
set_option linter.unusedVariables false

/-- What is left of a number's digits ahead of its last one. -/
def restL (n : Nat) : List UInt8 := if n < 10 then [] else Lib.decDigits (n / 10)
theorem restL_step (n : Nat) : Lib.decDigits n = restL n ++ [UInt8.ofNat (48 + n % 10)] := by
  unfold restL
  by_cases h : n < 10
  · rw [if_pos h, decDigits_small h, Nat.mod_eq_of_lt h]; rfl
  · rw [if_neg h, decDigits_more h]

/-- A digit's byte. -/
def digC (x : Int) : UInt8 := UInt8.ofNat (48 + x.toNat)
theorem digC_mod (m : Nat) : digC ((m : Int) % 10) = UInt8.ofNat (48 + m % 10) := by
  unfold digC; rw [show ((m : Int) % 10).toNat = m % 10 by omega]
theorem digC_div (m : Nat) : digC ((m : Int) / 10 % 10) = UInt8.ofNat (48 + m / 10 % 10) := by
  unfold digC; rw [show ((m : Int) / 10 % 10).toNat = m / 10 % 10 by omega]

theorem conv1 (v : World) (x : Int) (h0 : 0 ≤ x) (h9 : x < 10) :
    (convert 56 9 (.slice (some ⟨v.heap.size, 0, none⟩) 1 1)).run Tryz.prog (v.alloc (.cells #[.int .u8 (48 + x)] 5)) = .ok (.string ⟨#[digC x]⟩) (v.alloc (.cells #[.int .u8 (48 + x)] 5)) := by
  have := run_convert_bytes_back (P := Tryz.prog) (v.alloc (.cells #[.int .u8 (48 + x)] 5)) 56 9 5 ⟨v.heap.size, 0, none⟩ 1 [UInt8.ofNat (48 + x.toNat)] Tryz.underlying56 Tryz.underlying5 Tryz.underlying9 (fun j hj => by
    have hj0 : j = 0 := by simp at hj; omega
    subst hj0
    have e : (UInt8.ofNat (48 + x.toNat)).toNat = 48 + x.toNat := toNat_dig (by omega)
    simp only [List.getElem_cons_zero, e]
    simp [Addr.add, go_sem]
    omega)
  exact this

set_option maxHeartbeats 1000000 in
set_option maxRecDepth 100000 in
theorem digits_any (n : Nat) (hn : n ≤ 1099511627776) (w : World) :
    Calls Tryz.prog 64 #[.int .i64 (n : Int)] w fun e w' => e = .returned (.string ⟨(Lib.decDigits n).toArray⟩) ∧ Below w.heap.size w w' := by
  have b1 : (0 : Int) ≤ (n : Int) := by omega
  have b2 : (n : Int) ≤ 1099511627776 := by omega
  have cv := fun v => conv1 v ((n : Int) % 10) (by omega) (by omega)
  have L := nDigits_le13 n hn
  have HL : Hid ((Lib.decDigits n).length ≤ 13) := L
  clear L
  go_enter Tryz.func64, Tryz.ntmps64
  go_wp2
  go_loopw [0, 3] (fun nv sv wr => ∃ (m : Nat) (l : List UInt8), nv = .int .i64 (m : Int) ∧ sv = .string ⟨l.toArray⟩ ∧ Lib.decDigits n = restL m ++ l ∧ m ≤ n ∧ Below w.heap.size w wr) (fun nv _ _ => (intOf nv).toNat)
  case atStart =>
    exact ⟨n, [digC ((n : Int) % 10)], rfl, rfl, by rw [digC_mod]; exact restL_step n, Nat.le_refl _, (Below.refl _ _).alloc (Nat.le_refl _) _⟩
  case round =>
    obtain ⟨m, l, rfl, rfl, e, hm, hb⟩ := hrel
    have E : Hid (Lib.decDigits n = restL m ++ l) := e
    have hl : l.length ≤ 13 := by
      have h1 := HL.out
      rw [e, List.length_append] at h1
      omega
    clear e cv
    by_cases hlt : 9 < m
    · have c1 : (9 : Int) < (m : Int) := by omega
      have cv2 := fun v => conv1 v ((m : Int) / 10 % 10) (by omega) (by omega)
      have n1 : ¬ 9223372036854775807 < 1 + l.length := by omega
      have hz := hb.size
      go_wp2
      go_roundw
      case rel =>
        refine ⟨m / 10, digC ((m : Int) / 10 % 10) :: l, by go_num, congrArg Value.string (ByteArray.mk_append_mk [_] l), ?_, by omega, hb.alloc hz _⟩
        have h1 := E.out
        unfold restL at h1
        rw [if_neg (by omega), restL_step (m / 10)] at h1
        rw [h1, digC_div]
        simp
      case measure => simp [intOf]; omega
    · have c1 : ¬ (9 : Int) < (m : Int) := by omega
      go_wp2
      go_ret
      refine ⟨?_, hb⟩
      have h1 := E.out
      unfold restL at h1
      rw [if_pos (by omega)] at h1
      rw [h1]
      rfl

/-- What Whole tells. -/
def WholeIs (l : List UInt8) (n : Int) (b : Bool) : Prop :=
  (b = true → 0 ≤ n ∧ n ≤ 1099511627776 ∧ l = Lib.decDigits n.toNat) ∧ (b = false → ∀ u : Nat, u ≤ 1099511627776 → l ≠ Lib.decDigits u)

theorem val_lt : ∀ (k : Nat) (l : List UInt8), l.length = k → (∀ c ∈ l, isDig c) → val l < 10 ^ k := by
  intro k
  induction k with
  | zero => intro l hl _; have : l = [] := List.eq_nil_of_length_eq_zero hl; subst this; simp [val, valFrom]
  | succ k ih =>
    intro l hl hd
    obtain ⟨m, c, rfl⟩ : ∃ m c, l = m ++ [c] := ⟨l.dropLast, l.getLast (by intro h; rw [h] at hl; simp at hl), (List.dropLast_concat_getLast _).symm⟩
    have h1 := ih m (by simp at hl; omega) (fun x hx => hd x (by simp [hx]))
    have hc := hd c (by simp)
    unfold isDig at hc
    rw [val_snoc, Nat.pow_succ]
    omega
theorem val_le {l : List UInt8} (hl : l.length ≤ 13) (hd : ∀ c ∈ l, isDig c) : val l ≤ 10000000000000 := by
  have h1 := val_lt l.length l rfl hd
  have h2 : 10 ^ l.length ≤ 10 ^ 13 := Nat.pow_le_pow_right (by decide) hl
  have h3 : (10 : Nat) ^ 13 = 10000000000000 := by decide
  omega
theorem take_next (s : ByteArray) (k : Nat) (h : k < s.size) : s.data.toList.take (k + 1) = s.data.toList.take k ++ [s[k]] := by
  rw [List.take_succ_eq_append_getElem (by simpa using h)]; rfl
theorem wholeIs_long {l : List UInt8} (n : Int) (h : l = [] ∨ 13 < l.length) : WholeIs l n false := by
  refine ⟨fun h => (by cases h), fun _ u hu e => ?_⟩
  rcases h with h | h
  · exact decDigits_ne u (e.symm.trans h)
  · have := nDigits_le13 u hu
    rw [← e] at this
    omega
theorem wholeIs_nought {c : UInt8} {r : List UInt8} (n : Int) (h : c.toNat = 48) (hr : r ≠ []) : WholeIs (c :: r) n false := by
  refine ⟨fun h => (by cases h), fun _ u hu e => ?_⟩
  by_cases h1 : 1 ≤ u
  · obtain ⟨c2, r2, e2, hc⟩ := decDigits_head u h1
    rw [e2] at e
    simp at e
    rw [e.1] at h
    exact hc h
  · have : u = 0 := by omega
    subst this
    rw [decDigits_small (by decide)] at e
    simp at e
    exact hr e.2
theorem wholeIs_other {l : List UInt8} {c : UInt8} (n : Int) (h : c ∈ l) (hc : ¬ isDig c) : WholeIs l n false :=
  ⟨fun h => (by cases h), fun _ u hu e => hc (decDigits_dig u c (e ▸ h))⟩
theorem wholeIs_end {l : List UInt8} (hne : l ≠ []) (hd : ∀ c ∈ l, isDig c) (hh : ∀ c r, l = c :: r → c.toNat ≠ 48 ∨ r = []) : WholeIs l (val l : Nat) (decide (val l ≤ 1099511627776)) := by
  have hlen : l.length = (l.length - 1) + 1 := by
    have : l.length ≠ 0 := fun h => hne (List.eq_nil_of_length_eq_zero h)
    omega
  have e := (decDigits_val (l.length - 1) l hlen hd hh).1
  refine ⟨fun h => ?_, fun h u hu eu => ?_⟩
  · simp at h
    exact ⟨by omega, by omega, by simpa using e.symm⟩
  · simp at h
    rw [eu, val_decDigits] at h
    omega

end Go.Proofs.YtaocjmipjibiaaaGreatDoor
