/- What the document's Digits does; plain facts on Whole. -/
import Derived.Test.YtaocjmipjibiaabGreatDoorWalksT
namespace Go.Proofs.YtaocjmipjibiaabGreatDoor
open Go.RowKit
set_option linter.unusedVariables false

/-- What is left of a number's digits ahead of its last one. -/
def restL (n : Nat) : List UInt8 := if n < 10 then [] else Lib.decDigits (n / 10)
theorem restL_step (n : Nat) : Lib.decDigits n = restL n ++ [UInt8.ofNat (48 + n % 10)] := by
  unfold restL
  by_cases h : n < 10
  · rw [if_pos h, decDigits_small h, Nat.mod_eq_of_lt h]; rfl
  · rw [if_neg h, decDigits_more h]

/-- A digit's byte. -/
def digC (x : Int) : UInt8 := UInt8.ofNat (48 + x.toNat)
theorem digC_mod (m : Nat) : digC ((m : Int) % 10) = UInt8.ofNat (48 + m % 10) := by
  unfold digC; rw [show ((m : Int) % 10).toNat = m % 10 by omega]
theorem digC_div (m : Nat) : digC ((m : Int) / 10 % 10) = UInt8.ofNat (48 + m / 10 % 10) := by
  unfold digC; rw [show ((m : Int) / 10 % 10).toNat = m / 10 % 10 by omega]

theorem conv1 (v : World) (x : Int) (h0 : 0 ≤ x) (h9 : x < 10) :
    (convert 60 9 (.slice (some ⟨v.heap.size, 0, none⟩) 1 1)).run Tryz.prog (v.alloc (.cells #[.int .u8 (48 + x)] 5)) = .ok (.string ⟨#[digC x]⟩) (v.alloc (.cells #[.int .u8 (48 + x)] 5)) := by
  have := run_convert_bytes_back (P := Tryz.prog) (v.alloc (.cells #[.int .u8 (48 + x)] 5)) 60 9 5 ⟨v.heap.size, 0, none⟩ 1 [UInt8.ofNat (48 + x.toNat)] Tryz.underlying60 Tryz.underlying5 Tryz.underlying9 (fun j hj => by
    have hj0 : j = 0 := by simp at hj; omega
    subst hj0
    have e : (UInt8.ofNat (48 + x.toNat)).toNat = 48 + x.toNat := toNat_dig (by omega)
    simp only [List.getElem_cons_zero, e]
    simp [Addr.add, go_sem]
    omega)
  exact this

/-- What Whole tells. -/
def WholeIs (l : List UInt8) (n : Int) (b : Bool) : Prop :=
  (b = true → 0 ≤ n ∧ n ≤ 1099511627776 ∧ l = Lib.decDigits n.toNat) ∧ (b = false → ∀ u : Nat, u ≤ 1099511627776 → l ≠ Lib.decDigits u)

theorem val_lt : ∀ (k : Nat) (l : List UInt8), l.length = k → (∀ c ∈ l, isDig c) → val l < 10 ^ k := by
  intro k
  induction k with
  | zero => intro l hl _; have : l = [] := List.eq_nil_of_length_eq_zero hl; subst this; simp [val, valFrom]
  | succ k ih =>
    intro l hl hd
    obtain ⟨m, c, rfl⟩ : ∃ m c, l = m ++ [c] := ⟨l.dropLast, l.getLast (by intro h; rw [h] at hl; simp at hl), (List.dropLast_concat_getLast _).symm⟩
    have h1 := ih m (by simp at hl; omega) (fun x hx => hd x (by simp [hx]))
    have hc := hd c (by simp)
    unfold isDig at hc
    rw [val_snoc, Nat.pow_succ]
    omega
theorem val_le {l : List UInt8} (hl : l.length ≤ 13) (hd : ∀ c ∈ l, isDig c) : val l ≤ 10000000000000 := by
  have h1 := val_lt l.length l rfl hd
  have h2 : 10 ^ l.length ≤ 10 ^ 13 := Nat.pow_le_pow_right (by decide) hl
  have h3 : (10 : Nat) ^ 13 = 10000000000000 := by decide
  omega
theorem take_next (s : ByteArray) (k : Nat) (h : k < s.size) : s.data.toList.take (k + 1) = s.data.toList.take k ++ [s[k]] := by
  rw [List.take_succ_eq_append_getElem (by simpa using h)]; rfl
theorem wholeIs_long {l : List UInt8} (n : Int) (h : l = [] ∨ 13 < l.length) : WholeIs l n false := by
  refine ⟨fun h => (by cases h), fun _ u hu e => ?_⟩
  rcases h with h | h
  · exact decDigits_ne u (e.symm.trans h)
  · have := nDigits_le13 u hu
    rw [← e] at this
    omega
theorem wholeIs_nought {c : UInt8} {r : List UInt8} (n : Int) (h : c.toNat = 48) (hr : r ≠ []) : WholeIs (c :: r) n false := by
  refine ⟨fun h => (by cases h), fun _ u hu e => ?_⟩
  by_cases h1 : 1 ≤ u
  · obtain ⟨c2, r2, e2, hc⟩ := decDigits_head u h1
    rw [e2] at e
    simp at e
    rw [e.1] at h
    exact hc h
  · have : u = 0 := by omega
    subst this
    rw [decDigits_small (by decide)] at e
    simp at e
    exact hr e.2
theorem wholeIs_other {l : List UInt8} {c : UInt8} (n : Int) (h : c ∈ l) (hc : ¬ isDig c) : WholeIs l n false :=
  ⟨fun h => (by cases h), fun _ u hu e => hc (decDigits_dig u c (e ▸ h))⟩
theorem wholeIs_end {l : List UInt8} (hne : l ≠ []) (hd : ∀ c ∈ l, isDig c) (hh : ∀ c r, l = c :: r → c.toNat ≠ 48 ∨ r = []) : WholeIs l (val l : Nat) (decide (val l ≤ 1099511627776)) := by
  have hlen : l.length = (l.length - 1) + 1 := by
    have : l.length ≠ 0 := fun h => hne (List.eq_nil_of_length_eq_zero h)
    omega
  have e := (decDigits_val (l.length - 1) l hlen hd hh).1
  refine ⟨fun h => ?_, fun h u hu eu => ?_⟩
  · simp at h
    exact ⟨by omega, by omega, by simpa using e.symm⟩
  · simp at h
    rw [eu, val_decDigits] at h
    omega

end Go.Proofs.YtaocjmipjibiaabGreatDoor
