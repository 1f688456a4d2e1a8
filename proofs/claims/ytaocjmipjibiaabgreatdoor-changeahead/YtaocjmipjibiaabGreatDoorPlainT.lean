/- Plain facts on decimal numerals and on texts of stamps: no program is named here. -/
import Derived.Lib.ItoaNum
import Derived.Lib.ItoaLen
import Derived.Lib.AtoiAllCases
import Derived.Lib.Bytealg
namespace Go.Proofs.YtaocjmipjibiaabGreatDoor
open Go.Lib

/-- A byte that is a decimal digit. -/
def isDig (c : UInt8) : Prop := 48 ≤ c.toNat ∧ c.toNat ≤ 57

theorem decDigits_small {u : Nat} (h : u < 10) : decDigits u = [UInt8.ofNat (48 + u)] := decDigits_one h
theorem decDigits_more {u : Nat} (h : ¬ u < 10) : decDigits u = decDigits (u / 10) ++ [UInt8.ofNat (48 + u % 10)] := by
  conv => lhs; rw [decDigits, dif_neg h]

theorem toNat_dig {d : Nat} (h : d < 10) : (UInt8.ofNat (48 + d)).toNat = 48 + d := by
  simp [UInt8.toNat_ofNat']; omega

theorem decDigits_dig : ∀ u : Nat, ∀ c ∈ decDigits u, isDig c := by
  intro u
  induction u using Nat.strongRecOn with
  | _ u ih =>
    intro c hc
    by_cases h : u < 10
    · rw [decDigits_small h, List.mem_singleton] at hc
      subst hc
      unfold isDig
      rw [toNat_dig h]
      omega
    · rw [decDigits_more h, List.mem_append, List.mem_singleton] at hc
      rcases hc with hc | hc
      · exact ih (u / 10) (by omega) c hc
      · subst hc
        unfold isDig
        rw [toNat_dig (Nat.mod_lt _ (by decide))]
        omega

theorem decDigits_ne (u : Nat) : decDigits u ≠ [] := by
  by_cases h : u < 10
  · rw [decDigits_small h]; simp
  · rw [decDigits_more h]; simp

/-- The number that digits spell. -/
def valFrom (a : Nat) (l : List UInt8) : Nat := l.foldl (fun n c => n * 10 + (c.toNat - 48)) a
def val (l : List UInt8) : Nat := valFrom 0 l
theorem val_snoc (l : List UInt8) (c : UInt8) : val (l ++ [c]) = val l * 10 + (c.toNat - 48) := by simp [val, valFrom]
theorem val_one (c : UInt8) : val [c] = c.toNat - 48 := by simp [val, valFrom]

theorem val_decDigits : ∀ u : Nat, val (decDigits u) = u := by
  intro u
  induction u using Nat.strongRecOn with
  | _ u ih =>
    by_cases h : u < 10
    · rw [decDigits_small h, val_one, toNat_dig h]; omega
    · rw [decDigits_more h, val_snoc, ih (u / 10) (by omega), toNat_dig (Nat.mod_lt _ (by decide))]; omega

theorem decDigits_inj {a b : Nat} (h : decDigits a = decDigits b) : a = b := by
  rw [← val_decDigits a, h, val_decDigits]

theorem decDigits_head : ∀ u : Nat, 1 ≤ u → ∃ c r, decDigits u = c :: r ∧ c.toNat ≠ 48 := by
  intro u
  induction u using Nat.strongRecOn with
  | _ u ih =>
    intro h1
    by_cases h : u < 10
    · exact ⟨_, [], decDigits_small h, by rw [toNat_dig h]; omega⟩
    · obtain ⟨c, r, e, hc⟩ := ih (u / 10) (by omega) (by omega)
      exact ⟨c, r ++ [UInt8.ofNat (48 + u % 10)], by rw [decDigits_more h, e]; rfl, hc⟩

theorem dig_back {c : UInt8} (h : isDig c) : UInt8.ofNat (48 + (c.toNat - 48)) = c := by
  unfold isDig at h
  apply UInt8.toNat_inj.1
  rw [toNat_dig (by omega)]
  omega

/-- A numeral without a nought ahead is the digits of the number that it spells. -/
theorem decDigits_val : ∀ (n : Nat) (l : List UInt8), l.length = n + 1 → (∀ c ∈ l, isDig c) → (∀ c r, l = c :: r → c.toNat ≠ 48 ∨ r = []) → decDigits (val l) = l ∧ (n ≠ 0 → 1 ≤ val l) := by
  intro n
  induction n with
  | zero =>
    intro l hl hd _
    match l, hl with
    | [c], _ =>
      have hc := hd c (by simp)
      refine ⟨?_, fun h => absurd rfl h⟩
      have := hc
      unfold isDig at this
      rw [val_one, decDigits_small (by omega), dig_back hc]
  | succ n ih =>
    intro l hl hd hh
    obtain ⟨m, c, rfl⟩ : ∃ m c, l = m ++ [c] := ⟨l.dropLast, l.getLast (by intro h; rw [h] at hl; simp at hl), (List.dropLast_concat_getLast _).symm⟩
    have hc := hd c (by simp)
    have hm : m.length = n + 1 := by simp at hl; omega
    have hmd : ∀ x ∈ m, isDig x := fun x hx => hd x (by simp [hx])
    have hne : ∀ x r, m = x :: r → x.toNat ≠ 48 := fun x r e => by
      subst e
      rcases hh x (r ++ [c]) rfl with h | h
      · exact h
      · simp at h
    obtain ⟨e1, e2⟩ := ih m hm hmd (fun x r e => .inl (hne x r e))
    have h1 : 1 ≤ val m := by
      by_cases h : n = 0
      · subst h
        match m, hm with
        | [x], _ =>
          have := hne x [] rfl
          have hx := hmd x (by simp)
          unfold isDig at hx
          rw [val_one]; omega
      · exact e2 h
    have hcb := hc
    unfold isDig at hcb
    rw [val_snoc]
    refine ⟨?_, fun _ => by omega⟩
    rw [decDigits_more (by omega), show (val m * 10 + (c.toNat - 48)) / 10 = val m by omega, show (val m * 10 + (c.toNat - 48)) % 10 = c.toNat - 48 by omega, dig_back hc, e1]

theorem nDigits_le13 (u : Nat) (h : u ≤ 1099511627776) : (decDigits u).length ≤ 13 := by
  rw [decDigits_length]
  rcases Nat.lt_or_ge 13 (nDigits u) with hb | hb
  · exfalso
    have key : ∀ k v : Nat, nDigits v = k + 1 → 10 ^ k ≤ v ∨ k = 0 := by
      intro k
      induction k with
      | zero => intro v _; exact .inr rfl
      | succ k ih =>
        intro v hv
        have h10 : ¬ v < 10 := by intro h10; rw [nDigits_small h10] at hv; omega
        rw [nDigits_big h10] at hv
        left
        rcases ih (v / 10) (by omega) with h' | h'
        · rw [Nat.pow_succ]; omega
        · subst h'; simp; omega
    rcases key (nDigits u - 1) u (by omega) with h' | h'
    · have : 10 ^ 13 ≤ 10 ^ (nDigits u - 1) := Nat.pow_le_pow_right (by decide) (by omega)
      have h13 : (10 : Nat) ^ 13 = 10000000000000 := by decide
      omega
    · omega
  · exact hb

/-! ### A parse of digits -/
theorem parse_snoc : ∀ (l : List UInt8) (a : Nat) (c : UInt8) (u : Nat), parseUint10 a l = .ok u → parseUint10 a (l ++ [c]) = parseUint10 u [c] := by
  intro l
  induction l with
  | nil => intro a c u h; simp [parseUint10] at h; subst h; rfl
  | cons x r ih =>
    intro a c u h
    simp only [List.cons_append, parseUint10] at h ⊢
    split at h
    · rename_i hx
      rw [if_pos hx]
      split at h
      · cases h
      · rename_i h2
        rw [if_neg h2]
        split at h
        · cases h
        · rename_i h3
          rw [if_neg h3]
          have := ih _ c u h
          simpa only [parseUint10] using this
    · cases h

theorem parse_decDigits : ∀ u : Nat, u < 1000000000000000000 → parseUint10 0 (decDigits u) = .ok u := by
  intro u
  induction u using Nat.strongRecOn with
  | _ u ih =>
    intro hu
    by_cases h : u < 10
    · rw [decDigits_small h]
      simp only [parseUint10, toNat_dig h]
      rw [if_pos (by omega), if_neg (by omega), if_neg (by omega)]
      congr 1
      omega
    · rw [decDigits_more h, parse_snoc _ _ _ _ (ih (u / 10) (by omega) (by omega))]
      have hm : u % 10 < 10 := Nat.mod_lt _ (by decide)
      simp only [parseUint10, toNat_dig hm]
      rw [if_pos (by omega), if_neg (by omega), if_neg (by omega)]
      congr 1
      omega

theorem atoi_decDigits (u : Nat) (hu : u < 1000000000000000000) : atoiAll (decDigits u) = .ok (u : Int) := by
  have hp := parse_decDigits u hu
  match hd : decDigits u, decDigits_ne u with
  | c :: r, _ =>
    have hc := decDigits_dig u c (by rw [hd]; simp)
    unfold isDig at hc
    rw [hd] at hp
    unfold atoiAll parseMag
    simp only [if_neg (show ¬ (c.toNat = 43 ∨ c.toNat = 45) by omega), if_neg (show ¬ (c :: r = []) by simp), hp]
    rw [if_neg (by omega), if_neg (by omega), if_neg (by omega)]

theorem itoa_nat (n : Int) (h : 0 ≤ n) : itoa n = decDigits n.toNat := by unfold itoa; rw [if_neg (by omega)]

/-! ### The text of a stamp -/
def rootL : List UInt8 := [114, 111, 111, 116]
def trashL : List UInt8 := [116, 114, 97, 115, 104]
def stampL (c r : Int) : List UInt8 := itoa c ++ 46 :: itoa r
def RightP (c r : Int) : Prop := 1 ≤ c ∧ c ≤ 1099511627776 ∧ 0 ≤ r ∧ r < 64

/-- What a text is the text of; k: the error. -/
def ParseIs (l : List UInt8) (c r k : Int) : Prop :=
  (l = rootL ∧ c = 0 ∧ r = 0 ∧ k = 0) ∨ (l = trashL ∧ c = 0 ∧ r = 1 ∧ k = 0) ∨ (RightP c r ∧ l = stampL c r ∧ k = 0) ∨
  ((l ≠ rootL ∧ l ≠ trashL ∧ ∀ c2 r2, RightP c2 r2 → l ≠ stampL c2 r2) ∧ c = 0 ∧ r = 0 ∧ k = 2)

theorem no_point (n : Int) (h : 0 ≤ n) : (46 : UInt8) ∉ itoa n := by
  rw [itoa_nat n h]
  intro hm
  have := decDigits_dig _ _ hm
  unfold isDig at this
  simp at this

theorem cut_unique : ∀ (a b a2 b2 : List UInt8), (46 : UInt8) ∉ a → (46 : UInt8) ∉ a2 → a ++ 46 :: b = a2 ++ 46 :: b2 → a = a2 ∧ b = b2 := by
  intro a
  induction a with
  | nil =>
    intro b a2 b2 _ h2 e
    match a2 with
    | [] => simp at e; exact ⟨rfl, e⟩
    | x :: y => simp at e; simp [e.1] at h2
  | cons x y ih =>
    intro b a2 b2 h1 h2 e
    match a2 with
    | [] => simp at e; simp [e.1] at h1
    | x2 :: y2 =>
      simp at e h1 h2
      obtain ⟨rfl, e⟩ := e
      obtain ⟨e1, e2⟩ := ih b y2 b2 h1.2 h2.2 e
      exact ⟨by rw [e1], e2⟩

theorem itoa_inj {a b : Int} (ha : 0 ≤ a) (hb : 0 ≤ b) (h : itoa a = itoa b) : a = b := by
  rw [itoa_nat a ha, itoa_nat b hb] at h
  have := decDigits_inj h
  omega

theorem stampL_inj {c r c2 r2 : Int} (h : RightP c r) (h2 : RightP c2 r2) (e : stampL c r = stampL c2 r2) : c = c2 ∧ r = r2 := by
  unfold RightP at h h2
  unfold stampL at e
  obtain ⟨e1, e2⟩ := cut_unique _ _ _ _ (no_point c (by omega)) (no_point c2 (by omega)) e
  exact ⟨itoa_inj (by omega) (by omega) e1, itoa_inj (by omega) (by omega) e2⟩

theorem point_in_stampL (c r : Int) : (46 : UInt8) ∈ stampL c r := by simp [stampL]
theorem stampL_ne_root (c r : Int) : stampL c r ≠ rootL := fun e => by
  have := point_in_stampL c r; rw [e] at this; simp [rootL] at this
theorem stampL_ne_trash (c r : Int) : stampL c r ≠ trashL := fun e => by
  have := point_in_stampL c r; rw [e] at this; simp [trashL] at this

theorem ParseIs.unique {l : List UInt8} {c r k c2 r2 k2 : Int} (h : ParseIs l c r k) (h2 : ParseIs l c2 r2 k2) : c = c2 ∧ r = r2 ∧ k = k2 := by
  rcases h with ⟨e, rfl, rfl, rfl⟩ | ⟨e, rfl, rfl, rfl⟩ | ⟨hr, e, rfl⟩ | ⟨hn, rfl, rfl, rfl⟩ <;>
    rcases h2 with ⟨e2, rfl, rfl, rfl⟩ | ⟨e2, rfl, rfl, rfl⟩ | ⟨hr2, e2, rfl⟩ | ⟨hn2, rfl, rfl, rfl⟩
  · exact ⟨rfl, rfl, rfl⟩
  · rw [e] at e2; simp [rootL, trashL] at e2
  · exact absurd (e2.symm.trans e) (stampL_ne_root _ _)
  · exact absurd e hn2.1
  · rw [e] at e2; simp [rootL, trashL] at e2
  · exact ⟨rfl, rfl, rfl⟩
  · exact absurd (e2.symm.trans e) (stampL_ne_trash _ _)
  · exact absurd e hn2.2.1
  · exact absurd (e.symm.trans e2) (stampL_ne_root _ _)
  · exact absurd (e.symm.trans e2) (stampL_ne_trash _ _)
  · obtain ⟨rfl, rfl⟩ := stampL_inj hr hr2 (e.symm.trans e2); exact ⟨rfl, rfl, rfl⟩
  · exact absurd e (hn2.2.2 _ _ hr)
  · exact absurd e2 hn.1
  · exact absurd e2 hn.2.1
  · exact absurd e2 (hn.2.2 _ _ hr2)
  · exact ⟨rfl, rfl, rfl⟩

/-! ### The first point -/
theorem indexByte_not : ∀ (l : List UInt8), (46 : UInt8) ∉ l → indexByte l 46 = -1 := by
  intro l
  induction l with
  | nil => intro _; rfl
  | cons x y ih =>
    intro h
    simp only [List.mem_cons, not_or] at h
    unfold indexByte
    rw [if_neg (by simp; exact fun e => h.1 e.symm), ih h.2]
    rfl
theorem indexByte_at : ∀ (a b : List UInt8), (46 : UInt8) ∉ a → indexByte (a ++ 46 :: b) 46 = (a.length : Int) := by
  intro a b
  induction a with
  | nil => intro _; rfl
  | cons x y ih =>
    intro h
    simp only [List.mem_cons, not_or] at h
    rw [List.cons_append, indexByte, if_neg (by simp; exact fun e => h.1 e.symm), ih h.2, if_neg (by simp)]
    simp
theorem cut_exists : ∀ (l : List UInt8), (46 : UInt8) ∈ l → ∃ a b, l = a ++ 46 :: b ∧ (46 : UInt8) ∉ a := by
  intro l
  induction l with
  | nil => intro h; cases h
  | cons x y ih =>
    intro h
    by_cases hx : x = 46
    · exact ⟨[], y, by rw [hx]; rfl, by simp⟩
    · simp only [List.mem_cons] at h
      obtain ⟨a, b, e, hn⟩ := ih (h.resolve_left (fun e => hx e.symm))
      exact ⟨x :: a, b, by rw [e]; rfl, by simp only [List.mem_cons, not_or]; exact ⟨fun e => hx e.symm, hn⟩⟩

end Go.Proofs.YtaocjmipjibiaabGreatDoor
