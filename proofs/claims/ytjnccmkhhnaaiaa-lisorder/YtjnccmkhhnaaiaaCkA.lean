/- What Check and At do, the program's and the document's, at any list; and whether two lists are the same. -/
import Derived.Test.YtjnccmkhhnaaiaaRowI
namespace Go.Proofs.Ytjnccmkhhnaaiaa
open Go.RowKit
set_option linter.unusedVariables false

theorem inC_yes {x : Int} (h0 : 0 ≤ x) (h1 : x ≤ 1099511627776) : inC x = true := by simp [inC, h0, h1]
theorem inC_no {x : Int} (h : x < 0 ∨ 1099511627776 < x) : inC x = false := by simp [inC]; omega
theorem all_snoc {d : List Int} {k : Nat} (h : k < d.length) (h1 : (d.take k).all inC = true) (h2 : inC d[k] = true) : (d.take (k + 1)).all inC = true := by
  rw [List.take_succ_eq_append_getElem h, List.all_append, h1]; simp [h2]
theorem all_no {d : List Int} {k : Nat} (h : k < d.length) (h2 : inC d[k] = false) : d.all inC = false := by
  rw [List.all_eq_false]; exact ⟨_, List.getElem_mem h, by simp [h2]⟩
theorem checkL_long {d : List Int} (h : 64 < d.length) : checkL d = 3 := by unfold checkL; rw [if_pos h]
theorem checkL_no {d : List Int} (h : ¬ 64 < d.length) (h2 : d.all inC = false) : checkL d = 1 := by unfold checkL; rw [if_neg h, h2]; rfl
theorem checkL_yes {d : List Int} (h : ¬ 64 < d.length) {k : Nat} (hk : d.length ≤ k) (h2 : (d.take k).all inC = true) : checkL d = 0 := by
  rw [List.take_of_length_le hk] at h2
  unfold checkL; rw [if_neg h, h2]; rfl

/-- The number at a place. -/
def atL (d : List Int) (r : Int) : Int := if 0 ≤ r then d.getD r.toNat 0 else 0
theorem atL_nat (d : List Int) (k : Nat) : atL d (k : Int) = d.getD k 0 := by unfold atL; rw [if_pos (by omega)]; simp
theorem atL_out {d : List Int} {r : Int} (h : r < 0 ∨ (d.length : Int) ≤ r) : atL d r = 0 := by
  unfold atL
  split
  · exact getD_out (by omega)
  · rfl
theorem atL_in {d : List Int} {k : Nat} (h : k < d.length) : atL d (k : Int) = d[k] := by rw [atL_nat, getD_at h]

theorem take_moreI {d1 d2 : List Int} {k : Nat} (h1 : k < d1.length) (h2 : k < d2.length) (h : d1.take k = d2.take k) (e : d1[k] = d2[k]) : d1.take (k + 1) = d2.take (k + 1) := by
  rw [List.take_succ_eq_append_getElem h1, List.take_succ_eq_append_getElem h2, h, e]

set_option maxHeartbeats 1000000 in
/-- The document's Same. -/
theorem sameI_any (v1 v2 : Value) (d1 d2 : List Int) (w : World) (h1 : IsI w v1 d1) (h2 : IsI w v2 d2) :
    Calls Try.prog 15 #[v1, v2] w fun e w' => e = .returned (.bool (decide (d1 = d2))) ∧ Below w.heap.size w w' := by
  obtain ⟨a1, c1, rfl, hc1, hl1, r1⟩ := h1
  obtain ⟨a2, c2, rfl, hc2, hl2, r2⟩ := h2
  by_cases hl : d1.length = d2.length
  · rw [← hl]
    have HL : Hid (d1.length = d2.length) := hl
    clear hl
    have q : ((d1.length : Int) != (d1.length : Int)) = false := by simp
    go_enter Try.func15, Try.ntmps15
    go_wp2
    go_loopw [5] (fun i wr => ∃ k : Nat, k ≤ d1.length ∧ i = .int .i64 (k : Int) ∧ d1.take k = d2.take k ∧ Below w.heap.size w wr) (fun i _ => d1.length - (intOf i).toNat)
    case atStart => exact ⟨0, Nat.zero_le _, rfl, by simp, Below.refl _ _⟩
    case round =>
      obtain ⟨k, hk, rfl, ht, hb⟩ := hrel
      have HT : Hid (d1.take k = d2.take k) := ht
      clear ht
      by_cases hlt : k < d1.length
      · have hlt2 : k < d2.length := by have := HL.out; omega
        obtain ⟨b1, o1, rfl, g1⟩ := r1.resolve_left (by intro e; subst e; simp at hlt)
        obtain ⟨b2, o2, rfl, g2⟩ := r2.resolve_left (by intro e; subst e; simp at hlt2)
        have x1 := (g1.below hb) k hlt
        have x2 := (g2.below hb) k hlt2
        have k1 : (k : Int) < (d1.length : Int) := by omega
        have k0 : (0 : Int) ≤ (k : Int) := by omega
        by_cases hx : d1[k] = d2[k]
        · have HM : Hid (d1.take (k + 1) = d2.take (k + 1)) := take_moreI hlt hlt2 HT.out hx
          rw [← hx] at x2
          have q2 : (d1[k] != d1[k]) = false := by simp
          clear hx g1 g2 r1 r2
          go_wp2
          go_quiet (fail)
          go_wp2
          go_roundw
          case rel => exact ⟨k + 1, by omega, by go_num, HM.out, below_drewN hb _⟩
          case measure => simp [intOf]; omega
        · have hne : Hid (d1 ≠ d2) := fun e => hx (by subst e; rfl)
          have q2 : (d1[k] != d2[k]) = true := by simp [hx]
          clear hx g1 g2 r1 r2
          go_wp2
          go_quiet (fail)
          go_wp2
          go_ret
          exact ⟨ret_b (by simp [hne.out]), below_drewN hb _⟩
      · have he : Hid (d1 = d2) := by
          have h := HT.out
          rw [List.take_of_length_le (by omega), List.take_of_length_le (by have := HL.out; omega)] at h
          exact h
        go_wp2
        go_ret
        exact ⟨ret_b (by simp [he.out]), hb⟩
  · have q : ((d1.length : Int) != (d2.length : Int)) = true := by simp; omega
    have hne : Hid (d1 ≠ d2) := fun e => hl (by rw [e])
    clear hl
    go_enter Try.func15, Try.ntmps15
    go_wp2
    go_ret
    exact ⟨ret_b (by simp [hne.out]), Below.refl _ _⟩

end Go.Proofs.Ytjnccmkhhnaaiaa
