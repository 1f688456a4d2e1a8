/- Lists of stamps in memory: what a slice of them holds, and that it holds it on behind whatever makes new memory alone. -/
import Derived.Test.YtmfnfekkemoliaaDoorRows
import Derived.WalkKit
import Derived.WalkSpells
import Derived.Deep.QuietTactic
import Derived.BigQuiet
import Derived.RowKit3
import Derived.WalkSmall
namespace Go.Proofs.YtmfnfekkemoliaaDoor
open Go.RowKit
set_option linter.unusedVariables false

theorem ret_b {a b : Bool} (h : a = b) : Ending.returned (.bool a) = .returned (.bool b) := by rw [h]

/-- From block b, offset o on lie these stamps. -/
def RowAt (w : World) (b o : Nat) (d : List (Int × Int)) : Prop :=
  ∀ i (h : i < d.length), w.cell? ⟨b, o + i * 2, none⟩ = some (.int .i64 d[i].1) ∧ w.cell? ⟨b, o + i * 2 + 1, none⟩ = some (.int .i64 d[i].2)
theorem RowAt.lt {w : World} {b o : Nat} {d : List (Int × Int)} (h : RowAt w b o d) (hd : d ≠ []) : b < w.heap.size := by
  have h0 := (h 0 (by cases d with | nil => exact absurd rfl hd | cons x y => simp)).1
  rcases Nat.lt_or_ge b w.heap.size with h' | h'
  · exact h'
  · simp [World.cell?, h'] at h0
theorem RowAt.below {w w' : World} {b o : Nat} {d : List (Int × Int)} (h : RowAt w b o d) (hb : Below w.heap.size w w') : RowAt w' b o d := by
  intro i hi
  have hlt := h.lt (by intro e; subst e; simp at hi)
  exact ⟨(hb.cell (p := ⟨b, o + i * 2, none⟩) hlt).trans (h i hi).1, (hb.cell (p := ⟨b, o + i * 2 + 1, none⟩) hlt).trans (h i hi).2⟩

/-- The value is a slice of these stamps. -/
def IsS (w : World) (v : Value) (d : List (Int × Int)) : Prop :=
  ∃ (a : Option Addr) (cap : Nat), v = .slice a d.length cap ∧ d.length ≤ cap ∧ d.length ≤ 8796093022208 ∧ (d = [] ∨ ∃ b o, a = some ⟨b, o, none⟩ ∧ RowAt w b o d)
theorem IsS.below {w w' : World} {v : Value} {d : List (Int × Int)} (h : IsS w v d) (hb : Below w.heap.size w w') : IsS w' v d := by
  obtain ⟨a, cap, e, hc, hl, h⟩ := h
  refine ⟨a, cap, e, hc, hl, h.imp id fun ⟨b, o, e2, hr⟩ => ⟨b, o, e2, hr.below hb⟩⟩

theorem take_more {d1 d2 : List (Int × Int)} {k : Nat} (h1 : k < d1.length) (h2 : k < d2.length) (h : d1.take k = d2.take k) (e : d1[k] = d2[k]) : d1.take (k + 1) = d2.take (k + 1) := by
  rw [List.take_succ_eq_append_getElem h1, List.take_succ_eq_append_getElem h2, h, e]

set_option maxHeartbeats 1000000 in
theorem same_any (v1 v2 : Value) (d1 d2 : List (Int × Int)) (w : World) (h1 : IsS w v1 d1) (h2 : IsS w v2 d2) :
    Calls Tryd.prog 26 #[v1, v2] w fun e w' => e = .returned (.bool (decide (d1 = d2))) ∧ Below w.heap.size w w' := by
  obtain ⟨a1, c1, rfl, hc1, hl1, r1⟩ := h1
  obtain ⟨a2, c2, rfl, hc2, hl2, r2⟩ := h2
  by_cases hl : d1.length = d2.length
  · rw [← hl]
    have HL : Hid (d1.length = d2.length) := hl
    clear hl
    have q : ((d1.length : Int) != (d1.length : Int)) = false := by simp
    go_enter Tryd.func26, Tryd.ntmps26
    go_wp2
    go_loopw [5] (fun i wr => ∃ k : Nat, k ≤ d1.length ∧ i = .int .i64 (k : Int) ∧ d1.take k = d2.take k ∧ Below w.heap.size w wr) (fun i _ => d1.length - (intOf i).toNat)
    case atStart => exact ⟨0, Nat.zero_le _, rfl, by simp, Below.refl _ _⟩
    case round =>
      obtain ⟨k, hk, rfl, ht, hb⟩ := hrel
      have HT : Hid (d1.take k = d2.take k) := ht
      clear ht
      by_cases hlt : k < d1.length
      · have hlt2 : k < d2.length := by have := HL.out; omega
        obtain ⟨b1, o1, rfl, g1⟩ := r1.resolve_left (by intro e; subst e; simp at hlt)
        obtain ⟨b2, o2, rfl, g2⟩ := r2.resolve_left (by intro e; subst e; simp at hlt2)
        obtain ⟨x11, x12⟩ := (g1.below hb) k hlt
        obtain ⟨x21, x22⟩ := (g2.below hb) k hlt2
        have k1 : (k : Int) < (d1.length : Int) := by omega
        have k0 : (0 : Int) ≤ (k : Int) := by omega
        by_cases hx : d1[k] = d2[k]
        · have HM : Hid (d1.take (k + 1) = d2.take (k + 1)) := take_more hlt hlt2 HT.out hx
          rw [← hx] at x21 x22
          clear hx g1 g2 r1 r2
          go_wp2
          go_quiet (fail)
          go_wp2
          go_roundw
          case rel => exact ⟨k + 1, by omega, by go_num, HM.out, below_drewN hb _⟩
          case measure => simp [intOf]; omega
        · have hne : Hid (d1 ≠ d2) := fun e => hx (by subst e; rfl)
          by_cases hf : d1[k].1 = d2[k].1
          · have q2 : (d1[k].2 == d2[k].2) = false := by
              rw [beq_eq_false_iff_ne]; intro e; exact hx (Prod.ext hf e)
            rw [← hf] at x21
            clear hf hx g1 g2 r1 r2
            go_wp2
            go_quiet (fail)
            go_wp2
            go_ret
            exact ⟨ret_b (by simp [hne.out]), below_drewN hb _⟩
          · have q2 : (d1[k].1 == d2[k].1) = false := by rw [beq_eq_false_iff_ne]; exact hf
            clear hf hx g1 g2 r1 r2
            go_wp2
            go_quiet (fail)
            go_wp2
            go_ret
            exact ⟨ret_b (by simp [hne.out]), below_drewN hb _⟩
      · have he : Hid (d1 = d2) := by
          have h := HT.out
          rw [List.take_of_length_le (by omega), List.take_of_length_le (by have := HL.out; omega)] at h
          exact h
        go_wp2
        go_ret
        exact ⟨ret_b (by simp [he.out]), hb⟩
  · have q : ((d1.length : Int) != (d2.length : Int)) = true := by simp; omega
    have hne : Hid (d1 ≠ d2) := fun e => hl (by rw [e])
    clear hl
    go_enter Tryd.func26, Tryd.ntmps26
    go_wp2
    go_ret
    exact ⟨ret_b (by simp [hne.out]), Below.refl _ _⟩

end Go.Proofs.YtmfnfekkemoliaaDoor
