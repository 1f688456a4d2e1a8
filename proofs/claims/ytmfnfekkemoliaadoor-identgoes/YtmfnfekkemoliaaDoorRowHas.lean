/- What the document's Has does: is a stamp in a list? -/
import Derived.Test.YtmfnfekkemoliaaDoorRowS
namespace Go.Proofs.YtmfnfekkemoliaaDoor
open Go.RowKit
set_option linter.unusedVariables false

set_option maxHeartbeats 1000000 in
theorem has_any (v : Value) (d : List (Int × Int)) (c r : Int) (w : World) (h1 : IsS w v d) :
    Calls Tryd.prog 45 #[v, .agg #[.int .i64 c, .int .i64 r]] w fun e w' => e = .returned (.bool (decide ((c, r) ∈ d))) ∧ Below w.heap.size w w' := by
  obtain ⟨a1, c1, rfl, hc1, hl1, r1⟩ := h1
  have hbox : Below w.heap.size w (w.alloc (.cells #[.int .i64 c, .int .i64 r] 23)) := (Below.refl _ _).alloc (Nat.le_refl _) _
  go_enter Tryd.func45, Tryd.ntmps45
  go_wp2
  go_loopw [5] (fun i wr => ∃ k : Nat, k ≤ d.length ∧ i = .int .i64 (k : Int) ∧ (c, r) ∉ d.take k ∧ Below (w.heap.size + 1) (w.alloc (.cells #[.int .i64 c, .int .i64 r] 23)) wr) (fun i _ => d.length - (intOf i).toNat)
  case atStart => exact ⟨0, Nat.zero_le _, rfl, by simp, Below.refl _ _⟩
  case round =>
    obtain ⟨k, hk, rfl, ht, hb⟩ := hrel
    have HT : Hid ((c, r) ∉ d.take k) := ht
    clear ht
    have hbw : Below w.heap.size w wr := hbox.trans (hb.mono (by omega))
    have y1 : wr.cell? ⟨w.heap.size, 0, none⟩ = some (.int .i64 c) := (hb.cell (p := ⟨w.heap.size, 0, none⟩) (by show w.heap.size < _; omega)).trans (by simp [go_sem])
    have y2 : wr.cell? ⟨w.heap.size, 1, none⟩ = some (.int .i64 r) := (hb.cell (p := ⟨w.heap.size, 1, none⟩) (by show w.heap.size < _; omega)).trans (by simp [go_sem])
    by_cases hlt : k < d.length
    · obtain ⟨b1, o1, rfl, g1⟩ := r1.resolve_left (by intro e; subst e; simp at hlt)
      obtain ⟨x11, x12⟩ := (g1.below hbw) k hlt
      have k1 : (k : Int) < (d.length : Int) := by omega
      have k0 : (0 : Int) ≤ (k : Int) := by omega
      have hm : d[k] ∈ d := List.getElem_mem hlt
      by_cases hx : d[k] = (c, r)
      · have HM : Hid ((c, r) ∈ d) := hx ▸ hm
        rw [hx] at x11 x12
        clear hx hm g1 r1
        go_wp2
        go_quiet (fail)
        go_wp2
        go_ret
        exact ⟨ret_b (by simp [HM.out]), below_drewN hbw _⟩
      · have HM : Hid ((c, r) ∉ d.take (k + 1)) := by
          show _ ∉ _
          rw [List.take_succ_eq_append_getElem hlt, List.mem_append, List.mem_singleton, not_or]
          exact ⟨HT.out, fun e => hx e.symm⟩
        clear hm
        by_cases hf : d[k].1 = c
        · have q2 : (d[k].2 == r) = false := by
            rw [beq_eq_false_iff_ne]; intro e; exact hx (Prod.ext hf e)
          rw [hf] at x11
          clear hf hx g1 r1
          go_wp2
          go_quiet (fail)
          go_wp2
          go_roundw
          case rel => exact ⟨k + 1, by omega, by go_num, HM.out, below_drewN hb _⟩
          case measure => simp [intOf]; omega
        · have q2 : (d[k].1 == c) = false := by rw [beq_eq_false_iff_ne]; exact hf
          clear hf hx g1 r1
          go_wp2
          go_quiet (fail)
          go_wp2
          go_roundw
          case rel => exact ⟨k + 1, by omega, by go_num, HM.out, below_drewN hb _⟩
          case measure => simp [intOf]; omega
    · have he : Hid ((c, r) ∉ d) := by
        have h := HT.out
        rw [List.take_of_length_le (by omega)] at h
        exact h
      go_wp2
      go_ret
      exact ⟨ret_b (by simp [he.out]), hbw⟩

end Go.Proofs.YtmfnfekkemoliaaDoor
