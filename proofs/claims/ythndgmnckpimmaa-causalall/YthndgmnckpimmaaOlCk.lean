/- What the document's Under does, at any lists. -/
import Derived.Test.YthndgmnckpimmaaCkU
namespace Go.Proofs.Ythndgmnckpimmaa
open Go.RowKit
set_option linter.unusedVariables false

set_option maxHeartbeats 1000000 in
/-- The document's Under. -/
theorem under_any (v1 v2 : Value) (d1 d2 : List Int) (w : World) (h1 : IsI w v1 d1) (h2 : IsI w v2 d2) :
    Calls Try.prog 53 #[v1, v2] w fun e w' => e = .returned (.bool (underB d1 d2)) ∧ Below w.heap.size w w' := by
  obtain ⟨a1, c1, rfl, hc1, hl1, r1⟩ := h1
  have HR : Hid (d1 = [] ∨ ∃ b o, a1 = some ⟨b, o, none⟩ ∧ IntsAt w b o d1) := r1
  clear r1
  obtain ⟨a2, c2, e2⟩ := h2.form
  subst e2
  have H2 : Hid (IsI w (.slice a2 d2.length c2) d2) := h2
  clear h2
  go_enter Try.func53, Try.ntmps53
  go_wp2
  go_loopw [5] (fun i wr => ∃ k : Nat, k ≤ d1.length ∧ i = .int .i64 (k : Int) ∧ Hid (∀ r, r < k → d1.getD r 0 ≤ d2.getD r 0) ∧ Hid (Below w.heap.size w wr)) (fun i _ => d1.length - (intOf i).toNat)
  case atStart => exact ⟨0, Nat.zero_le _, rfl, fun r h => by omega, Below.refl _ _⟩
  case round =>
    obtain ⟨k, hk, rfl, HA, HB⟩ := hrel
    by_cases hlt : k < d1.length
    · obtain ⟨b1, o1, rfl, g1⟩ := HR.out.resolve_left (by intro e; subst e; simp at hlt)
      have x1 := (g1.below HB.out) k hlt
      clear g1
      have k1 : (k : Int) < (d1.length : Int) := by omega
      have k0 : (0 : Int) ≤ (k : Int) := by omega
      have hat := atL_nat d2 k
      have hgt := getD_at hlt
      by_cases hx : atL d2 (k : Int) < d1[k]
      · have HE : Hid (underB d1 d2 = false) := underB_no d1 d2 k hlt (by rw [← hat, hgt]; exact hx)
        clear hat hgt
        go_wp2
        go_quiet ((go_at_call 50; exact Calls.quiet_of_same (refAt_any _ d2 _ _ (H2.out.below (below_drewN HB.out _)))))
        go_wp2
        go_ret
        exact ⟨ret_b HE.out.symm, below_drewN HB.out _⟩
      · have HM : Hid (∀ r, r < k + 1 → d1.getD r 0 ≤ d2.getD r 0) := fun r hr => by
          rcases Nat.lt_or_ge r k with h | h
          · exact HA.out r h
          · obtain rfl : r = k := by omega
            rw [← hat, hgt]; omega
        clear hat hgt
        go_wp2
        go_quiet ((go_at_call 50; exact Calls.quiet_of_same (refAt_any _ d2 _ _ (H2.out.below (below_drewN HB.out _)))))
        go_wp2
        go_roundw
        case rel => exact ⟨k + 1, by omega, by go_num, HM, below_drewN HB.out _⟩
        case measure => simp [intOf]; omega
    · have HE : Hid (underB d1 d2 = true) := (underB_iff d1 d2).2 fun r hr => HA.out r (by omega)
      go_wp2
      go_ret
      exact ⟨ret_b HE.out.symm, HB.out⟩

end Go.Proofs.Ythndgmnckpimmaa
