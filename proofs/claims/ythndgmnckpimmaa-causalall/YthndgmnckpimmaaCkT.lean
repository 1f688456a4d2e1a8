/- What Trim does, the program's and the document's, at any list: the list without the noughts at its end, in a row of its own. -/
import Derived.Test.YthndgmnckpimmaaCkA
namespace Go.Proofs.Ythndgmnckpimmaa
open Go.RowKit
set_option linter.unusedVariables false

set_option maxHeartbeats 1000000 in
theorem trim_some (ad : Addr) (c1 : Nat) (d : List Int) (w : World) (hc1 : d.length ≤ c1) (hl1 : d.length ≤ 17592186044416) (g1 : d = [] ∨ ∃ b o, some ad = some ⟨b, o, none⟩ ∧ IntsAt w b o d) :
    Calls Try.prog 91 #[.slice (some ad) d.length c1] w fun e w' => ∃ v', e = .returned v' ∧ OwnI w.heap.size w' v' (trimL d) ∧ Below w.heap.size w w' := by
  obtain ⟨i0, hi, hz0, hz1, hz2⟩ := info_parts infoInt
  have HG : Hid (d = [] ∨ ∃ b o, some ad = some ⟨b, o, none⟩ ∧ IntsAt w b o d) := g1
  have HN0 : Hid (∀ k j u, (cellsI (d.take k))[j]? = some u → w.cell? (ad.add j) = some u) := by
    intro k j u hj
    rcases g1 with rfl | ⟨b, o, e, g⟩
    · simp [cellsI] at hj
    · cases e
      exact (g.take k).news j u hj
  clear g1
  go_enter Try.func91, Try.ntmps91
  go_wp2
  go_loop [3] (fun i => ∃ k : Nat, k ≤ d.length ∧ i = .int .i64 (k : Int) ∧ Hid (∀ j, k ≤ j → d.getD j 0 = 0)) (fun i => (intOf i).toNat)
  case atStart => exact ⟨d.length, Nat.le_refl _, rfl, fun j h => getD_out h⟩
  case round =>
    obtain ⟨k, hk, rfl, HA⟩ := hrel
    have HL : Hid ((cellsI (d.take k)).length = k * 1) := by show _ = _; rw [cellsI_length]; simp; omega
    have HN := HN0.out k
    have HN2 : Hid (∀ j u, (cellsI (d.take k))[j]? = some u → w.cell? (ad.add j) = some u) := HN
    clear HN
    cases k with
    | zero =>
      have HE : Hid (trimL d = d.take 0) := trim_take d 0 (Nat.zero_le _) HA.out (.inl rfl)
      go_wp2_with (at_builtin; (refine wpList_append_own _ rfl _ _ 31 rfl w.heap.size 3 i0 (.int .i64 0) 1 8 Try.underlying31 hi hz0 hz1 hz2 rfl (by decide) _ _ _ rfl (World.ownsRow_nil _ _ _ _) ad 0 _ (cellsI (d.take 0)) rfl HL.out HN2.out (cellsI_one _) (by unfold maxLen; omega) (by omega) (Nat.le_refl _) ?_; intro v3 w3 hown' hgrow3 hnil3))
      go_ret
      exact ⟨_, rfl, by rw [HE.out]; unfold OwnI; simpa [cellsI] using hown', (Below.refl _ _).grown hgrow3 (Nat.le_refl _) (fun j e => by cases e)⟩
    | succ j =>
      obtain ⟨b1, o1, e1, g1⟩ := HG.out.resolve_left (by intro e; subst e; simp at hk)
      have x1 := g1 j (by omega)
      cases e1
      clear g1
      have k1 : (j : Int) < (d.length : Int) := by omega
      have k0 : (0 : Int) ≤ (j : Int) := by omega
      by_cases hx : d[j] = 0
      · have HM : Hid (∀ i, j ≤ i → d.getD i 0 = 0) := fun i hi => by
          rcases Nat.eq_or_lt_of_le hi with rfl | h
          · rw [getD_at (by omega)]; exact hx
          · exact HA.out i h
        rw [hx] at x1
        clear hx
        go_wp2
        go_round
        case rel => exact ⟨j, by omega, by go_num, HM⟩
        case measure => simp [intOf]
      · have HE : Hid (trimL d = d.take (j + 1)) := trim_take d (j + 1) hk HA.out (.inr (by rw [Nat.add_sub_cancel, getD_at (by omega)]; exact hx))
        have q2 : (d[j] == 0) = false := by simp [hx]
        clear hx
        go_wp2_with (at_builtin; (refine wpList_append_own _ rfl _ _ 31 rfl w.heap.size 3 i0 (.int .i64 0) 1 8 Try.underlying31 hi hz0 hz1 hz2 rfl (by decide) _ _ _ rfl (World.ownsRow_nil _ _ _ _) ⟨b1, o1, none⟩ (j + 1) _ (cellsI (d.take (j + 1))) rfl HL.out HN2.out (cellsI_one _) (by unfold maxLen; omega) (by omega) (Nat.le_refl _) ?_; intro v3 w3 hown' hgrow3 hnil3))
        go_ret
        refine ⟨_, rfl, ?_, (Below.refl _ _).grown hgrow3 (Nat.le_refl _) (fun j e => by cases e)⟩
        rw [HE.out]
        unfold OwnI
        rw [show (d.take (j + 1)).length = 0 + (j + 1) by simp; omega]
        simpa [cellsI] using hown'

set_option maxHeartbeats 1000000 in
theorem trim_nil0 (c1 : Nat) (w : World) :
    Calls Try.prog 91 #[.slice none 0 c1] w fun e w' => ∃ v', e = .returned v' ∧ OwnI w.heap.size w' v' [] ∧ Below w.heap.size w w' := by
  obtain ⟨i0, hi, hz0, hz1, hz2⟩ := info_parts infoInt
  have hcl : ∀ ty c w, (Builtin.append_ #[31, 31] ty #[.slice none 0 0, .slice none 0 c]).run Try.prog w = .ok (.slice none 0 0) w := fun ty c w => by
    simp [Builtin.append_, run_underlying Try.underlying31, sizeOf, typeInfo, hi, Builtin.lenOf, Builtin.firstCells]
  go_enter Try.func91, Try.ntmps91
  go_wp2
  go_loop [3] (fun i => i = .int .i64 0) (fun i => (intOf i).toNat)
  case atStart => rfl
  case round =>
    subst hrel
    go_wp2_with (simp only [hcl])
    go_ret
    exact ⟨_, rfl, OwnI.nil0 _ _, Below.refl _ _⟩

/-- clock.Trim. -/
theorem trim_any (v : Value) (d : List Int) (w : World) (h1 : IsI w v d) :
    Calls Try.prog 91 #[v] w fun e w' => ∃ v', e = .returned v' ∧ OwnI w.heap.size w' v' (trimL d) ∧ Below w.heap.size w w' := by
  obtain ⟨a1, c1, rfl, hc1, hl1, r1⟩ := h1
  cases a1 with
  | none =>
    obtain rfl : d = [] := by rcases r1 with h | ⟨b, o, h, _⟩; exact h; cases h
    exact trim_nil0 c1 w
  | some ad => exact trim_some ad c1 d w hc1 hl1 r1

end Go.Proofs.Ythndgmnckpimmaa
