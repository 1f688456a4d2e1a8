/- Others: the program's. -/
import Derived.Test.YthhnglpkfcmjiaaKLiD
namespace Go.Proofs.Ythhnglpkfcmjiaa
open Go.RowKit
set_option linter.unusedVariables false
set_option maxRecDepth 100000 in
set_option maxHeartbeats 2000000 in
/-- lis.Others. -/
theorem others_any (v : Value) (d : List Int) (w : World) (h1 : IsI w v d) :
    Calls Try.prog 58 #[v] w fun e w' => ∃ v', e = .returned v' ∧ OwnI w.heap.size w' v' (othL d) ∧ Below w.heap.size w w' := by
  obtain ⟨i0, hi, hz0, hz1, hz2⟩ := info_parts infoInt
  have H1 := hide9 h1
  obtain ⟨a1, c1, rfl, hc1, hl1, r1⟩ := h1
  clear r1
  go_enter Try.func58, Try.ntmps58
  go_wp2_with fail
  refine (rising_any _ d _ H1.out).mono ?_
  rintro e w1 ⟨v1, rfl, hr, hb⟩
  have HR : Hid (IsI w1 v1 (risL d)) := hr.isI (by have := ris_len d; omega)
  have HB := hide9 hb
  clear hr hb
  go_wp2
  go_loopw [3, 4, 10] (fun pv out iv wr => ∃ (i : Nat) (P D : List Int), i ≤ d.length ∧ iv = .int .i64 (i : Int) ∧ D.length ≤ i ∧ Hid (D ++ oth P (d.length - i) i = othL d) ∧ Hid (IsI w1 pv P) ∧ Hid (OwnI w1.heap.size wr out D) ∧ Hid (Below w1.heap.size w1 wr)) (fun _ _ iv _ => d.length - (intOf iv).toNat)
  case atStart => exact ⟨0, risL d, [], Nat.zero_le _, rfl, Nat.le_refl _, by (show _ = _; rfl), HR, OwnI.nil0 _ _, Below.refl _ _⟩
  case round =>
    clear HR
    obtain ⟨i, P, D, hk, rfl, hDi, HD, HP, HO, HBr⟩ := hrel
    have hsz := HBr.out.size
    obtain ⟨ao, co, e0⟩ := HO.out.form
    subst e0
    by_cases hlt : i < d.length
    · have k1 : (i : Int) < (d.length : Int) := by omega
      have k0 : (0 : Int) ≤ (i : Int) := by omega
      have hf : d.length - i = (d.length - (i + 1)) + 1 := by omega
      have HF := hide9 hf
      clear hf
      obtain ⟨ap, cp, rfl, hcp, hlp, rp⟩ := HP.out
      cases P with
      | nil =>
        have HD2 : Hid ((D ++ [(i : Int)]) ++ oth [] (d.length - (i + 1)) (i + 1) = othL d) := by show _ = _; have := HD.out; rw [HF.out, oth_no (fun p e => by cases e)] at this; simpa using this
        clear rp
        go_wp2_with (at_builtin; refine wpList_append_own _ rfl _ _ 78 rfl w1.heap.size 3 i0 (.int .i64 0) 1 8 Try.underlying78 hi hz0 hz1 hz2 rfl (by decide) _ _ _ rfl (World.ownsRow.alloc HO.out _) ⟨wr.heap.size, 0, none⟩ 1 1 [.int .i64 (i : Int)] rfl rfl (cell_one_new _ _ _) (fun x hx => by simp at hx; subst hx; rfl) (by unfold maxLen; omega) (by omega) (by simp; omega) ?_; intro v' w3 hown' hgrow3 hnil3)
        go_roundw
        case rel => exact ⟨i + 1, [], D ++ [(i : Int)], by omega, by go_num, by simp; omega, HD2, HP, OwnI.snoc hown', (HBr.out.alloc (by omega) _).grown hgrow3 (by simp; omega) (fun j e => HO.out.block j e)⟩
        case measure => simp [intOf]; omega
      | cons p t =>
        obtain ⟨b, o, rfl, g1⟩ := rp.resolve_left (by simp)
        have hl1p : t.length + 1 ≤ cp := hcp
        have x1 : wr.cell? ⟨b, o, none⟩ = some (.int .i64 p) := (g1.below HBr.out) 0 (by simp)
        have HT : Hid (IsI w1 (.slice (if cp = 1 then some ⟨b, o, none⟩ else some ⟨b, o + 1, none⟩) t.length (cp - 1)) t) := (by
          refine ⟨_, cp - 1, rfl, by omega, by simp at hlp; omega, ?_⟩
          by_cases hc : cp = 1
          · exact .inl (List.eq_nil_of_length_eq_zero (by omega))
          · rw [if_neg hc]
            exact .inr ⟨b, o + 1, rfl, fun j hj => by have := g1 (j + 1) (by simpa using hj); simpa [Nat.add_assoc, Nat.add_comm 1 j] using this⟩)
        clear g1 rp
        have z1 : (0 : Int) < ((t.length : Int) + 1) := by omega
        by_cases hx : p = (i : Int)
        · subst hx
          have HD2 : Hid (D ++ oth t (d.length - (i + 1)) (i + 1) = othL d) := by show _ = _; have := HD.out; rw [HF.out, oth_yes] at this; exact this
          go_wp2
          go_roundw
          case rel => exact ⟨i + 1, t, D, by omega, by go_num, by omega, HD2, HT, HO, HBr⟩
          case measure => simp [intOf]; omega
        · have HD2 : Hid ((D ++ [(i : Int)]) ++ oth (p :: t) (d.length - (i + 1)) (i + 1) = othL d) := by show _ = _; have := HD.out; rw [HF.out, oth_no (fun q e => by cases e; exact hx)] at this; simpa using this
          have q2 : (p == (i : Int)) = false := by simp [hx]
          clear hx
          go_wp2_with (at_builtin; refine wpList_append_own _ rfl _ _ 78 rfl w1.heap.size 3 i0 (.int .i64 0) 1 8 Try.underlying78 hi hz0 hz1 hz2 rfl (by decide) _ _ _ rfl (World.ownsRow.alloc HO.out _) ⟨wr.heap.size, 0, none⟩ 1 1 [.int .i64 (i : Int)] rfl rfl (cell_one_new _ _ _) (fun x hx => by simp at hx; subst hx; rfl) (by unfold maxLen; omega) (by omega) (by simp; omega) ?_; intro v' w3 hown' hgrow3 hnil3)
          go_roundw
          case rel => exact ⟨i + 1, p :: t, D ++ [(i : Int)], by omega, by go_num, by simp; omega, HD2, HP, OwnI.snoc hown', (HBr.out.alloc (by omega) _).grown hgrow3 (by simp; omega) (fun j e => HO.out.block j e)⟩
          case measure => simp [intOf]; omega
    · have HE : Hid (D = othL d) := by show _ = _; have := HD.out; rw [show d.length - i = 0 by omega] at this; cases P <;> simpa [oth] using this
      have hs := HB.out.size
      go_wp2
      go_ret
      exact ⟨_, rfl, by rw [← HE.out]; exact ⟨HO.out.1, HO.out.2.imp id fun ⟨g2, c2, cur, hv, hg2, rest⟩ => ⟨g2, c2, cur, hv, by omega, rest⟩⟩, HB.out.trans (HBr.out.mono hs)⟩
end Go.Proofs.Ythhnglpkfcmjiaa
