/- What the document's Trim does, at any list. -/
import Derived.Test.YthndgmnckpimmaaCkT
namespace Go.Proofs.Ythndgmnckpimmaa
open Go.RowKit
set_option linter.unusedVariables false

theorem zeros_more {D l : List Int} {z : Nat} (h : D ++ List.replicate z 0 = l) : D ++ List.replicate (z + 1) 0 = l ++ [0] := by
  rw [List.replicate_succ', ← List.append_assoc, h]
theorem zeros_less {D l : List Int} {z : Nat} (h : D ++ List.replicate (z + 1) 0 = l) : (D ++ [0]) ++ List.replicate z 0 = l := by
  rw [← h, List.replicate_succ]; simp
theorem zeros_len {D l : List Int} {z : Nat} (h : D ++ List.replicate z 0 = l) : D.length + z = l.length := by rw [← h]; simp

set_option maxHeartbeats 2000000 in
/-- The document's Trim. -/
theorem refTrim_any (v : Value) (d : List Int) (w : World) (h1 : IsI w v d) :
    Calls Try.prog 45 #[v] w fun e w' => ∃ v', e = .returned v' ∧ OwnI w.heap.size w' v' (trimL d) ∧ Below w.heap.size w w' := by
  obtain ⟨i0, hi, hz0, hz1, hz2⟩ := info_parts infoInt
  obtain ⟨a1, c1, rfl, hc1, hl1, r1⟩ := h1
  have HR : Hid (d = [] ∨ ∃ b o, a1 = some ⟨b, o, none⟩ ∧ IntsAt w b o d) := r1
  clear r1
  have HO0 : Hid (OwnI w.heap.size (w.alloc (.cells #[] 3)) (.slice (some ⟨w.heap.size, 0, none⟩) 0 0) []) := OwnI.empty w _ (Nat.le_refl _)
  have HB0 : Hid (Below w.heap.size w (w.alloc (.cells #[] 3))) := (Below.refl _ _).alloc (Nat.le_refl _) _
  go_enter Try.func45, Try.ntmps45
  go_wp2
  go_loopw [3, 4, 5] (fun out zs i wr => ∃ (k z : Nat) (D : List Int), k ≤ d.length ∧ i = .int .i64 (k : Int) ∧ zs = .int .i64 (z : Int) ∧ Hid (trimL (d.take k) = D) ∧ Hid (D ++ List.replicate z 0 = d.take k) ∧ Hid (OwnI w.heap.size wr out D) ∧ Hid (Below w.heap.size w wr)) (fun _ _ i _ => d.length - (intOf i).toNat)
  case atStart => exact ⟨0, 0, [], Nat.zero_le _, rfl, rfl, by show _ = _; simp [trimL], by show _ = _; simp, HO0, HB0⟩
  case round =>
    obtain ⟨k, z, D, hk, rfl, rfl, HT, HZ, HO, HB⟩ := hrel
    have hzl : D.length + z = k := by have := zeros_len HZ.out; rw [List.length_take] at this; omega
    have hsz := HB.out.size
    by_cases hlt : k < d.length
    · obtain ⟨b1, o1, rfl, g1⟩ := HR.out.resolve_left (by intro e; subst e; simp at hlt)
      have x1 := (g1.below HB.out) k hlt
      have HG : Hid (IntsAt w b1 o1 d) := g1
      clear g1
      have k1 : (k : Int) < (d.length : Int) := by omega
      have k0 : (0 : Int) ≤ (k : Int) := by omega
      have HTS : Hid (d.take (k + 1) = d.take k ++ [d[k]]) := List.take_succ_eq_append_getElem hlt
      obtain ⟨ao, co, e0⟩ := HO.out.form
      subst e0
      by_cases hx : d[k] = 0
      · have HM1 : Hid (trimL (d.take (k + 1)) = D) := by show _ = _; rw [HTS.out, hx, trim_zero]; exact HT.out
        have HM2 : Hid (D ++ List.replicate (z + 1) 0 = d.take (k + 1)) := by show _ = _; rw [HTS.out, hx]; exact zeros_more HZ.out
        rw [hx] at x1
        clear hx
        go_wp2
        go_roundw
        case rel => exact ⟨k + 1, z + 1, D, by omega, by go_num, by go_num, HM1, HM2, HO, HB⟩
        case measure => simp [intOf]; omega
      · have q2 : (d[k] == 0) = false := by simp [hx]
        have HM1 : Hid (trimL (d.take (k + 1)) = d.take (k + 1)) := by show _ = _; rw [HTS.out]; exact trim_keep _ _ hx
        clear hx
        go_wp2
        go_loopw [3, 4] (fun out zs wq => ∃ (y : Nat) (E : List Int), E.length + y = k ∧ zs = .int .i64 (y : Int) ∧ Hid (E ++ List.replicate y 0 = d.take k) ∧ Hid (OwnI w.heap.size wq out E) ∧ Hid (Below w.heap.size w wq)) (fun _ zs _ => (intOf zs).toNat)
        case atStart => exact ⟨z, D, hzl, rfl, HZ, HO, HB⟩
        case round =>
          obtain ⟨y, E, hy, rfl, HE, HP, HC⟩ := hrel
          have hsq := HC.out.size
          obtain ⟨ap, cp, e0⟩ := HP.out.form
          subst e0
          cases y with
          | zero =>
            have HEk : Hid (E = d.take k) := by show _ = _; have := HE.out; simpa using this
            have x2 := (HG.out.below HC.out) k hlt
            clear x1
            go_wp2_with (at_builtin; refine wpList_append_own _ rfl _ _ 31 rfl w.heap.size 3 i0 (.int .i64 0) 1 8 Try.underlying31 hi hz0 hz1 hz2 rfl (by decide) _ _ _ rfl (World.ownsRow.alloc HP.out _) ⟨wr.heap.size, 0, none⟩ 1 1 [.int .i64 d[k]] rfl rfl (cell_one_new _ _ _) (fun x hx => by simp at hx; subst hx; rfl) (by unfold maxLen; omega) (by omega) (by simp; omega) ?_; intro v' w3 hown' hgrow3 hnil3)
            go_roundw
            case rel =>
              have h5 : OwnI w.heap.size _ _ (E ++ [d[k]]) := OwnI.snoc hown'
              have e5 : E ++ [d[k]] = d.take (k + 1) := by rw [HTS.out, HEk.out]
              rw [e5] at h5
              exact ⟨k + 1, 0, d.take (k + 1), by omega, by go_num, by go_num, HM1, by show _ = _; simp, h5, (HC.out.alloc (by omega) _).grown hgrow3 (by simp; omega) (fun j e => HP.out.block j e)⟩
            case measure => simp [intOf]; omega
          | succ y =>
            clear x1
            go_wp2_with (at_builtin; refine wpList_append_own _ rfl _ _ 31 rfl w.heap.size 3 i0 (.int .i64 0) 1 8 Try.underlying31 hi hz0 hz1 hz2 rfl (by decide) _ _ _ rfl (World.ownsRow.alloc HP.out _) ⟨wr.heap.size, 0, none⟩ 1 1 [.int .i64 0] rfl rfl (cell_one_new _ _ _) (fun x hx => by simp at hx; subst hx; rfl) (by unfold maxLen; omega) (by omega) (by simp; omega) ?_; intro v' w3 hown' hgrow3 hnil3)
            go_roundw
            case rel =>
              have h5 : OwnI w.heap.size _ _ (E ++ [0]) := OwnI.snoc hown'
              exact ⟨y, E ++ [0], by simp; omega, by go_num, zeros_less HE.out, h5, (HC.out.alloc (by omega) _).grown hgrow3 (by simp; omega) (fun j e => HP.out.block j e)⟩
            case measure => simp [intOf]
    · have HE : Hid (trimL d = D) := by
        have h := HT.out
        rw [List.take_of_length_le (by omega)] at h
        exact h
      go_wp2
      go_ret
      exact ⟨_, rfl, by rw [HE.out]; exact HO.out, HB.out⟩

end Go.Proofs.Ythndgmnckpimmaa
