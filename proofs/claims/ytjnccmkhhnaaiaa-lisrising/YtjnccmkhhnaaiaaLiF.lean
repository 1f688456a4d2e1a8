/- The document's Begins: how long the longest rising part is that begins at each place. -/
import Derived.Test.YtjnccmkhhnaaiaaLiB
namespace Go.Proofs.Ytjnccmkhhnaaiaa
open Go.RowKit
set_option linter.unusedVariables false

/-- The row while place i is being reckoned. -/
def midR (d : List Int) (i : Nat) (c : Int) : List Int := List.replicate i 0 ++ c :: begL (d.drop (i + 1))
theorem midR_len {d : List Int} {i : Nat} (h : i < d.length) (c : Int) : (midR d i c).length = d.length := by simp [midR, begL_length]; omega
theorem midR_at {d : List Int} {i : Nat} (c : Int) : atD (midR d i c) i = c := by
  unfold midR atD
  rw [List.getD_eq_getElem?_getD, List.getElem?_append_right (by simp)]
  simp
theorem midR_set {d : List Int} {i : Nat} (c b : Int) : (midR d i c).set i b = midR d i b := by
  unfold midR
  rw [List.set_append_right _ _ (by simp)]
  simp
theorem midR_behind {d : List Int} {i k : Nat} (hik : i < k) (c : Int) : atD (midR d i c) k = bgA d k := by
  unfold midR atD bgA
  rw [List.getD_eq_getElem?_getD, List.getD_eq_getElem?_getD, List.getElem?_append_right (by simp; omega), begL_drop]
  simp only [List.length_replicate]
  rw [show k - i = (k - (i + 1)) + 1 by omega, List.getElem?_cons_succ, List.getElem?_drop, show i + 1 + (k - (i + 1)) = k by omega]
theorem midR_start {d : List Int} {i : Nat} : (List.replicate (i + 1) 0 ++ begL (d.drop (i + 1))).set i 1 = midR d i 1 := by
  unfold midR
  rw [List.replicate_succ', List.append_assoc, List.set_append_right _ _ (by simp)]
  simp
theorem midR_done {d : List Int} {i : Nat} (h : i < d.length) {c : Int} (e : c = bst (atD d i) (d.drop (i + 1)) (begL (d.drop (i + 1))) + 1) : midR d i c = List.replicate i 0 ++ begL (d.drop i) := by
  unfold midR
  have h1 := List.drop_eq_getElem_cons h
  conv => rhs; rw [h1]
  rw [e, ← atD_eq h]
  rfl

set_option maxHeartbeats 8000000 in
theorem refBegins_any (v1 : Value) (d : List Int) (w : World) (h1 : IsI w v1 d) :
    Calls Try.prog 21 #[v1] w fun e w' => ∃ g, e = .returned (.slice (some ⟨g, 0, none⟩) d.length d.length) ∧ w.heap.size ≤ g ∧ RowF w' g (begL d) ∧ Below w.heap.size w w' := by
  obtain ⟨a1, c1, rfl, hc1, hl1, r1⟩ := h1
  have R1 : Hid (d = [] ∨ ∃ b o, a1 = some ⟨b, o, none⟩ ∧ IntsAt w b o d) := r1
  clear r1
  obtain ⟨W1, hmk, hr1, hb1⟩ := mkInts d.length hl1 w
  have HR := hide9 hr1
  have HB := hide9 hb1
  clear hr1 hb1
  have n0 : IntKind.i64.wrap ((d.length : Int) - 1) = (d.length : Int) - 1 := by rw [IntKind.wrap_i64]; omega
  go_enter Try.func21, Try.ntmps21
  go_wp2
  clear hmk
  go_loopw [4] (fun iv wr => ∃ j : Nat, j ≤ d.length ∧ iv = .int .i64 ((j : Int) - 1) ∧ Hid (RowF wr w.heap.size (List.replicate j 0 ++ begL (d.drop j))) ∧ Hid (Below w.heap.size w wr)) (fun iv _ => (intOf iv + 1).toNat)
  case atStart => exact ⟨d.length, Nat.le_refl _, rfl, by (show RowF _ _ _; have := HR.out; simpa [begL] using this), HB⟩
  case round =>
    clear HR HB
    obtain ⟨j, hj, rfl, HR, HB⟩ := hrel
    cases j with
    | zero =>
      have z1 : ¬ (0 : Int) ≤ ((0 : Nat) : Int) - 1 := by omega
      have z2 : ((0 : Nat) : Int) - 1 = -1 := by omega
      have HF : Hid (RowF wr w.heap.size (begL d)) := (by show RowF _ _ _; have := HR.out; simpa using this)
      go_wp2
      go_ret
      exact ⟨w.heap.size, rfl, Nat.le_refl _, HF.out, HB.out⟩
    | succ i =>
      have e1 : ((i + 1 : Nat) : Int) - 1 = (i : Int) := by omega
      rw [e1]
      have hin : i < d.length := by omega
      obtain ⟨b1, o1, rfl, g1⟩ := R1.out.resolve_left (by intro e; subst e; simp at hin)
      have G1 := hide9 g1
      clear g1 e1
      obtain ⟨y1, y2⟩ := HR.out.at (i := i) (by simp [begL_length]; omega)
      have i0 : (0 : Int) ≤ (i : Int) := by omega
      have i1 : (i : Int) < (d.length : Int) := by omega
      have HM0 := hide9 (HR.out.set i 1)
      rw [midR_start] at HM0
      have HB0 := hide9 (HB.out.setCell (p := ⟨w.heap.size, i, none⟩) (Nat.le_refl _) (.int .i64 1))
      have n1 : IntKind.i64.wrap ((i : Int) + 1) = (i : Int) + 1 := by rw [IntKind.wrap_i64]; omega
      go_wp2
      clear y1 y2 HR HB
      go_loopw [5] (fun kv wr => ∃ (k : Nat) (c : Int), i < k ∧ k ≤ d.length ∧ kv = .int .i64 (k : Int) ∧ 1 ≤ c ∧ Hid (max c (bst (atD d i) (d.drop k) (begL (d.drop k)) + 1) = bst (atD d i) (d.drop (i + 1)) (begL (d.drop (i + 1))) + 1) ∧ Hid (RowF wr w.heap.size (midR d i c)) ∧ Hid (Below w.heap.size w wr)) (fun kv _ => d.length - (intOf kv).toNat)
      case atStart => exact ⟨i + 1, 1, by omega, by omega, by go_num, by omega, by (show _ = _; have := bst_nonneg (atD d i) (d.drop (i + 1)) (begL (d.drop (i + 1))); omega), HM0, HB0⟩
      case round =>
        clear HM0 HB0
        obtain ⟨k, c, hik, hk, rfl, hc0, HC, HM, HB⟩ := hrel
        by_cases hlt : k < d.length
        · have hgi := (G1.out.below HB.out) i hin
          have hgk := (G1.out.below HB.out) k hlt
          rw [atD_eq hin] at hgi
          rw [atD_eq hlt] at hgk
          have k0 : (0 : Int) ≤ (k : Int) := by omega
          have k1 : (k : Int) < (d.length : Int) := by omega
          have HBs := hide9 (bst_drop (x := atD d i) hlt)
          obtain ⟨b, eb⟩ : ∃ b, b = bgA d k := ⟨_, rfl⟩
          have hb0 := bgA_pos hlt
          have hb1 := bgA_le hlt
          rw [← eb] at hb0 hb1
          obtain ⟨x, ex⟩ : ∃ x, x = atD d i := ⟨_, rfl⟩
          obtain ⟨y, ey⟩ : ∃ y, y = atD d k := ⟨_, rfl⟩
          rw [← ex] at hgi HC HBs
          rw [← ey] at hgk HBs
          rw [← eb] at HBs
          rw [HBs.out] at HC
          clear HBs
          have HEb := hide9 eb
          clear eb
          have n9 : IntKind.i64.wrap (b + 1) = b + 1 := by rw [IntKind.wrap_i64]; omega
          by_cases hx : x < y
          · have HC2 : Hid (max (max c (b + 1)) (bst (atD d i) (d.drop (k + 1)) (begL (d.drop (k + 1))) + 1) = bst (atD d i) (d.drop (i + 1)) (begL (d.drop (i + 1))) + 1) := (by show _ = _; have := HC.out; rw [if_pos hx] at this; rw [← ex]; omega)
            clear HC ex ey
            go_upto_region 9 with fail
            go_quiet (fail)
            go_upto_region 10 with fail
            clear hgi hgk
            obtain ⟨Wq, eW⟩ : ∃ X, X = wr.drewN nq := ⟨_, rfl⟩
            have hbq : Below wr.heap.size wr Wq := (by rw [eW]; exact below_drewN (Below.refl _ _) _)
            replace HM := hide9 (HM.out.below hbq)
            have HB2 := hide9 (HB.out.trans (hbq.mono HB.out.size))
            clear HB hbq
            (try rw [← eW])
            clear eW
            refine wp_region_held_drew (S := fun W' => Below w.heap.size w W') (by kernel_rfl) HB2.out.drew (fun hHeld => ?_)
            obtain ⟨Ub1u0, eW⟩ : ∃ X, X = Wq.drew := ⟨_, rfl⟩
            have hb : Below Wq.heap.size Wq Ub1u0 := by rw [eW]; exact (Below.refl _ _).drew
            replace HM : Hid (RowF Ub1u0 w.heap.size (midR d i c)) := HM.out.below hb
            replace HB2 : Hid (Below w.heap.size w Ub1u0) := HB2.out.trans (hb.mono HB2.out.size)
            rw [← eW] at hHeld ⊢
            clear eW hb
            refine tkW 0 (some 36) (v := ?_) ?_ hHeld ?_
            rotate_left
            · (intro ww _; go_simp; try with_reducible rfl)
            refine tkW 1 (some 37) (v := ?_) ?_ hHeld ?_
            rotate_left
            · (intro ww _; go_simp; try with_reducible rfl)
            refine tkW 2 (some 38) (v := ?_) ?_ hHeld ?_
            rotate_left
            · (intro ww _; go_simp; try with_reducible rfl)
            refine tkW 3 (some 39) (v := ?_) ?_ hHeld ?_
            rotate_left
            · (intro ww _; go_simp; try with_reducible rfl)
            refine tkW 4 (some 40) (v := ?_) ?_ hHeld ?_
            rotate_left
            · (intro ww hSw; (try dsimp only at hSw); go_simp; try with_reducible rfl)
            refine tkW 6 (some 42) (v := ?_) ?_ hHeld ?_
            rotate_left
            · (intro ww _; go_simp; try with_reducible rfl)
            refine tkW 7 (some 43) (v := ?_) ?_ hHeld ?_
            rotate_left
            · (intro ww _; go_simp; try with_reducible rfl)
            refine tkW 8 (some 44) (v := ?_) ?_ hHeld ?_
            rotate_left
            · (intro ww hSw; (try dsimp only at hSw); go_simp; try with_reducible rfl)
            refine wpAnyH_ready (rs := [5, 9]) (by kernel_rfl) (by simp) ?_
            refine AllReadyH.cons (o := ⟨some 41, _, _, _, _, _⟩) rfl (fun K hK => ?_) (AllReadyH.cons (o := ⟨some 45, _, _, _, _, _⟩) rfl (fun K hK => ?_) AllReadyH.nil)
            · have c9 := HM.out.cell (i := i) (by rw [midR_len hin]; omega)
              rw [midR_at] at c9
              go_simp
              refine hK.out _ _ (hHeld) (fun hHeld2 => ?_)
              clear hK K hHeld
              have hHeld := hHeld2
              clear hHeld2
              (try simp only [Act.put, List.setIfInBounds_toArray, List.set_cons_zero, List.set_cons_succ])
              clear c9
              refine wpAnyH_ready (rs := [9]) (by kernel_rfl) (by simp) ?_
              refine AllReadyH.cons (o := ⟨some 45, _, _, _, _, _⟩) rfl (fun K hK => ?_) AllReadyH.nil
              have c9 := HM.out.cell (i := k) (by rw [midR_len hin]; omega)
              rw [midR_behind (by omega), ← HEb.out] at c9
              go_simp
              refine hK.out _ _ (hHeld) (fun hHeld2 => ?_)
              clear hK K hHeld
              have hHeld := hHeld2
              clear hHeld2
              (try simp only [Act.put, List.setIfInBounds_toArray, List.set_cons_zero, List.set_cons_succ])
              clear c9
              refine tkW 10 (some 46) (v := ?_) ?_ hHeld ?_
              rotate_left
              · (intro ww hSw; (try dsimp only at hSw); go_simp; try with_reducible rfl)
              refine tkW 11 (some 47) (v := ?_) ?_ hHeld ?_
              rotate_left
              · (intro ww hSw; (try dsimp only at hSw); go_simp; try with_reducible rfl)
              refine tkW 12 (some 48) (v := ?_) ?_ hHeld ?_
              rotate_left
              · (intro ww hSw; (try dsimp only at hSw); go_simp; try with_reducible rfl)
              refine wpAnyH_ready (rs := [13]) (by kernel_rfl) (by simp) ?_
              refine AllReadyH.cons (o := ⟨none, _, _, _, _, _⟩) rfl (fun K hK => ?_) AllReadyH.nil
              obtain ⟨hcl, hfz⟩ := HM.out.at (i := i) (by rw [midR_len hin]; exact hin)
              go_simp
              refine hK.out _ _ (hHeld.setCell (p := ⟨w.heap.size, i, none⟩) (Nat.le_refl _) _) (fun hHeld2 => ?_)
              clear hK K hHeld
              have hHeld := hHeld2
              clear hHeld2
              (try simp only [Act.put, List.setIfInBounds_toArray, List.set_cons_zero, List.set_cons_succ])
              have HM2 := hide9 (HM.out.set i (max c (b + 1)))
              rw [midR_set] at HM2
              have HB3 := hide9 (HB2.out.setCell (p := ⟨w.heap.size, i, none⟩) (Nat.le_refl _) (.int .i64 (max c (b + 1))))
              obtain ⟨X9, eX⟩ : ∃ X, X = Ub1u0.setCell ⟨w.heap.size, i, none⟩ (.int .i64 (max c (b + 1))) := ⟨_, rfl⟩
              rw [← eX] at HM2 HB3 ⊢
              clear eX hcl hfz HM HB2
              refine wpAnyH_done (by kernel_rfl) ?_ _
              clear hHeld
              go_wp2
              go_roundw
              case rel => exact ⟨k + 1, max c (b + 1), by omega, by omega, by go_num, by omega, HC2, HM2, HB3⟩
              case measure => simp [intOf]; omega
            · have c9 := HM.out.cell (i := k) (by rw [midR_len hin]; omega)
              rw [midR_behind (by omega), ← HEb.out] at c9
              go_simp
              refine hK.out _ _ (hHeld) (fun hHeld2 => ?_)
              clear hK K hHeld
              have hHeld := hHeld2
              clear hHeld2
              (try simp only [Act.put, List.setIfInBounds_toArray, List.set_cons_zero, List.set_cons_succ])
              clear c9
              refine tkW 10 (some 46) (v := ?_) ?_ hHeld ?_
              rotate_left
              · (intro ww hSw; (try dsimp only at hSw); go_simp; try with_reducible rfl)
              refine wpAnyH_ready (rs := [5]) (by kernel_rfl) (by simp) ?_
              refine AllReadyH.cons (o := ⟨some 41, _, _, _, _, _⟩) rfl (fun K hK => ?_) AllReadyH.nil
              have c9 := HM.out.cell (i := i) (by rw [midR_len hin]; omega)
              rw [midR_at] at c9
              go_simp
              refine hK.out _ _ (hHeld) (fun hHeld2 => ?_)
              clear hK K hHeld
              have hHeld := hHeld2
              clear hHeld2
              (try simp only [Act.put, List.setIfInBounds_toArray, List.set_cons_zero, List.set_cons_succ])
              clear c9
              refine tkW 11 (some 47) (v := ?_) ?_ hHeld ?_
              rotate_left
              · (intro ww hSw; (try dsimp only at hSw); go_simp; try with_reducible rfl)
              refine tkW 12 (some 48) (v := ?_) ?_ hHeld ?_
              rotate_left
              · (intro ww hSw; (try dsimp only at hSw); go_simp; try with_reducible rfl)
              refine wpAnyH_ready (rs := [13]) (by kernel_rfl) (by simp) ?_
              refine AllReadyH.cons (o := ⟨none, _, _, _, _, _⟩) rfl (fun K hK => ?_) AllReadyH.nil
              obtain ⟨hcl, hfz⟩ := HM.out.at (i := i) (by rw [midR_len hin]; exact hin)
              go_simp
              refine hK.out _ _ (hHeld.setCell (p := ⟨w.heap.size, i, none⟩) (Nat.le_refl _) _) (fun hHeld2 => ?_)
              clear hK K hHeld
              have hHeld := hHeld2
              clear hHeld2
              (try simp only [Act.put, List.setIfInBounds_toArray, List.set_cons_zero, List.set_cons_succ])
              have HM2 := hide9 (HM.out.set i (max c (b + 1)))
              rw [midR_set] at HM2
              have HB3 := hide9 (HB2.out.setCell (p := ⟨w.heap.size, i, none⟩) (Nat.le_refl _) (.int .i64 (max c (b + 1))))
              obtain ⟨X9, eX⟩ : ∃ X, X = Ub1u0.setCell ⟨w.heap.size, i, none⟩ (.int .i64 (max c (b + 1))) := ⟨_, rfl⟩
              rw [← eX] at HM2 HB3 ⊢
              clear eX hcl hfz HM HB2
              refine wpAnyH_done (by kernel_rfl) ?_ _
              clear hHeld
              go_wp2
              go_roundw
              case rel => exact ⟨k + 1, max c (b + 1), by omega, by omega, by go_num, by omega, HC2, HM2, HB3⟩
              case measure => simp [intOf]; omega
          · have HC2 : Hid (max c (bst (atD d i) (d.drop (k + 1)) (begL (d.drop (k + 1))) + 1) = bst (atD d i) (d.drop (i + 1)) (begL (d.drop (i + 1))) + 1) := (by show _ = _; have := HC.out; rw [if_neg hx] at this; rw [← ex]; exact this)
            clear HC ex ey
            go_wp2
            go_quiet (fail)
            go_wp2
            go_roundw
            case rel => exact ⟨k + 1, c, by omega, by omega, by go_num, hc0, HC2, HM.out.below (below_drewN (Below.refl _ _) _), below_drewN HB.out _⟩
            case measure => simp [intOf]; omega
        · have HE : Hid (RowF wr w.heap.size (List.replicate i 0 ++ begL (d.drop i))) := (by
            have h1 := HC.out
            rw [bst_end (by omega)] at h1
            have h2 := HM.out
            rw [midR_done hin (by omega)] at h2
            exact h2)
          have k9 : ¬ (k : Int) < (d.length : Int) := by omega
          have m1 : IntKind.i64.wrap ((i : Int) - 1) = (i : Int) - 1 := by rw [IntKind.wrap_i64]; omega
          go_wp2
          go_roundw
          case rel => exact ⟨i, by omega, by go_num, HE, HB⟩
          case measure => simp [intOf]

end Go.Proofs.Ytjnccmkhhnaaiaa
