/- The walk of LisBoth. -/
import Derived.Test.YthhnglpkfcmjiaaKLiE
import Derived.Test.YthhnglpkfcmjiaaKLiD
import Derived.Test.YthhnglpkfcmjiaaKLiR
import Derived.Test.YthhnglpkfcmjiaaKRowI
import Derived.Test.YthhnglpkfcmjiaaKLiB
namespace Go.Proofs.Ythhnglpkfcmjiaa
open Go.RowKit
set_option linter.unusedVariables false
set_option maxRecDepth 100000 in
theorem pick_mem (d : List Int) : ∀ (f i : Nat) (left : Int) (p : Int), p ∈ pick d f i left → (i : Int) ≤ p
  | 0, _, _, p, h => by simp [pick] at h
  | f + 1, i, left, p, h => by
    simp only [pick] at h
    split at h
    · rcases List.mem_cons.1 h with rfl | h
      · exact Int.le_refl _
      · have := pick_mem d f (i + 1) (left - 1) p h; omega
    · have := pick_mem d f (i + 1) left p h; omega
set_option maxRecDepth 100000 in
theorem rst_mem {d : List Int} {i : Nat} {left p : Int} (h : p ∈ rstL d i left) : (i : Int) ≤ p := pick_mem d _ _ _ _ h
end Go.Proofs.Ythhnglpkfcmjiaa

namespace Go.Proofs.Ythhnglpkfcmjiaa
open Go.RowKit
set_option linter.unusedVariables false
/-- The row while place i is being reckoned. -/
def midR (d : List Int) (i : Nat) (c : Int) : List Int := List.replicate i 0 ++ c :: begL (d.drop (i + 1))
set_option maxRecDepth 100000 in
theorem midR_len {d : List Int} {i : Nat} (h : i < d.length) (c : Int) : (midR d i c).length = d.length := by simp [midR, begL_length]; omega
set_option maxRecDepth 100000 in
theorem midR_at {d : List Int} {i : Nat} (c : Int) : atD (midR d i c) i = c := by
  unfold midR atD
  rw [List.getD_eq_getElem?_getD, List.getElem?_append_right (by simp)]
  simp
set_option maxRecDepth 100000 in
theorem midR_set {d : List Int} {i : Nat} (c b : Int) : (midR d i c).set i b = midR d i b := by
  unfold midR
  rw [List.set_append_right _ _ (by simp)]
  simp
set_option maxRecDepth 100000 in
theorem midR_behind {d : List Int} {i k : Nat} (hik : i < k) (c : Int) : atD (midR d i c) k = bgA d k := by
  unfold midR atD bgA
  rw [List.getD_eq_getElem?_getD, List.getD_eq_getElem?_getD, List.getElem?_append_right (by simp; omega), begL_drop]
  simp only [List.length_replicate]
  rw [show k - i = (k - (i + 1)) + 1 by omega, List.getElem?_cons_succ, List.getElem?_drop, show i + 1 + (k - (i + 1)) = k by omega]
set_option maxRecDepth 100000 in
theorem midR_start {d : List Int} {i : Nat} : (List.replicate (i + 1) 0 ++ begL (d.drop (i + 1))).set i 1 = midR d i 1 := by
  unfold midR
  rw [List.replicate_succ', List.append_assoc, List.set_append_right _ _ (by simp)]
  simp
set_option maxRecDepth 100000 in
theorem midR_done {d : List Int} {i : Nat} (h : i < d.length) {c : Int} (e : c = bst (atD d i) (d.drop (i + 1)) (begL (d.drop (i + 1))) + 1) : midR d i c = List.replicate i 0 ++ begL (d.drop i) := by
  unfold midR
  have h1 := List.drop_eq_getElem_cons h
  conv => rhs; rw [h1]
  rw [e, ← atD_eq h]
  rfl
set_option maxRecDepth 100000 in
set_option maxHeartbeats 8000000 in
theorem refBegins_any (v1 : Value) (d : List Int) (w : World) (h1 : IsI w v1 d) :
    Calls Try.prog 86 #[v1] w fun e w' => ∃ g, e = .returned (.slice (some ⟨g, 0, none⟩) d.length d.length) ∧ w.heap.size ≤ g ∧ RowF w' g (begL d) ∧ Below w.heap.size w w' := by
  obtain ⟨a1, c1, rfl, hc1, hl1, r1⟩ := h1
  have R1 : Hid (d = [] ∨ ∃ b o, a1 = some ⟨b, o, none⟩ ∧ IntsAt w b o d) := r1
  clear r1
  obtain ⟨W1, hmk, hr1, hb1⟩ := mkInts d.length hl1 w
  have HR := hide9 hr1
  have HB := hide9 hb1
  clear hr1 hb1
  have n0 : IntKind.i64.wrap ((d.length : Int) - 1) = (d.length : Int) - 1 := by rw [IntKind.wrap_i64]; omega
  go_enter Try.func86, Try.ntmps86
  go_wp2
  clear hmk
  go_loopw [4] (fun iv wr => ∃ j : Nat, j ≤ d.length ∧ iv = .int .i64 ((j : Int) - 1) ∧ Hid (RowF wr w.heap.size (List.replicate j 0 ++ begL (d.drop j))) ∧ Hid (Below w.heap.size w wr)) (fun iv _ => (intOf iv + 1).toNat)
  case atStart => exact ⟨d.length, Nat.le_refl _, rfl, by (show RowF _ _ _; have := HR.out; simpa [begL] using this), HB⟩
  case round =>
    clear HR HB
    obtain ⟨j, hj, rfl, HR, HB⟩ := hrel
    cases j with
    | zero =>
      have z1 : ¬ (0 : Int) ≤ ((0 : Nat) : Int) - 1 := by omega
      have z2 : ((0 : Nat) : Int) - 1 = -1 := by omega
      have HF : Hid (RowF wr w.heap.size (begL d)) := (by show RowF _ _ _; have := HR.out; simpa using this)
      go_wp2
      go_ret
      exact ⟨w.heap.size, rfl, Nat.le_refl _, HF.out, HB.out⟩
    | succ i =>
      have e1 : ((i + 1 : Nat) : Int) - 1 = (i : Int) := by omega
      rw [e1]
      have hin : i < d.length := by omega
      obtain ⟨b1, o1, rfl, g1⟩ := R1.out.resolve_left (by intro e; subst e; simp at hin)
      have G1 := hide9 g1
      clear g1 e1
      obtain ⟨y1, y2⟩ := HR.out.at (i := i) (by simp [begL_length]; omega)
      have i0 : (0 : Int) ≤ (i : Int) := by omega
      have i1 : (i : Int) < (d.length : Int) := by omega
      have HM0 := hide9 (HR.out.set i 1)
      rw [midR_start] at HM0
      have HB0 := hide9 (HB.out.setCell (p := ⟨w.heap.size, i, none⟩) (Nat.le_refl _) (.int .i64 1))
      have n1 : IntKind.i64.wrap ((i : Int) + 1) = (i : Int) + 1 := by rw [IntKind.wrap_i64]; omega
      go_wp2
      clear y1 y2 HR HB
      go_loopw [5] (fun kv wr => ∃ (k : Nat) (c : Int), i < k ∧ k ≤ d.length ∧ kv = .int .i64 (k : Int) ∧ 1 ≤ c ∧ Hid (max c (bst (atD d i) (d.drop k) (begL (d.drop k)) + 1) = bst (atD d i) (d.drop (i + 1)) (begL (d.drop (i + 1))) + 1) ∧ Hid (RowF wr w.heap.size (midR d i c)) ∧ Hid (Below w.heap.size w wr)) (fun kv _ => d.length - (intOf kv).toNat)
      case atStart => exact ⟨i + 1, 1, by omega, by omega, by go_num, by omega, by (show _ = _; have := bst_nonneg (atD d i) (d.drop (i + 1)) (begL (d.drop (i + 1))); omega), HM0, HB0⟩
      case round =>
        clear HM0 HB0
        obtain ⟨k, c, hik, hk, rfl, hc0, HC, HM, HB⟩ := hrel
        by_cases hlt : k < d.length
        · have hgi := (G1.out.below HB.out) i hin
          have hgk := (G1.out.below HB.out) k hlt
          rw [atD_eq hin] at hgi
          rw [atD_eq hlt] at hgk
          have k0 : (0 : Int) ≤ (k : Int) := by omega
          have k1 : (k : Int) < (d.length : Int) := by omega
          have HBs := hide9 (bst_drop (x := atD d i) hlt)
          obtain ⟨b, eb⟩ : ∃ b, b = bgA d k := ⟨_, rfl⟩
          have hb0 := bgA_pos hlt
          have hb1 := bgA_le hlt
          rw [← eb] at hb0 hb1
          obtain ⟨x, ex⟩ : ∃ x, x = atD d i := ⟨_, rfl⟩
          obtain ⟨y, ey⟩ : ∃ y, y = atD d k := ⟨_, rfl⟩
          rw [← ex] at hgi HC HBs
          rw [← ey] at hgk HBs
          rw [← eb] at HBs
          rw [HBs.out] at HC
          clear HBs
          have HEb := hide9 eb
          clear eb
          have n9 : IntKind.i64.wrap (b + 1) = b + 1 := by rw [IntKind.wrap_i64]; omega
          by_cases hx : x < y
          · have HC2 : Hid (max (max c (b + 1)) (bst (atD d i) (d.drop (k + 1)) (begL (d.drop (k + 1))) + 1) = bst (atD d i) (d.drop (i + 1)) (begL (d.drop (i + 1))) + 1) := (by show _ = _; have := HC.out; rw [if_pos hx] at this; rw [← ex]; omega)
            clear HC ex ey
            go_upto_region 9 with fail
            go_quiet (fail)
            go_upto_region 10 with fail
            clear hgi hgk
            obtain ⟨Wq, eW⟩ : ∃ X, X = wr.drewN nq := ⟨_, rfl⟩
            have hbq : Below wr.heap.size wr Wq := (by rw [eW]; exact below_drewN (Below.refl _ _) _)
            replace HM := hide9 (HM.out.below hbq)
            have HB2 := hide9 (HB.out.trans (hbq.mono HB.out.size))
            clear HB hbq
            (try rw [← eW])
            clear eW
            refine wp_region_held_drew (S := fun W' => Below w.heap.size w W') (by kernel_rfl) HB2.out.drew (fun hHeld => ?_)
            obtain ⟨Ub1u0, eW⟩ : ∃ X, X = Wq.drew := ⟨_, rfl⟩
            have hb : Below Wq.heap.size Wq Ub1u0 := by rw [eW]; exact (Below.refl _ _).drew
            replace HM : Hid (RowF Ub1u0 w.heap.size (midR d i c)) := HM.out.below hb
            replace HB2 : Hid (Below w.heap.size w Ub1u0) := HB2.out.trans (hb.mono HB2.out.size)
            rw [← eW] at hHeld ⊢
            clear eW hb
            refine tkW 0 (some 36) (v := ?_) ?_ hHeld ?_
            rotate_left
            · (intro ww _; go_simp; try with_reducible rfl)
            refine tkW 1 (some 37) (v := ?_) ?_ hHeld ?_
            rotate_left
            · (intro ww _; go_simp; try with_reducible rfl)
            refine tkW 2 (some 38) (v := ?_) ?_ hHeld ?_
            rotate_left
            · (intro ww _; go_simp; try with_reducible rfl)
            refine tkW 3 (some 39) (v := ?_) ?_ hHeld ?_
            rotate_left
            · (intro ww _; go_simp; try with_reducible rfl)
            refine tkW 4 (some 40) (v := ?_) ?_ hHeld ?_
            rotate_left
            · (intro ww hSw; (try dsimp only at hSw); go_simp; try with_reducible rfl)
            refine tkW 6 (some 42) (v := ?_) ?_ hHeld ?_
            rotate_left
            · (intro ww _; go_simp; try with_reducible rfl)
            refine tkW 7 (some 43) (v := ?_) ?_ hHeld ?_
            rotate_left
            · (intro ww _; go_simp; try with_reducible rfl)
            refine tkW 8 (some 44) (v := ?_) ?_ hHeld ?_
            rotate_left
            · (intro ww hSw; (try dsimp only at hSw); go_simp; try with_reducible rfl)
            refine wpAnyH_ready (rs := [5, 9]) (by kernel_rfl) (by simp) ?_
            refine AllReadyH.cons (o := ⟨some 41, _, _, _, _, _⟩) rfl (fun K hK => ?_) (AllReadyH.cons (o := ⟨some 45, _, _, _, _, _⟩) rfl (fun K hK => ?_) AllReadyH.nil)
            · have c9 := HM.out.cell (i := i) (by rw [midR_len hin]; omega)
              rw [midR_at] at c9
              go_simp
              refine hK.out _ _ (hHeld) (fun hHeld2 => ?_)
              clear hK K hHeld
              have hHeld := hHeld2
              clear hHeld2
              (try simp only [Act.put, List.setIfInBounds_toArray, List.set_cons_zero, List.set_cons_succ])
              clear c9
              refine wpAnyH_ready (rs := [9]) (by kernel_rfl) (by simp) ?_
              refine AllReadyH.cons (o := ⟨some 45, _, _, _, _, _⟩) rfl (fun K hK => ?_) AllReadyH.nil
              have c9 := HM.out.cell (i := k) (by rw [midR_len hin]; omega)
              rw [midR_behind (by omega), ← HEb.out] at c9
              go_simp
              refine hK.out _ _ (hHeld) (fun hHeld2 => ?_)
              clear hK K hHeld
              have hHeld := hHeld2
              clear hHeld2
              (try simp only [Act.put, List.setIfInBounds_toArray, List.set_cons_zero, List.set_cons_succ])
              clear c9
              refine tkW 10 (some 46) (v := ?_) ?_ hHeld ?_
              rotate_left
              · (intro ww hSw; (try dsimp only at hSw); go_simp; try with_reducible rfl)
              refine tkW 11 (some 47) (v := ?_) ?_ hHeld ?_
              rotate_left
              · (intro ww hSw; (try dsimp only at hSw); go_simp; try with_reducible rfl)
              refine tkW 12 (some 48) (v := ?_) ?_ hHeld ?_
              rotate_left
              · (intro ww hSw; (try dsimp only at hSw); go_simp; try with_reducible rfl)
              refine wpAnyH_ready (rs := [13]) (by kernel_rfl) (by simp) ?_
              refine AllReadyH.cons (o := ⟨none, _, _, _, _, _⟩) rfl (fun K hK => ?_) AllReadyH.nil
              obtain ⟨hcl, hfz⟩ := HM.out.at (i := i) (by rw [midR_len hin]; exact hin)
              go_simp
              refine hK.out _ _ (hHeld.setCell (p := ⟨w.heap.size, i, none⟩) (Nat.le_refl _) _) (fun hHeld2 => ?_)
              clear hK K hHeld
              have hHeld := hHeld2
              clear hHeld2
              (try simp only [Act.put, List.setIfInBounds_toArray, List.set_cons_zero, List.set_cons_succ])
              have HM2 := hide9 (HM.out.set i (max c (b + 1)))
              rw [midR_set] at HM2
              have HB3 := hide9 (HB2.out.setCell (p := ⟨w.heap.size, i, none⟩) (Nat.le_refl _) (.int .i64 (max c (b + 1))))
              obtain ⟨X9, eX⟩ : ∃ X, X = Ub1u0.setCell ⟨w.heap.size, i, none⟩ (.int .i64 (max c (b + 1))) := ⟨_, rfl⟩
              rw [← eX] at HM2 HB3 ⊢
              clear eX hcl hfz HM HB2
              refine wpAnyH_done (by kernel_rfl) ?_ _
              clear hHeld
              go_wp2
              go_roundw
              case rel => exact ⟨k + 1, max c (b + 1), by omega, by omega, by go_num, by omega, HC2, HM2, HB3⟩
              case measure => simp [intOf]; omega
            · have c9 := HM.out.cell (i := k) (by rw [midR_len hin]; omega)
              rw [midR_behind (by omega), ← HEb.out] at c9
              go_simp
              refine hK.out _ _ (hHeld) (fun hHeld2 => ?_)
              clear hK K hHeld
              have hHeld := hHeld2
              clear hHeld2
              (try simp only [Act.put, List.setIfInBounds_toArray, List.set_cons_zero, List.set_cons_succ])
              clear c9
              refine tkW 10 (some 46) (v := ?_) ?_ hHeld ?_
              rotate_left
              · (intro ww hSw; (try dsimp only at hSw); go_simp; try with_reducible rfl)
              refine wpAnyH_ready (rs := [5]) (by kernel_rfl) (by simp) ?_
              refine AllReadyH.cons (o := ⟨some 41, _, _, _, _, _⟩) rfl (fun K hK => ?_) AllReadyH.nil
              have c9 := HM.out.cell (i := i) (by rw [midR_len hin]; omega)
              rw [midR_at] at c9
              go_simp
              refine hK.out _ _ (hHeld) (fun hHeld2 => ?_)
              clear hK K hHeld
              have hHeld := hHeld2
              clear hHeld2
              (try simp only [Act.put, List.setIfInBounds_toArray, List.set_cons_zero, List.set_cons_succ])
              clear c9
              refine tkW 11 (some 47) (v := ?_) ?_ hHeld ?_
              rotate_left
              · (intro ww hSw; (try dsimp only at hSw); go_simp; try with_reducible rfl)
              refine tkW 12 (some 48) (v := ?_) ?_ hHeld ?_
              rotate_left
              · (intro ww hSw; (try dsimp only at hSw); go_simp; try with_reducible rfl)
              refine wpAnyH_ready (rs := [13]) (by kernel_rfl) (by simp) ?_
              refine AllReadyH.cons (o := ⟨none, _, _, _, _, _⟩) rfl (fun K hK => ?_) AllReadyH.nil
              obtain ⟨hcl, hfz⟩ := HM.out.at (i := i) (by rw [midR_len hin]; exact hin)
              go_simp
              refine hK.out _ _ (hHeld.setCell (p := ⟨w.heap.size, i, none⟩) (Nat.le_refl _) _) (fun hHeld2 => ?_)
              clear hK K hHeld
              have hHeld := hHeld2
              clear hHeld2
              (try simp only [Act.put, List.setIfInBounds_toArray, List.set_cons_zero, List.set_cons_succ])
              have HM2 := hide9 (HM.out.set i (max c (b + 1)))
              rw [midR_set] at HM2
              have HB3 := hide9 (HB2.out.setCell (p := ⟨w.heap.size, i, none⟩) (Nat.le_refl _) (.int .i64 (max c (b + 1))))
              obtain ⟨X9, eX⟩ : ∃ X, X = Ub1u0.setCell ⟨w.heap.size, i, none⟩ (.int .i64 (max c (b + 1))) := ⟨_, rfl⟩
              rw [← eX] at HM2 HB3 ⊢
              clear eX hcl hfz HM HB2
              refine wpAnyH_done (by kernel_rfl) ?_ _
              clear hHeld
              go_wp2
              go_roundw
              case rel => exact ⟨k + 1, max c (b + 1), by omega, by omega, by go_num, by omega, HC2, HM2, HB3⟩
              case measure => simp [intOf]; omega
          · have HC2 : Hid (max c (bst (atD d i) (d.drop (k + 1)) (begL (d.drop (k + 1))) + 1) = bst (atD d i) (d.drop (i + 1)) (begL (d.drop (i + 1))) + 1) := (by show _ = _; have := HC.out; rw [if_neg hx] at this; rw [← ex]; exact this)
            clear HC ex ey
            go_wp2
            go_quiet (fail)
            go_wp2
            go_roundw
            case rel => exact ⟨k + 1, c, by omega, by omega, by go_num, hc0, HC2, HM.out.below (below_drewN (Below.refl _ _) _), below_drewN HB.out _⟩
            case measure => simp [intOf]; omega
        · have HE : Hid (RowF wr w.heap.size (List.replicate i 0 ++ begL (d.drop i))) := (by
            have h1 := HC.out
            rw [bst_end (by omega)] at h1
            have h2 := HM.out
            rw [midR_done hin (by omega)] at h2
            exact h2)
          have k9 : ¬ (k : Int) < (d.length : Int) := by omega
          have m1 : IntKind.i64.wrap ((i : Int) - 1) = (i : Int) - 1 := by rw [IntKind.wrap_i64]; omega
          go_wp2
          go_roundw
          case rel => exact ⟨i, by omega, by go_num, HE, HB⟩
          case measure => simp [intOf]
end Go.Proofs.Ythhnglpkfcmjiaa

namespace Go.Proofs.Ythhnglpkfcmjiaa
open Go.RowKit
set_option linter.unusedVariables false
set_option maxRecDepth 100000 in
theorem maxL_drop {d : List Int} {i : Nat} (h : i < d.length) : maxL ((begL d).drop i) = max (bgA d i) (maxL ((begL d).drop (i + 1))) := by
  rw [List.drop_eq_getElem_cons (by rw [begL_length]; exact h), bgA_eq h]; rfl
/-- The last place as a number; -1 while there is none. -/
def lastI : Option Nat → Int
  | none => -1
  | some p => (p : Int)
set_option maxRecDepth 100000 in
theorem lastI_nxt (l : Option Nat) : lastI l + 1 = (nxt l : Int) := by cases l <;> simp [lastI, nxt]
set_option maxRecDepth 100000 in
theorem Ahd.lt {d : List Int} {l : Option Nat} {left : Int} (h : Ahd d l left) : nxt l ≤ d.length := by
  cases l with
  | none => exact Nat.zero_le _
  | some p => exact h.1
set_option maxRecDepth 100000 in
set_option maxHeartbeats 8000000 in
theorem refRising_any (v1 : Value) (d : List Int) (w : World) (h1 : IsI w v1 d) :
    Calls Try.prog 68 #[v1] w fun e w' => ∃ v', e = .returned v' ∧ OwnI w.heap.size w' v' (risL d) ∧ Below w.heap.size w w' := by
  obtain ⟨i0, hi, hz0, hz1, hz2⟩ := info_parts infoInt
  have H1 := hide9 h1
  obtain ⟨a1, c1, rfl, hc1, hl1, r1⟩ := h1
  have R1 : Hid (d = [] ∨ ∃ b o, a1 = some ⟨b, o, none⟩ ∧ IntsAt w b o d) := r1
  clear r1
  go_enter Try.func68, Try.ntmps68
  go_wp2_with fail
  refine (refBegins_any _ d _ H1.out).mono ?_
  rintro e w0 ⟨gB, rfl, hg, hr, hb⟩
  have HRb := hide9 hr
  have HBb := hide9 hb
  clear hr hb H1
  go_wp2
  go_loopw [4, 5] (fun mv iv wr => ∃ (i : Nat) (m : Int), i ≤ d.length ∧ iv = .int .i64 (i : Int) ∧ mv = .int .i64 m ∧ 0 ≤ m ∧ Hid (max m (maxL ((begL d).drop i)) = lngL d) ∧ wr = w0) (fun _ iv _ => d.length - (intOf iv).toNat)
  case atStart => exact ⟨0, 0, Nat.zero_le _, rfl, rfl, Int.le_refl _, by (show _ = _; have := maxL_nonneg (begL d); simp [lngL]; omega), rfl⟩
  case round =>
    obtain ⟨i, m, hk, rfl, rfl, hm, HM, rfl⟩ := hrel
    by_cases hlt : i < d.length
    · have x1 := HRb.out.cell (i := i) (by rw [begL_length]; exact hlt)
      have k1 : (i : Int) < (d.length : Int) := by omega
      have k0 : (0 : Int) ≤ (i : Int) := by omega
      obtain ⟨b, eb⟩ : ∃ b, b = bgA d i := ⟨_, rfl⟩
      rw [show atD (begL d) i = b from eb.symm] at x1
      have HM2 : Hid (max (max m b) (maxL ((begL d).drop (i + 1))) = lngL d) := (by show _ = _; have := HM.out; rw [maxL_drop hlt, ← eb] at this; omega)
      clear eb HM
      go_wp2
      go_roundw
      case rel => exact ⟨i + 1, max m b, by omega, by go_num, rfl, by omega, HM2, by first | rfl | trivial⟩
      case measure => simp [intOf]; omega
    · have hm2 : m = lngL d := (by have := HM.out; rw [List.drop_eq_nil_of_le (by rw [begL_length]; omega)] at this; simp [maxL] at this; omega)
      have k9 : ¬ (i : Int) < (d.length : Int) := by omega
      subst hm2
      clear HM hm
      have HO0 := hide9 (OwnI.empty wr _ (Nat.le_refl _))
      have HB0 : Hid (Below wr.heap.size wr (wr.alloc (.cells #[] 3))) := (Below.refl _ _).alloc (Nat.le_refl _) _
      have hln := lngL_nonneg d
      have hlg : lngL d ≤ d.length := (by have := (ris_ris d).2; have := ris_len d; omega)
      have HR0 := HRb
      obtain ⟨w1, ew1⟩ : ∃ X, X = wr := ⟨_, rfl⟩
      rw [← ew1] at HO0 HB0 HR0 HBb
      go_wp2
      go_loopw [4, 6, 7] (fun lv out pv wr => ∃ (l : Option Nat) (lf : Int) (D : List Int), 0 ≤ lf ∧ pv = .int .i64 (lastI l) ∧ lv = .int .i64 lf ∧ lf + D.length = lngL d ∧ Hid (Ahd d l lf) ∧ Hid (D ++ rstL d (nxt l) lf = risL d) ∧ Hid (RowF wr gB (begL d)) ∧ Hid (OwnI w1.heap.size wr out D) ∧ Hid (Below w1.heap.size w1 wr)) (fun lv _ _ _ => (intOf lv).toNat)
      case atStart => exact ⟨none, lngL d, [], lngL_nonneg d, rfl, rfl, by simp, (rfl : lngL d = lngL d), by (show _ = _; exact rstL_zero d), by (rw [← ew1]; exact HR0.out.below HB0.out), by (rw [← ew1]; exact HO0.out), by (rw [← ew1]; exact HB0.out)⟩
      case round =>
        clear HO0 HB0 HRb ew1
        obtain ⟨l, lf, D, hlf, rfl, rfl, hDl, HA, HD, HR, HO, HB⟩ := hrel
        have hsz := HB.out.size
        by_cases hl0 : 0 < lf
        · obtain ⟨ao, co, e0⟩ := HO.out.form
          subst e0
          have hnx := HA.out.lt
          have n1 : IntKind.i64.wrap (lastI l + 1) = (nxt l : Int) := (by rw [lastI_nxt, IntKind.wrap_i64]; omega)
          have m1 : IntKind.i64.wrap (lf - 1) = lf - 1 := by rw [IntKind.wrap_i64]; omega
          go_wp2
          go_loopw [6, 7, 8] (fun out pv iv wr => ∃ (i : Nat), i ≤ d.length ∧ nxt l ≤ i ∧ iv = .int .i64 (i : Int) ∧ pv = .int .i64 (lastI l) ∧ out = (.slice ao D.length co) ∧ Hid (∀ k, nxt l ≤ k → k < i → ¬ Fit d l lf k) ∧ Hid (D ++ rstL d i lf = risL d) ∧ Hid (RowF wr gB (begL d)) ∧ Hid (OwnI w1.heap.size wr (.slice ao D.length co) D) ∧ Hid (Below w1.heap.size w1 wr)) (fun _ _ iv _ => d.length - (intOf iv).toNat)
          case atStart => exact ⟨nxt l, hnx, Nat.le_refl _, rfl, rfl, rfl, fun k h1 h2 => absurd h2 (by omega), HD, HR, HO, HB⟩
          case round =>
            clear HR HO HB HD hsz
            obtain ⟨i, hk, hni, rfl, rfl, rfl, HN, HD, HR, HO, HB⟩ := hrel
            have hsz := HB.out.size
            by_cases hlt : i < d.length
            · obtain ⟨b1, o1, rfl, g1⟩ := R1.out.resolve_left (by intro e; subst e; simp at hlt)
              have x1 := HR.out.cell (i := i) (by rw [begL_length]; exact hlt)
              have k1 : (i : Int) < (d.length : Int) := by omega
              have k0 : (0 : Int) ≤ (i : Int) := by omega
              obtain ⟨b, eb⟩ : ∃ b, b = bgA d i := ⟨_, rfl⟩
              rw [show atD (begL d) i = b from eb.symm] at x1
              have HLb : Hid (gB < wr.heap.size ∧ wr.cell? ⟨gB, i, none⟩ = some (.int .i64 b)) := ⟨HR.out.lt, x1⟩
              have HEb := hide9 eb
              have G1 := hide9 ((g1.below HBb.out).below HB.out)
              clear x1 eb g1
              by_cases hb : lf ≤ b
              · cases l with
                | none =>
                  have HFt : Hid (Fit d none lf i) := ⟨by rw [← HEb.out]; exact hb, trivial⟩
                  have HEq : Hid (bgA d i = lf) := HA.out.fit hlt hni HFt.out
                  have HA2 : Hid (Ahd d (some i) (lf - 1)) := Ahd.step hlt HEq.out
                  have HD3 : Hid ((D ++ [(i : Int)]) ++ rstL d (nxt (some i)) (lf - 1) = risL d) := (by show _ = _; have := HD.out; rw [rstL_yes hlt HEq.out] at this; simpa [nxt] using this)
                  have hs1 := HBb.out.size
                  clear HN HD HEq HFt
                  simp only [lastI]
                  go_upto_region 13 with fail
                  refine wp_region_held_drew (S := fun W' => Below wr.heap.size wr W') (by kernel_rfl) (Below.refl _ _).drew (fun hHeld => ?_)
                  obtain ⟨Un1u0, eW⟩ : ∃ X, X = wr.drew := ⟨_, rfl⟩
                  have hb : Below wr.heap.size wr Un1u0 := by rw [eW]; exact (Below.refl _ _).drew
                  rw [← eW] at hHeld ⊢
                  clear eW hb
                  refine tkW 0 (some 34) (v := ?_) ?_ hHeld ?_
                  rotate_left
                  · (intro ww _; go_simp; try with_reducible rfl)
                  refine tkW 1 (some 35) (v := ?_) ?_ hHeld ?_
                  rotate_left
                  · (intro ww _; go_simp; try with_reducible rfl)
                  refine tkW 2 (some 36) (v := ?_) ?_ hHeld ?_
                  rotate_left
                  · (intro ww hSw; (try dsimp only at hSw); go_simp; try with_reducible rfl)
                  refine tkW 3 (some 37) (v := ?_) ?_ hHeld ?_
                  rotate_left
                  · (intro ww hSw; (try dsimp only at hSw); have c9 : ww.cell? ⟨gB, i, none⟩ = some (.int .i64 b) := (hSw.cell (p := ⟨gB, i, none⟩) HLb.out.1).trans HLb.out.2; go_simp; try with_reducible rfl)
                  refine tkW 4 (some 38) (v := ?_) ?_ hHeld ?_
                  rotate_left
                  · (intro ww _; go_simp; try with_reducible rfl)
                  refine tkW 5 (some 39) (v := ?_) ?_ hHeld ?_
                  rotate_left
                  · (intro ww hSw; (try dsimp only at hSw); go_simp; try with_reducible rfl)
                  refine tkW 6 (some 40) (v := ?_) ?_ hHeld ?_
                  rotate_left
                  · (intro ww _; go_simp; try with_reducible rfl)
                  refine tkW 7 (some 41) (v := ?_) ?_ hHeld ?_
                  rotate_left
                  · (intro ww _; go_simp; try with_reducible rfl)
                  refine tkW 8 (some 42) (v := ?_) ?_ hHeld ?_
                  rotate_left
                  · (intro ww hSw; (try dsimp only at hSw); go_simp; try with_reducible rfl)
                  refine tkW 9 (some 43) (v := ?_) ?_ hHeld ?_
                  rotate_left
                  · (intro ww _; go_simp; try with_reducible rfl)
                  refine tkU 10 (some 44) hHeld ?_
                  refine tkU 11 (some 45) hHeld ?_
                  refine tkU 12 (some 46) hHeld ?_
                  refine tkU 13 (some 47) hHeld ?_
                  refine tkU 14 (some 48) hHeld ?_
                  refine tkU 15 (some 49) hHeld ?_
                  refine tkU 16 (some 50) hHeld ?_
                  refine tkU 17 (some 51) hHeld ?_
                  refine tkU 18 (some 52) hHeld ?_
                  refine tkW 19 (some 53) (v := ?_) ?_ hHeld ?_
                  rotate_left
                  · (intro ww _; go_simp; try with_reducible rfl)
                  refine tkW 20 (some 54) (v := ?_) ?_ hHeld ?_
                  rotate_left
                  · (intro ww _; go_simp; try with_reducible rfl)
                  refine wpAnyH_done (by kernel_rfl) ?_ _
                  have HB := hide9 (HB.out.trans (hHeld.mono HB.out.size))
                  have HO := hide9 (HO.out.below hHeld)
                  have HR := hide9 (HR.out.below hHeld)
                  have hsz := HB.out.size
                  clear hHeld
                  go_wp2_with (at_builtin; refine wpList_append_own _ rfl _ _ 78 rfl w1.heap.size 3 i0 (.int .i64 0) 1 8 Try.underlying78 hi hz0 hz1 hz2 rfl (by decide) _ _ _ rfl (World.ownsRow.alloc HO.out _) ⟨Un1u0.heap.size, 0, none⟩ 1 1 [.int .i64 (i : Int)] rfl rfl (cell_one_new _ _ _) (fun x hx => by simp at hx; subst hx; rfl) (by unfold maxLen; omega) (by omega) (by simp; omega) ?_; intro v3 w3 hown3 hgrow3 hnil3)
                  go_roundw
                  case rel =>
                    have hnb : ∀ j, (Value.slice ao D.length co).ownBlock = some j → w1.heap.size ≤ j := fun j e => HO.out.block j e
                    have hb3 : Below w1.heap.size w1 w3 := (HB.out.alloc (by omega) _).grown hgrow3 (by simp; omega) hnb
                    exact ⟨some i, lf - 1, D ++ [(i : Int)], by omega, rfl, by go_num, by simp; omega, HA2, HD3, HR0.out.below hb3, OwnI.snoc hown3, hb3⟩
                  case measure => simp [intOf]; omega
                | some p =>
                  have hp := HA.out.1
                  have hp0 : (0 : Int) ≤ (p : Int) := by omega
                  have hp1 : (p : Int) < (d.length : Int) := by omega
                  have hp2 : ¬ (p : Int) < 0 := by omega
                  have z1 := G1.out i hlt
                  have z2 := G1.out p hp
                  rw [atD_eq hlt] at z1
                  rw [atD_eq hp] at z2
                  obtain ⟨x, ex⟩ : ∃ x, x = atD d i := ⟨_, rfl⟩
                  obtain ⟨y, ey⟩ : ∃ y, y = atD d p := ⟨_, rfl⟩
                  rw [← ex] at z1
                  rw [← ey] at z2
                  have hlb := G1.out.lt (by intro e; subst e; simp at hlt)
                  have HLx : Hid (b1 < wr.heap.size ∧ wr.cell? ⟨b1, o1 + i, none⟩ = some (.int .i64 x)) := ⟨hlb, z1⟩
                  have HLy : Hid (b1 < wr.heap.size ∧ wr.cell? ⟨b1, o1 + p, none⟩ = some (.int .i64 y)) := ⟨hlb, z2⟩
                  have Hx := hide9 ex
                  have Hy := hide9 ey
                  clear z1 z2 hlb ex ey
                  simp only [lastI]
                  by_cases hxy : y < x
                  · have HFt : Hid (Fit d (some p) lf i) := ⟨by rw [← HEb.out]; exact hb, by (show atD d p < atD d i; rw [← Hx.out, ← Hy.out]; exact hxy)⟩
                    have HEq : Hid (bgA d i = lf) := HA.out.fit hlt hni HFt.out
                    have HA2 : Hid (Ahd d (some i) (lf - 1)) := Ahd.step hlt HEq.out
                    have HD3 : Hid ((D ++ [(i : Int)]) ++ rstL d (nxt (some i)) (lf - 1) = risL d) := (by show _ = _; have := HD.out; rw [rstL_yes hlt HEq.out] at this; simpa [nxt] using this)
                    have hs1 := HBb.out.size
                    clear HN HD HEq HFt
                    go_upto_region 13 with fail
                    refine wp_region_held_drew (S := fun W' => Below wr.heap.size wr W') (by kernel_rfl) (Below.refl _ _).drew (fun hHeld => ?_)
                    obtain ⟨Us2u0, eW⟩ : ∃ X, X = wr.drew := ⟨_, rfl⟩
                    have hb : Below wr.heap.size wr Us2u0 := by rw [eW]; exact (Below.refl _ _).drew
                    rw [← eW] at hHeld ⊢
                    clear eW hb
                    refine tkW 0 (some 34) (v := ?_) ?_ hHeld ?_
                    rotate_left
                    · (intro ww _; go_simp; try with_reducible rfl)
                    refine tkW 1 (some 35) (v := ?_) ?_ hHeld ?_
                    rotate_left
                    · (intro ww _; go_simp; try with_reducible rfl)
                    refine tkW 2 (some 36) (v := ?_) ?_ hHeld ?_
                    rotate_left
                    · (intro ww hSw; (try dsimp only at hSw); go_simp; try with_reducible rfl)
                    refine tkW 3 (some 37) (v := ?_) ?_ hHeld ?_
                    rotate_left
                    · (intro ww hSw; (try dsimp only at hSw); have c9 : ww.cell? ⟨gB, i, none⟩ = some (.int .i64 b) := (hSw.cell (p := ⟨gB, i, none⟩) HLb.out.1).trans HLb.out.2; go_simp; try with_reducible rfl)
                    refine tkW 4 (some 38) (v := ?_) ?_ hHeld ?_
                    rotate_left
                    · (intro ww _; go_simp; try with_reducible rfl)
                    refine tkW 5 (some 39) (v := ?_) ?_ hHeld ?_
                    rotate_left
                    · (intro ww hSw; (try dsimp only at hSw); go_simp; try with_reducible rfl)
                    refine tkW 6 (some 40) (v := ?_) ?_ hHeld ?_
                    rotate_left
                    · (intro ww _; go_simp; try with_reducible rfl)
                    refine tkW 7 (some 41) (v := ?_) ?_ hHeld ?_
                    rotate_left
                    · (intro ww _; go_simp; try with_reducible rfl)
                    refine tkW 8 (some 42) (v := ?_) ?_ hHeld ?_
                    rotate_left
                    · (intro ww hSw; (try dsimp only at hSw); go_simp; try with_reducible rfl)
                    refine tkW 9 (some 43) (v := ?_) ?_ hHeld ?_
                    rotate_left
                    · (intro ww _; go_simp; try with_reducible rfl)
                    refine tkW 10 (some 44) (v := ?_) ?_ hHeld ?_
                    rotate_left
                    · (intro ww _; go_simp; try with_reducible rfl)
                    refine tkW 11 (some 45) (v := ?_) ?_ hHeld ?_
                    rotate_left
                    · (intro ww _; go_simp; try with_reducible rfl)
                    refine tkW 12 (some 46) (v := ?_) ?_ hHeld ?_
                    rotate_left
                    · (intro ww hSw; (try dsimp only at hSw); go_simp; try with_reducible rfl)
                    refine tkW 13 (some 47) (v := ?_) ?_ hHeld ?_
                    rotate_left
                    · (intro ww hSw; (try dsimp only at hSw); have c9 : ww.cell? ⟨b1, o1 + i, none⟩ = some (.int .i64 x) := (hSw.cell (p := ⟨b1, o1 + i, none⟩) HLx.out.1).trans HLx.out.2; go_simp; try with_reducible rfl)
                    refine tkW 14 (some 48) (v := ?_) ?_ hHeld ?_
                    rotate_left
                    · (intro ww _; go_simp; try with_reducible rfl)
                    refine tkW 15 (some 49) (v := ?_) ?_ hHeld ?_
                    rotate_left
                    · (intro ww _; go_simp; try with_reducible rfl)
                    refine tkW 16 (some 50) (v := ?_) ?_ hHeld ?_
                    rotate_left
                    · (intro ww hSw; (try dsimp only at hSw); go_simp; try with_reducible rfl)
                    refine tkW 17 (some 51) (v := ?_) ?_ hHeld ?_
                    rotate_left
                    · (intro ww hSw; (try dsimp only at hSw); have c9 : ww.cell? ⟨b1, o1 + p, none⟩ = some (.int .i64 y) := (hSw.cell (p := ⟨b1, o1 + p, none⟩) HLy.out.1).trans HLy.out.2; go_simp; try with_reducible rfl)
                    refine tkW 18 (some 52) (v := ?_) ?_ hHeld ?_
                    rotate_left
                    · (intro ww hSw; (try dsimp only at hSw); go_simp; try with_reducible rfl)
                    refine tkW 19 (some 53) (v := ?_) ?_ hHeld ?_
                    rotate_left
                    · (intro ww _; go_simp; try with_reducible rfl)
                    refine tkW 20 (some 54) (v := ?_) ?_ hHeld ?_
                    rotate_left
                    · (intro ww _; go_simp; try with_reducible rfl)
                    refine wpAnyH_done (by kernel_rfl) ?_ _
                    have HB := hide9 (HB.out.trans (hHeld.mono HB.out.size))
                    have HO := hide9 (HO.out.below hHeld)
                    have HR := hide9 (HR.out.below hHeld)
                    have hsz := HB.out.size
                    clear hHeld
                    go_wp2_with (at_builtin; refine wpList_append_own _ rfl _ _ 78 rfl w1.heap.size 3 i0 (.int .i64 0) 1 8 Try.underlying78 hi hz0 hz1 hz2 rfl (by decide) _ _ _ rfl (World.ownsRow.alloc HO.out _) ⟨Us2u0.heap.size, 0, none⟩ 1 1 [.int .i64 (i : Int)] rfl rfl (cell_one_new _ _ _) (fun x hx => by simp at hx; subst hx; rfl) (by unfold maxLen; omega) (by omega) (by simp; omega) ?_; intro v3 w3 hown3 hgrow3 hnil3)
                    go_roundw
                    case rel =>
                      have hnb : ∀ j, (Value.slice ao D.length co).ownBlock = some j → w1.heap.size ≤ j := fun j e => HO.out.block j e
                      have hb3 : Below w1.heap.size w1 w3 := (HB.out.alloc (by omega) _).grown hgrow3 (by simp; omega) hnb
                      exact ⟨some i, lf - 1, D ++ [(i : Int)], by omega, rfl, by go_num, by simp; omega, HA2, HD3, HR0.out.below hb3, OwnI.snoc hown3, hb3⟩
                    case measure => simp [intOf]; omega
                  · have HNo : Hid (¬ Fit d (some p) lf i) := fun hf => hxy (by have h2 : atD d p < atD d i := hf.2; rw [← Hx.out, ← Hy.out] at h2; exact h2)
                    have HNe : Hid (bgA d i ≠ lf) := fun e => HNo.out (HA.out.first hl0 hlt hni HN.out e)
                    have HN2 : Hid (∀ k, nxt (some p) ≤ k → k < i + 1 → ¬ Fit d (some p) lf k) := fun k h1 h2 hf => (by
                      rcases Nat.lt_or_ge k i with h3 | h3
                      · exact HN.out k h1 h3 hf
                      · obtain rfl : k = i := by omega
                        exact HNo.out hf)
                    have HD2 : Hid (D ++ rstL d (i + 1) lf = risL d) := (by show _ = _; rw [← rstL_no hlt HNe.out]; exact HD.out)
                    clear HN HD HNo HNe
                    go_upto_region 13 with fail
                    refine wp_region_held_drew (S := fun W' => Below wr.heap.size wr W') (by kernel_rfl) (Below.refl _ _).drew (fun hHeld => ?_)
                    obtain ⟨Ut3u0, eW⟩ : ∃ X, X = wr.drew := ⟨_, rfl⟩
                    have hb : Below wr.heap.size wr Ut3u0 := by rw [eW]; exact (Below.refl _ _).drew
                    rw [← eW] at hHeld ⊢
                    clear eW hb
                    refine tkW 0 (some 34) (v := ?_) ?_ hHeld ?_
                    rotate_left
                    · (intro ww _; go_simp; try with_reducible rfl)
                    refine tkW 1 (some 35) (v := ?_) ?_ hHeld ?_
                    rotate_left
                    · (intro ww _; go_simp; try with_reducible rfl)
                    refine tkW 2 (some 36) (v := ?_) ?_ hHeld ?_
                    rotate_left
                    · (intro ww hSw; (try dsimp only at hSw); go_simp; try with_reducible rfl)
                    refine tkW 3 (some 37) (v := ?_) ?_ hHeld ?_
                    rotate_left
                    · (intro ww hSw; (try dsimp only at hSw); have c9 : ww.cell? ⟨gB, i, none⟩ = some (.int .i64 b) := (hSw.cell (p := ⟨gB, i, none⟩) HLb.out.1).trans HLb.out.2; go_simp; try with_reducible rfl)
                    refine tkW 4 (some 38) (v := ?_) ?_ hHeld ?_
                    rotate_left
                    · (intro ww _; go_simp; try with_reducible rfl)
                    refine tkW 5 (some 39) (v := ?_) ?_ hHeld ?_
                    rotate_left
                    · (intro ww hSw; (try dsimp only at hSw); go_simp; try with_reducible rfl)
                    refine tkW 6 (some 40) (v := ?_) ?_ hHeld ?_
                    rotate_left
                    · (intro ww _; go_simp; try with_reducible rfl)
                    refine tkW 7 (some 41) (v := ?_) ?_ hHeld ?_
                    rotate_left
                    · (intro ww _; go_simp; try with_reducible rfl)
                    refine tkW 8 (some 42) (v := ?_) ?_ hHeld ?_
                    rotate_left
                    · (intro ww hSw; (try dsimp only at hSw); go_simp; try with_reducible rfl)
                    refine tkW 9 (some 43) (v := ?_) ?_ hHeld ?_
                    rotate_left
                    · (intro ww _; go_simp; try with_reducible rfl)
                    refine tkW 10 (some 44) (v := ?_) ?_ hHeld ?_
                    rotate_left
                    · (intro ww _; go_simp; try with_reducible rfl)
                    refine tkW 11 (some 45) (v := ?_) ?_ hHeld ?_
                    rotate_left
                    · (intro ww _; go_simp; try with_reducible rfl)
                    refine tkW 12 (some 46) (v := ?_) ?_ hHeld ?_
                    rotate_left
                    · (intro ww hSw; (try dsimp only at hSw); go_simp; try with_reducible rfl)
                    refine tkW 13 (some 47) (v := ?_) ?_ hHeld ?_
                    rotate_left
                    · (intro ww hSw; (try dsimp only at hSw); have c9 : ww.cell? ⟨b1, o1 + i, none⟩ = some (.int .i64 x) := (hSw.cell (p := ⟨b1, o1 + i, none⟩) HLx.out.1).trans HLx.out.2; go_simp; try with_reducible rfl)
                    refine tkW 14 (some 48) (v := ?_) ?_ hHeld ?_
                    rotate_left
                    · (intro ww _; go_simp; try with_reducible rfl)
                    refine tkW 15 (some 49) (v := ?_) ?_ hHeld ?_
                    rotate_left
                    · (intro ww _; go_simp; try with_reducible rfl)
                    refine tkW 16 (some 50) (v := ?_) ?_ hHeld ?_
                    rotate_left
                    · (intro ww hSw; (try dsimp only at hSw); go_simp; try with_reducible rfl)
                    refine tkW 17 (some 51) (v := ?_) ?_ hHeld ?_
                    rotate_left
                    · (intro ww hSw; (try dsimp only at hSw); have c9 : ww.cell? ⟨b1, o1 + p, none⟩ = some (.int .i64 y) := (hSw.cell (p := ⟨b1, o1 + p, none⟩) HLy.out.1).trans HLy.out.2; go_simp; try with_reducible rfl)
                    refine tkW 18 (some 52) (v := ?_) ?_ hHeld ?_
                    rotate_left
                    · (intro ww hSw; (try dsimp only at hSw); go_simp; try with_reducible rfl)
                    refine tkW 19 (some 53) (v := ?_) ?_ hHeld ?_
                    rotate_left
                    · (intro ww _; go_simp; try with_reducible rfl)
                    refine tkW 20 (some 54) (v := ?_) ?_ hHeld ?_
                    rotate_left
                    · (intro ww _; go_simp; try with_reducible rfl)
                    refine wpAnyH_done (by kernel_rfl) ?_ _
                    have HB := hide9 (HB.out.trans (hHeld.mono HB.out.size))
                    have HO := hide9 (HO.out.below hHeld)
                    have HR := hide9 (HR.out.below hHeld)
                    have hsz := HB.out.size
                    clear hHeld
                    go_wp2
                    go_roundw
                    case rel => exact ⟨i + 1, by omega, by omega, by go_num, rfl, rfl, HN2, HD2, HR, HO, HB⟩
                    case measure => simp [intOf]; omega
              · have HNo : Hid (¬ Fit d l lf i) := fun hf => hb (by rw [HEb.out]; exact hf.1)
                have HNe : Hid (bgA d i ≠ lf) := fun e => hb (by rw [HEb.out, e]; exact Int.le_refl _)
                have HN2 : Hid (∀ k, nxt l ≤ k → k < i + 1 → ¬ Fit d l lf k) := fun k h1 h2 hf => (by
                  rcases Nat.lt_or_ge k i with h3 | h3
                  · exact HN.out k h1 h3 hf
                  · obtain rfl : k = i := by omega
                    exact HNo.out hf)
                have HD2 : Hid (D ++ rstL d (i + 1) lf = risL d) := (by show _ = _; rw [← rstL_no hlt HNe.out]; exact HD.out)
                clear HN HD HNo HNe
                go_upto_region 13 with fail
                refine wp_region_held_drew (S := fun W' => Below wr.heap.size wr W') (by kernel_rfl) (Below.refl _ _).drew (fun hHeld => ?_)
                obtain ⟨Uu4u0, eW⟩ : ∃ X, X = wr.drew := ⟨_, rfl⟩
                have hb : Below wr.heap.size wr Uu4u0 := by rw [eW]; exact (Below.refl _ _).drew
                rw [← eW] at hHeld ⊢
                clear eW hb
                refine tkW 0 (some 34) (v := ?_) ?_ hHeld ?_
                rotate_left
                · (intro ww _; go_simp; try with_reducible rfl)
                refine tkW 1 (some 35) (v := ?_) ?_ hHeld ?_
                rotate_left
                · (intro ww _; go_simp; try with_reducible rfl)
                refine tkW 2 (some 36) (v := ?_) ?_ hHeld ?_
                rotate_left
                · (intro ww hSw; (try dsimp only at hSw); go_simp; try with_reducible rfl)
                refine tkW 3 (some 37) (v := ?_) ?_ hHeld ?_
                rotate_left
                · (intro ww hSw; (try dsimp only at hSw); have c9 : ww.cell? ⟨gB, i, none⟩ = some (.int .i64 b) := (hSw.cell (p := ⟨gB, i, none⟩) HLb.out.1).trans HLb.out.2; go_simp; try with_reducible rfl)
                refine tkW 4 (some 38) (v := ?_) ?_ hHeld ?_
                rotate_left
                · (intro ww _; go_simp; try with_reducible rfl)
                refine tkW 5 (some 39) (v := ?_) ?_ hHeld ?_
                rotate_left
                · (intro ww hSw; (try dsimp only at hSw); go_simp; try with_reducible rfl)
                refine tkW 6 (some 40) (v := ?_) ?_ hHeld ?_
                rotate_left
                · (intro ww _; go_simp; try with_reducible rfl)
                refine tkU 7 (some 41) hHeld ?_
                refine tkU 8 (some 42) hHeld ?_
                refine tkU 9 (some 43) hHeld ?_
                refine tkU 10 (some 44) hHeld ?_
                refine tkU 11 (some 45) hHeld ?_
                refine tkU 12 (some 46) hHeld ?_
                refine tkU 13 (some 47) hHeld ?_
                refine tkU 14 (some 48) hHeld ?_
                refine tkU 15 (some 49) hHeld ?_
                refine tkU 16 (some 50) hHeld ?_
                refine tkU 17 (some 51) hHeld ?_
                refine tkU 18 (some 52) hHeld ?_
                refine tkU 19 (some 53) hHeld ?_
                refine tkW 20 (some 54) (v := ?_) ?_ hHeld ?_
                rotate_left
                · (intro ww _; go_simp; try with_reducible rfl)
                refine wpAnyH_done (by kernel_rfl) ?_ _
                have HB := hide9 (HB.out.trans (hHeld.mono HB.out.size))
                have HO := hide9 (HO.out.below hHeld)
                have HR := hide9 (HR.out.below hHeld)
                have hsz := HB.out.size
                clear hHeld
                go_wp2
                go_roundw
                case rel => exact ⟨i + 1, by omega, by omega, by go_num, rfl, rfl, HN2, HD2, HR, HO, HB⟩
                case measure => simp [intOf]; omega
            · exfalso
              obtain ⟨j, h1, h2, h3, h4⟩ := HA.out.some hl0
              exact HN.out j h1 (by omega) ⟨by omega, h3⟩
        · obtain rfl : lf = 0 := by omega
          have HE : Hid (D = risL d) := (by show _ = _; have := HD.out; rw [rstL_none] at this; simpa using this)
          have hs := HBb.out.size
          go_wp2
          go_ret
          exact ⟨_, rfl, by rw [← HE.out]; exact ⟨HO.out.1, HO.out.2.imp id fun ⟨g2, c2, cur, hv, hg2, rest⟩ => ⟨g2, c2, cur, hv, by omega, rest⟩⟩, HBb.out.trans (HB.out.mono hs)⟩
end Go.Proofs.Ythhnglpkfcmjiaa

namespace Go.Proofs.Ythhnglpkfcmjiaa
open Go.RowKit
set_option linter.unusedVariables false
set_option maxRecDepth 100000 in
theorem grownBy.same (w : World) (r : Option Nat) : w.grownBy w r := ⟨rfl, rfl, rfl, Nat.le_refl _, fun k _ _ => rfl⟩
set_option maxRecDepth 100000 in
set_option maxHeartbeats 2000000 in
/-- The document's Others. -/
theorem refOthers_any (v : Value) (d : List Int) (w : World) (h1 : IsI w v d) :
    Calls Try.prog 47 #[v] w fun e w' => ∃ v', e = .returned v' ∧ OwnI w.heap.size w' v' (othL d) ∧ Below w.heap.size w w' := by
  obtain ⟨i0, hi, hz0, hz1, hz2⟩ := info_parts infoInt
  have H1 := hide9 h1
  obtain ⟨a1, c1, rfl, hc1, hl1, r1⟩ := h1
  clear r1
  go_enter Try.func47, Try.ntmps47
  go_wp2_with fail
  refine (refRising_any _ d _ H1.out).mono ?_
  rintro e w1 ⟨v1, rfl, hr, hb⟩
  have hrl := ris_len d
  have HR := hide9 (hr.isI (by omega))
  have HB := hide9 hb
  clear hr hb
  have HO0 := hide9 (OwnI.empty w1 _ (Nat.le_refl _))
  have HB0 : Hid (Below w1.heap.size w1 (w1.alloc (.cells #[] 3))) := (Below.refl _ _).alloc (Nat.le_refl _) _
  obtain ⟨A, eA⟩ : ∃ A, A = risL d := ⟨_, rfl⟩
  rw [← eA] at HR hrl
  have E1 := hide9 eA
  clear eA
  obtain ⟨a3, c3, e3, hc3, _, r3⟩ := HR.out
  subst e3
  have R3 := hide9 r3
  clear r3
  go_wp2
  go_loopw [4, 5] (fun out iv wr => ∃ (i : Nat) (left : Int) (P D : List Int), i ≤ d.length ∧ iv = .int .i64 (i : Int) ∧ D.length ≤ i ∧ Hid (D ++ oth (rstL d i left) (d.length - i) i = othL d) ∧ Hid (P ++ rstL d i left = A ∧ ∀ p ∈ P, p < (i : Int)) ∧ Hid (OwnI w1.heap.size wr out D) ∧ Hid (Below w1.heap.size w1 wr)) (fun _ iv _ => d.length - (intOf iv).toNat)
  case atStart => exact ⟨0, lngL d, [], [], Nat.zero_le _, rfl, Nat.le_refl _, by (show _ = _; rfl), ⟨by rw [E1.out]; rfl, by simp⟩, HO0, HB0⟩
  case round =>
    clear HO0 HB0
    obtain ⟨i, left, P, D, hk, rfl, hDi, HD, HP, HO, HBr⟩ := hrel
    have hsz := HBr.out.size
    obtain ⟨ao, co, e0⟩ := HO.out.form
    subst e0
    by_cases hlt : i < d.length
    · have k1 : (i : Int) < (d.length : Int) := by omega
      have hf : d.length - i = (d.length - (i + 1)) + 1 := by omega
      have HN : Hid (∃ (left' : Int) (P' : List Int), ((P' ++ rstL d (i + 1) left' = A ∧ ∀ p ∈ P', p < ((i + 1 : Nat) : Int))) ∧ (if (i : Int) ∈ A then D ++ oth (rstL d (i + 1) left') (d.length - (i + 1)) (i + 1) = othL d else (D ++ [(i : Int)]) ++ oth (rstL d (i + 1) left') (d.length - (i + 1)) (i + 1) = othL d)) := (by
        obtain ⟨hP, hPl⟩ := HP.out
        have hD := HD.out
        by_cases hb : bgA d i = left
        · rw [rstL_yes hlt hb] at hP hD
          rw [hf, oth_yes] at hD
          refine ⟨left - 1, P ++ [(i : Int)], ⟨by simpa using hP, fun p hp => ?_⟩, ?_⟩
          · rcases List.mem_append.1 hp with h | h
            · have := hPl p h; omega
            · simp at h; omega
          · rw [if_pos (by rw [← hP]; simp)]; exact hD
        · rw [rstL_no hlt hb] at hP hD
          have hni : ∀ p ∈ rstL d (i + 1) left, p ≠ (i : Int) := fun p hp e => by have := rst_mem hp; omega
          rw [hf, oth_no (fun p hp => hni p (List.mem_of_head? hp))] at hD
          refine ⟨left, P, ⟨hP, fun p hp => by have := hPl p hp; omega⟩, ?_⟩
          rw [if_neg (by rw [← hP]; intro h; rcases List.mem_append.1 h with h | h; (have := hPl _ h; omega); exact hni _ h rfl)]
          simpa using hD)
      clear HD HP hf
      go_wp2
      go_loopw [6, 7] (fun is kv wr2 => ∃ k : Nat, k ≤ A.length ∧ kv = .int .i64 (k : Int) ∧ is = .bool (decide ((i : Int) ∈ A.take k)) ∧ wr2 = wr) (fun _ kv _ => A.length - (intOf kv).toNat)
      case atStart => exact ⟨0, Nat.zero_le _, rfl, by simp, rfl⟩
      case round =>
        obtain ⟨k, hka, rfl, rfl, rfl⟩ := hrel
        by_cases hlk : k < A.length
        · have j1 : (k : Int) < (A.length : Int) := by omega
          have j0 : (0 : Int) ≤ (k : Int) := by omega
          obtain ⟨b, o, rfl, g⟩ := R3.out.resolve_left (by intro e; rw [e] at hlk; simp at hlk)
          have x1 := (g.below HBr.out) k hlk
          obtain ⟨x, ex⟩ : ∃ x, x = A[k] := ⟨_, rfl⟩
          have ht : A.take (k + 1) = A.take k ++ [x] := by rw [ex]; exact List.take_succ_eq_append_getElem hlk
          rw [← ex] at x1
          clear g ex
          by_cases hm : (i : Int) ∈ A.take k
          · have q1 : decide ((i : Int) ∈ A.take k) = true := decide_eq_true hm
            have HM : Hid (decide ((i : Int) ∈ A.take (k + 1)) = true) := by show _ = _; rw [ht]; simp [hm]
            clear hm ht
            rw [q1]
            clear q1
            go_wp2
            go_roundw
            case rel => exact ⟨k + 1, by omega, by go_num, by rw [HM.out], by first | rfl | trivial⟩
            case measure => simp [intOf]; omega
          · have q1 : decide ((i : Int) ∈ A.take k) = false := decide_eq_false hm
            have HM : Hid (decide ((i : Int) ∈ A.take (k + 1)) = (x == (i : Int))) := by show _ = _; rw [ht]; simp [hm]; exact decide_eq_decide.2 eq_comm
            clear hm ht
            rw [q1]
            clear q1
            go_wp2
            go_roundw
            case rel => exact ⟨k + 1, by omega, by go_num, by rw [HM.out], by first | rfl | trivial⟩
            case measure => simp [intOf]; omega
        · obtain rfl : k = A.length := by omega
          rw [List.take_length]
          have j1 : ¬ (A.length : Int) < (A.length : Int) := by omega
          obtain ⟨left', P', HP', HD'⟩ := HN.out
          have HP2 := hide9 HP'
          clear HN HP'
          by_cases hm : (i : Int) ∈ A
          · have q1 : decide ((i : Int) ∈ A) = true := decide_eq_true hm
            rw [if_pos hm] at HD'
            have HD2 := hide9 HD'
            clear HD' hm
            rw [q1]
            clear q1
            go_wp2
            go_roundw
            case rel => exact ⟨i + 1, left', P', D, by omega, by go_num, by omega, HD2, HP2, HO, HBr⟩
            case measure => simp [intOf]; omega
          · have q1 : decide ((i : Int) ∈ A) = false := decide_eq_false hm
            rw [if_neg hm] at HD'
            have HD2 := hide9 HD'
            clear HD' hm
            rw [q1]
            clear q1
            go_wp2_with (at_builtin; refine wpList_append_own _ rfl _ _ 78 rfl w1.heap.size 3 i0 (.int .i64 0) 1 8 Try.underlying78 hi hz0 hz1 hz2 rfl (by decide) _ _ _ rfl (World.ownsRow.alloc HO.out _) ⟨wr.heap.size, 0, none⟩ 1 1 [.int .i64 (i : Int)] rfl rfl (cell_one_new _ _ _) (fun x hx => by simp at hx; subst hx; rfl) (by unfold maxLen; omega) (by omega) (by simp; omega) ?_; intro v' w3 hown' hgrow3 hnil3)
            go_roundw
            case rel => exact ⟨i + 1, left', P', D ++ [(i : Int)], by omega, by go_num, by simp; omega, HD2, HP2, OwnI.snoc hown', (HBr.out.alloc (by omega) _).grown hgrow3 (by simp; omega) (fun j e => HO.out.block j e)⟩
            case measure => simp [intOf]; omega
    · have HE : Hid (D = othL d) := by show _ = _; have := HD.out; rw [show d.length - i = 0 by omega, rstL_end (by omega)] at this; simpa [oth] using this
      have hs := HB.out.size
      go_wp2
      go_ret
      exact ⟨_, rfl, by rw [← HE.out]; exact ⟨HO.out.1, HO.out.2.imp id fun ⟨g2, c2, cur, hv, hg2, rest⟩ => ⟨g2, c2, cur, hv, by omega, rest⟩⟩, HB.out.trans (HBr.out.mono hs)⟩
end Go.Proofs.Ythhnglpkfcmjiaa

namespace Go.Proofs.Ythhnglpkfcmjiaa
open Go.RowKit
set_option linter.unusedVariables false
set_option maxRecDepth 100000 in
theorem RisF.ok {d : List Int} : ∀ (p : List Int) (l : Option Nat), RisF d l p → ∀ k, k < p.length → 0 ≤ atD p k ∧ atD p k < d.length ∧ (0 < k → atD p (k - 1) < atD p k ∧ atD d (atD p (k - 1)).toNat < atD d (atD p k).toNat)
  | q :: t, l, ⟨i, e, hi, hn, ha, hr⟩, 0, _ => by simp [atD, e]; omega
  | q :: t, l, ⟨i, e, hi, hn, ha, hr⟩, k + 1, hk => by
    have hk' : k < t.length := by simpa using hk
    have h := RisF.ok t (some i) hr k hk'
    have e1 : atD (q :: t) (k + 1) = atD t k := by simp [atD]
    rw [e1]
    refine ⟨h.1, h.2.1, fun _ => ?_⟩
    rw [Nat.add_sub_cancel]
    cases k with
    | zero =>
      cases t with
      | nil => simp at hk'
      | cons r s =>
        obtain ⟨j, e2, hj, hn2, ha2, _⟩ := hr
        have h0 : atD (q :: r :: s) 0 = (i : Int) := by simp [atD, e]
        have h1 : atD (r :: s) 0 = (j : Int) := by simp [atD, e2]
        rw [h0, h1]
        have hn3 : i + 1 ≤ j := hn2
        have ha3 : atD d i < atD d j := ha2
        exact ⟨by omega, by simpa using ha3⟩
    | succ k =>
      have e3 : atD (q :: t) (k + 1) = atD t k := by simp [atD]
      rw [e3]
      exact h.2.2 (by omega)
end Go.Proofs.Ythhnglpkfcmjiaa
