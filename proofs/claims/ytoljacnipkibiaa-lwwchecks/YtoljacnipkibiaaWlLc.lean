/- LwwChecks. -/
import Derived.Test.YtoljacnipkibiaaLwZ
import Derived.Test.YtoljacnipkibiaaBaseL
namespace Go.Proofs.Ytoljacnipkibiaa
open Go.RowKit
set_option linter.unusedVariables false
set_option linter.unusedSimpArgs false

set_option maxRecDepth 100000 in
set_option maxHeartbeats 8000000 in
theorem lwwChecks_walk (a b : Rg) (w : World) (ha : smR a) (hb : smR b) :
    Calls Try.prog 3 #[.agg (rgCells a).toArray, .agg (rgCells b).toArray] w fun e w' => e = .returned (.bool true) ∧ Below w.heap.size w w' := by
  have HSa : Hid (a.nm.size ≤ 281474976710656) := Nat.le_trans ha.1 (by decide)
  obtain ⟨W1, eW⟩ : ∃ X, X = (w.alloc (.cells (rgCells a).toArray 25)).alloc (.cells (rgCells b).toArray 25) := ⟨_, rfl⟩
  have HB : Hid (Below w.heap.size w W1) := by rw [eW]; exact ((Below.refl _ _).alloc (Nat.le_refl _) _).alloc (by simp) _
  have HX0 : Hid (BxC w.heap.size (rgCells a) 25 W1) := by rw [eW]; exact (BxC.new2 w _ _ _ _).1
  have HY0 : Hid (BxC (w.heap.size + 1) (rgCells b) 25 W1) := by rw [eW]; exact (BxC.new2 w _ _ _ _).2
  clear ha hb
  simp only [rgCells]
  go_enter Try.func3, Try.ntmps3
  go_wp2_with fail
  have eW2 := eW
  simp only [rgCells] at eW2
  rw [← eW2]
  clear eW2 eW
  obtain ⟨bx, ebx⟩ : ∃ b, b = w.heap.size := ⟨_, rfl⟩
  obtain ⟨by_, eby⟩ : ∃ b, b = w.heap.size + 1 := ⟨_, rfl⟩
  have HX : Hid (BxC bx (rgCells a) 25 W1) := by rw [ebx]; exact HX0.out
  have HY : Hid (BxC by_ (rgCells b) 25 W1) := by rw [eby]; exact HY0.out
  rw [← eby]
  rw [← ebx]
  clear HX0 HY0 ebx eby
  cases hW : winB a b with
  | true =>
    have HW : Hid (winB a b = true) := hW
    clear hW
    refine wp_region_held_drew (S := fun W' => BxC bx (rgCells a) 25 W' ∧ BxC by_ (rgCells b) 25 W') (by kernel_rfl) ⟨HX.out.below (Below.refl _ _).drew, HY.out.below (Below.refl _ _).drew⟩ (fun hHeld => ?_)
    obtain ⟨Ua6u0, eW⟩ : ∃ X, X = W1.drew := ⟨_, rfl⟩
    have hb : Below W1.heap.size W1 Ua6u0 := by rw [eW]; exact (Below.refl _ _).drew
    replace HB : Hid (Below w.heap.size w Ua6u0) := HB.out.trans (hb.mono HB.out.size)
    rw [← eW] at hHeld ⊢
    clear eW hb
    refine tkW 0 (some 5) (v := ?_) ?_ hHeld ?_
    rotate_left
    · (intro ww hSw; (try dsimp only at hSw); have x0 := hSw.1.cell 0 _ rfl; have x1 := hSw.1.cell 1 _ rfl; have x2 := hSw.1.cell 2 _ rfl; have x3 := hSw.1.cell 3 _ rfl; have x4 := hSw.1.cell 4 _ rfl; have x5 := hSw.1.cell 5 _ rfl; have x6 := hSw.1.cell 6 _ rfl; go_simp; try with_reducible rfl)
    refine tkW 2 (some 7) (v := ?_) ?_ hHeld ?_
    rotate_left
    · (intro ww hSw; (try dsimp only at hSw); have x0 := hSw.1.cell 0 _ rfl; have x1 := hSw.1.cell 1 _ rfl; have x2 := hSw.1.cell 2 _ rfl; have x3 := hSw.1.cell 3 _ rfl; have x4 := hSw.1.cell 4 _ rfl; have x5 := hSw.1.cell 5 _ rfl; have x6 := hSw.1.cell 6 _ rfl; go_simp; try with_reducible rfl)
    refine wpAnyH_ready (rs := [1]) (by kernel_rfl) (by simp) ?_
    refine AllReadyH.cons (o := ⟨some 6, _, _, _, _, _⟩) rfl (fun K hK => ?_) AllReadyH.nil
    go_simp
    refine (check_any a HSa.out _).mono ?_
    rintro e Ua6u1 ⟨rfl, hb⟩
    (try go_wp2_with fail)
    refine hK.out _ _ (⟨hHeld.1.below hb, hHeld.2.below hb⟩) (fun hHeld2 => ?_)
    clear hK K hHeld
    have hHeld := hHeld2
    clear hHeld2
    (try simp only [Act.put, List.setIfInBounds_toArray, List.set_cons_zero, List.set_cons_succ])
    replace HB : Hid (Below w.heap.size w Ua6u1) := HB.out.trans (hb.mono HB.out.size)
    clear hb
    refine wpAnyH_ready (rs := [3]) (by kernel_rfl) (by simp) ?_
    refine AllReadyH.cons (o := ⟨some 8, _, _, _, _, _⟩) rfl (fun K hK => ?_) AllReadyH.nil
    go_simp
    refine (refCheck_any a HSa.out _).mono ?_
    rintro e Ua6u2 ⟨rfl, hb⟩
    (try go_wp2_with fail)
    refine hK.out _ _ (⟨hHeld.1.below hb, hHeld.2.below hb⟩) (fun hHeld2 => ?_)
    clear hK K hHeld
    have hHeld := hHeld2
    clear hHeld2
    (try simp only [Act.put, List.setIfInBounds_toArray, List.set_cons_zero, List.set_cons_succ])
    replace HB : Hid (Below w.heap.size w Ua6u2) := HB.out.trans (hb.mono HB.out.size)
    clear hb
    refine tkW 4 (some 9) (v := ?_) ?_ hHeld ?_
    rotate_left
    · (intro ww hSw; (try dsimp only at hSw); go_simp; try with_reducible rfl)
    refine tkW 5 (some 10) (v := ?_) ?_ hHeld ?_
    rotate_left
    · (intro ww _; go_simp; try with_reducible rfl)
    refine tkW 6 (some 11) (v := ?_) ?_ hHeld ?_
    rotate_left
    · (intro ww hSw; (try dsimp only at hSw); have x0 := hSw.1.cell 0 _ rfl; have x1 := hSw.1.cell 1 _ rfl; have x2 := hSw.1.cell 2 _ rfl; have x3 := hSw.1.cell 3 _ rfl; have x4 := hSw.1.cell 4 _ rfl; have x5 := hSw.1.cell 5 _ rfl; have x6 := hSw.1.cell 6 _ rfl; go_simp; try with_reducible rfl)
    refine tkW 7 (some 12) (v := ?_) ?_ hHeld ?_
    rotate_left
    · (intro ww hSw; (try dsimp only at hSw); have x0 := hSw.2.cell 0 _ rfl; have x1 := hSw.2.cell 1 _ rfl; have x2 := hSw.2.cell 2 _ rfl; have x3 := hSw.2.cell 3 _ rfl; have x4 := hSw.2.cell 4 _ rfl; have x5 := hSw.2.cell 5 _ rfl; have x6 := hSw.2.cell 6 _ rfl; go_simp; try with_reducible rfl)
    refine tkW 9 (some 14) (v := ?_) ?_ hHeld ?_
    rotate_left
    · (intro ww hSw; (try dsimp only at hSw); have x0 := hSw.1.cell 0 _ rfl; have x1 := hSw.1.cell 1 _ rfl; have x2 := hSw.1.cell 2 _ rfl; have x3 := hSw.1.cell 3 _ rfl; have x4 := hSw.1.cell 4 _ rfl; have x5 := hSw.1.cell 5 _ rfl; have x6 := hSw.1.cell 6 _ rfl; go_simp; try with_reducible rfl)
    refine tkW 10 (some 15) (v := ?_) ?_ hHeld ?_
    rotate_left
    · (intro ww hSw; (try dsimp only at hSw); have x0 := hSw.2.cell 0 _ rfl; have x1 := hSw.2.cell 1 _ rfl; have x2 := hSw.2.cell 2 _ rfl; have x3 := hSw.2.cell 3 _ rfl; have x4 := hSw.2.cell 4 _ rfl; have x5 := hSw.2.cell 5 _ rfl; have x6 := hSw.2.cell 6 _ rfl; go_simp; try with_reducible rfl)
    refine wpAnyH_ready (rs := [8]) (by kernel_rfl) (by simp) ?_
    refine AllReadyH.cons (o := ⟨some 13, _, _, _, _, _⟩) rfl (fun K hK => ?_) AllReadyH.nil
    go_simp
    refine (wins_any a b _).mono ?_
    rintro e Ua6u3 ⟨rfl, hb⟩
    (try go_wp2_with fail)
    refine hK.out _ _ (⟨hHeld.1.below hb, hHeld.2.below hb⟩) (fun hHeld2 => ?_)
    clear hK K hHeld
    have hHeld := hHeld2
    clear hHeld2
    (try simp only [Act.put, List.setIfInBounds_toArray, List.set_cons_zero, List.set_cons_succ])
    replace HB : Hid (Below w.heap.size w Ua6u3) := HB.out.trans (hb.mono HB.out.size)
    clear hb
    refine wpAnyH_ready (rs := [11]) (by kernel_rfl) (by simp) ?_
    refine AllReadyH.cons (o := ⟨some 16, _, _, _, _, _⟩) rfl (fun K hK => ?_) AllReadyH.nil
    go_simp
    refine (refWins_any a b _).mono ?_
    rintro e Ua6u4 ⟨rfl, hb⟩
    (try go_wp2_with fail)
    refine hK.out _ _ (⟨hHeld.1.below hb, hHeld.2.below hb⟩) (fun hHeld2 => ?_)
    clear hK K hHeld
    have hHeld := hHeld2
    clear hHeld2
    (try simp only [Act.put, List.setIfInBounds_toArray, List.set_cons_zero, List.set_cons_succ])
    replace HB : Hid (Below w.heap.size w Ua6u4) := HB.out.trans (hb.mono HB.out.size)
    clear hb
    refine tkW 12 (some 17) (v := ?_) ?_ hHeld ?_
    rotate_left
    · (intro ww hSw; (try dsimp only at hSw); go_simp; try with_reducible rfl)
    refine tkW 13 (some 18) (v := ?_) ?_ hHeld ?_
    rotate_left
    · (intro ww _; go_simp; try with_reducible rfl)
    refine tkW 14 (some 19) (v := ?_) ?_ hHeld ?_
    rotate_left
    · (intro ww _; go_simp; try with_reducible rfl)
    refine tkW 15 (some 20) (v := ?_) ?_ hHeld ?_
    rotate_left
    · (intro ww hSw; (try dsimp only at hSw); have x0 := hSw.1.cell 0 _ rfl; have x1 := hSw.1.cell 1 _ rfl; have x2 := hSw.1.cell 2 _ rfl; have x3 := hSw.1.cell 3 _ rfl; have x4 := hSw.1.cell 4 _ rfl; have x5 := hSw.1.cell 5 _ rfl; have x6 := hSw.1.cell 6 _ rfl; go_simp; try with_reducible rfl)
    refine tkW 16 (some 21) (v := ?_) ?_ hHeld ?_
    rotate_left
    · (intro ww hSw; (try dsimp only at hSw); have x0 := hSw.1.cell 0 _ rfl; have x1 := hSw.1.cell 1 _ rfl; have x2 := hSw.1.cell 2 _ rfl; have x3 := hSw.1.cell 3 _ rfl; have x4 := hSw.1.cell 4 _ rfl; have x5 := hSw.1.cell 5 _ rfl; have x6 := hSw.1.cell 6 _ rfl; go_simp; try with_reducible rfl)
    refine wpAnyH_ready (rs := [17]) (by kernel_rfl) (by simp) ?_
    refine AllReadyH.cons (o := ⟨some 22, _, _, _, _, _⟩) rfl (fun K hK => ?_) AllReadyH.nil
    go_simp
    refine (wins_any a a _).mono ?_
    rintro e Ua6u5 ⟨rfl, hb⟩
    (try go_wp2_with fail)
    rw [winB_irr a]
    refine hK.out _ _ (⟨hHeld.1.below hb, hHeld.2.below hb⟩) (fun hHeld2 => ?_)
    clear hK K hHeld
    have hHeld := hHeld2
    clear hHeld2
    (try simp only [Act.put, List.setIfInBounds_toArray, List.set_cons_zero, List.set_cons_succ])
    replace HB : Hid (Below w.heap.size w Ua6u5) := HB.out.trans (hb.mono HB.out.size)
    clear hb
    refine tkW 18 (some 23) (v := ?_) ?_ hHeld ?_
    rotate_left
    · (intro ww _; go_simp; try with_reducible rfl)
    refine tkW 19 (some 24) (v := ?_) ?_ hHeld ?_
    rotate_left
    · (intro ww _; go_simp; try with_reducible rfl)
    refine tkW 20 (some 25) (v := ?_) ?_ hHeld ?_
    rotate_left
    · (intro ww _; go_simp; try with_reducible rfl)
    refine tkW 21 (some 26) (v := ?_) ?_ hHeld ?_
    rotate_left
    · (intro ww hSw; (try dsimp only at hSw); have x0 := hSw.1.cell 0 _ rfl; have x1 := hSw.1.cell 1 _ rfl; have x2 := hSw.1.cell 2 _ rfl; have x3 := hSw.1.cell 3 _ rfl; have x4 := hSw.1.cell 4 _ rfl; have x5 := hSw.1.cell 5 _ rfl; have x6 := hSw.1.cell 6 _ rfl; go_simp; try with_reducible rfl)
    refine tkW 22 (some 27) (v := ?_) ?_ hHeld ?_
    rotate_left
    · (intro ww hSw; (try dsimp only at hSw); have x0 := hSw.2.cell 0 _ rfl; have x1 := hSw.2.cell 1 _ rfl; have x2 := hSw.2.cell 2 _ rfl; have x3 := hSw.2.cell 3 _ rfl; have x4 := hSw.2.cell 4 _ rfl; have x5 := hSw.2.cell 5 _ rfl; have x6 := hSw.2.cell 6 _ rfl; go_simp; try with_reducible rfl)
    refine wpAnyH_ready (rs := [23]) (by kernel_rfl) (by simp) ?_
    refine AllReadyH.cons (o := ⟨some 28, _, _, _, _, _⟩) rfl (fun K hK => ?_) AllReadyH.nil
    go_simp
    refine (wins_any a b _).mono ?_
    rintro e Ua6u6 ⟨rfl, hb⟩
    (try go_wp2_with fail)
    rw [HW.out]
    refine hK.out _ _ (⟨hHeld.1.below hb, hHeld.2.below hb⟩) (fun hHeld2 => ?_)
    clear hK K hHeld
    have hHeld := hHeld2
    clear hHeld2
    (try simp only [Act.put, List.setIfInBounds_toArray, List.set_cons_zero, List.set_cons_succ])
    replace HB : Hid (Below w.heap.size w Ua6u6) := HB.out.trans (hb.mono HB.out.size)
    clear hb
    refine tkW 24 (some 29) (v := ?_) ?_ hHeld ?_
    rotate_left
    · (intro ww _; go_simp; try with_reducible rfl)
    refine tkW 25 (some 30) (v := ?_) ?_ hHeld ?_
    rotate_left
    · (intro ww _; go_simp; try with_reducible rfl)
    refine tkW 26 (some 31) (v := ?_) ?_ hHeld ?_
    rotate_left
    · (intro ww hSw; (try dsimp only at hSw); have x0 := hSw.2.cell 0 _ rfl; have x1 := hSw.2.cell 1 _ rfl; have x2 := hSw.2.cell 2 _ rfl; have x3 := hSw.2.cell 3 _ rfl; have x4 := hSw.2.cell 4 _ rfl; have x5 := hSw.2.cell 5 _ rfl; have x6 := hSw.2.cell 6 _ rfl; go_simp; try with_reducible rfl)
    refine tkW 27 (some 32) (v := ?_) ?_ hHeld ?_
    rotate_left
    · (intro ww hSw; (try dsimp only at hSw); have x0 := hSw.1.cell 0 _ rfl; have x1 := hSw.1.cell 1 _ rfl; have x2 := hSw.1.cell 2 _ rfl; have x3 := hSw.1.cell 3 _ rfl; have x4 := hSw.1.cell 4 _ rfl; have x5 := hSw.1.cell 5 _ rfl; have x6 := hSw.1.cell 6 _ rfl; go_simp; try with_reducible rfl)
    refine wpAnyH_ready (rs := [28]) (by kernel_rfl) (by simp) ?_
    refine AllReadyH.cons (o := ⟨some 33, _, _, _, _, _⟩) rfl (fun K hK => ?_) AllReadyH.nil
    go_simp
    refine (wins_any b a _).mono ?_
    rintro e Ua6u7 ⟨rfl, hb⟩
    (try go_wp2_with fail)
    rw [winB_asym HW.out]
    refine hK.out _ _ (⟨hHeld.1.below hb, hHeld.2.below hb⟩) (fun hHeld2 => ?_)
    clear hK K hHeld
    have hHeld := hHeld2
    clear hHeld2
    (try simp only [Act.put, List.setIfInBounds_toArray, List.set_cons_zero, List.set_cons_succ])
    replace HB : Hid (Below w.heap.size w Ua6u7) := HB.out.trans (hb.mono HB.out.size)
    clear hb
    refine tkW 29 (some 34) (v := ?_) ?_ hHeld ?_
    rotate_left
    · (intro ww _; go_simp; try with_reducible rfl)
    refine tkW 30 (some 35) (v := ?_) ?_ hHeld ?_
    rotate_left
    · (intro ww _; go_simp; try with_reducible rfl)
    refine tkW 31 (some 36) (v := ?_) ?_ hHeld ?_
    rotate_left
    · (intro ww _; go_simp; try with_reducible rfl)
    refine tkW 32 (some 37) (v := ?_) ?_ hHeld ?_
    rotate_left
    · (intro ww _; go_simp; try with_reducible rfl)
    refine wpAnyH_ready (rs := [33]) (by kernel_rfl) (by simp) ?_
    refine AllReadyH.cons (o := ⟨some 38, _, _, _, _, _⟩) rfl (fun K hK => ?_) AllReadyH.nil
    go_simp
    refine (awake_any _).mono ?_
    rintro e Ua6u8 ⟨rfl, hb⟩
    (try go_wp2_with fail)
    refine hK.out _ _ (⟨hHeld.1.below hb, hHeld.2.below hb⟩) (fun hHeld2 => ?_)
    clear hK K hHeld
    have hHeld := hHeld2
    clear hHeld2
    (try simp only [Act.put, List.setIfInBounds_toArray, List.set_cons_zero, List.set_cons_succ])
    replace HB : Hid (Below w.heap.size w Ua6u8) := HB.out.trans (hb.mono HB.out.size)
    clear hb
    refine tkW 34 (some 39) (v := ?_) ?_ hHeld ?_
    rotate_left
    · (intro ww _; go_simp; try with_reducible rfl)
    refine tkW 35 (some 4) (v := ?_) ?_ hHeld ?_
    rotate_left
    · (intro ww _; go_simp; try with_reducible rfl)
    refine wpAnyH_done (by kernel_rfl) ?_ _
    clear hHeld
    go_wp2
    go_ret
    exact ⟨rfl, HB.out⟩
  | false =>
    have HW : Hid (winB a b = false) := hW
    clear hW
    refine wp_region_held_drew (S := fun W' => BxC bx (rgCells a) 25 W' ∧ BxC by_ (rgCells b) 25 W') (by kernel_rfl) ⟨HX.out.below (Below.refl _ _).drew, HY.out.below (Below.refl _ _).drew⟩ (fun hHeld => ?_)
    obtain ⟨Ub7u0, eW⟩ : ∃ X, X = W1.drew := ⟨_, rfl⟩
    have hb : Below W1.heap.size W1 Ub7u0 := by rw [eW]; exact (Below.refl _ _).drew
    replace HB : Hid (Below w.heap.size w Ub7u0) := HB.out.trans (hb.mono HB.out.size)
    rw [← eW] at hHeld ⊢
    clear eW hb
    refine tkW 0 (some 5) (v := ?_) ?_ hHeld ?_
    rotate_left
    · (intro ww hSw; (try dsimp only at hSw); have x0 := hSw.1.cell 0 _ rfl; have x1 := hSw.1.cell 1 _ rfl; have x2 := hSw.1.cell 2 _ rfl; have x3 := hSw.1.cell 3 _ rfl; have x4 := hSw.1.cell 4 _ rfl; have x5 := hSw.1.cell 5 _ rfl; have x6 := hSw.1.cell 6 _ rfl; go_simp; try with_reducible rfl)
    refine tkW 2 (some 7) (v := ?_) ?_ hHeld ?_
    rotate_left
    · (intro ww hSw; (try dsimp only at hSw); have x0 := hSw.1.cell 0 _ rfl; have x1 := hSw.1.cell 1 _ rfl; have x2 := hSw.1.cell 2 _ rfl; have x3 := hSw.1.cell 3 _ rfl; have x4 := hSw.1.cell 4 _ rfl; have x5 := hSw.1.cell 5 _ rfl; have x6 := hSw.1.cell 6 _ rfl; go_simp; try with_reducible rfl)
    refine wpAnyH_ready (rs := [1]) (by kernel_rfl) (by simp) ?_
    refine AllReadyH.cons (o := ⟨some 6, _, _, _, _, _⟩) rfl (fun K hK => ?_) AllReadyH.nil
    go_simp
    refine (check_any a HSa.out _).mono ?_
    rintro e Ub7u1 ⟨rfl, hb⟩
    (try go_wp2_with fail)
    refine hK.out _ _ (⟨hHeld.1.below hb, hHeld.2.below hb⟩) (fun hHeld2 => ?_)
    clear hK K hHeld
    have hHeld := hHeld2
    clear hHeld2
    (try simp only [Act.put, List.setIfInBounds_toArray, List.set_cons_zero, List.set_cons_succ])
    replace HB : Hid (Below w.heap.size w Ub7u1) := HB.out.trans (hb.mono HB.out.size)
    clear hb
    refine wpAnyH_ready (rs := [3]) (by kernel_rfl) (by simp) ?_
    refine AllReadyH.cons (o := ⟨some 8, _, _, _, _, _⟩) rfl (fun K hK => ?_) AllReadyH.nil
    go_simp
    refine (refCheck_any a HSa.out _).mono ?_
    rintro e Ub7u2 ⟨rfl, hb⟩
    (try go_wp2_with fail)
    refine hK.out _ _ (⟨hHeld.1.below hb, hHeld.2.below hb⟩) (fun hHeld2 => ?_)
    clear hK K hHeld
    have hHeld := hHeld2
    clear hHeld2
    (try simp only [Act.put, List.setIfInBounds_toArray, List.set_cons_zero, List.set_cons_succ])
    replace HB : Hid (Below w.heap.size w Ub7u2) := HB.out.trans (hb.mono HB.out.size)
    clear hb
    refine tkW 4 (some 9) (v := ?_) ?_ hHeld ?_
    rotate_left
    · (intro ww hSw; (try dsimp only at hSw); go_simp; try with_reducible rfl)
    refine tkW 5 (some 10) (v := ?_) ?_ hHeld ?_
    rotate_left
    · (intro ww _; go_simp; try with_reducible rfl)
    refine tkW 6 (some 11) (v := ?_) ?_ hHeld ?_
    rotate_left
    · (intro ww hSw; (try dsimp only at hSw); have x0 := hSw.1.cell 0 _ rfl; have x1 := hSw.1.cell 1 _ rfl; have x2 := hSw.1.cell 2 _ rfl; have x3 := hSw.1.cell 3 _ rfl; have x4 := hSw.1.cell 4 _ rfl; have x5 := hSw.1.cell 5 _ rfl; have x6 := hSw.1.cell 6 _ rfl; go_simp; try with_reducible rfl)
    refine tkW 7 (some 12) (v := ?_) ?_ hHeld ?_
    rotate_left
    · (intro ww hSw; (try dsimp only at hSw); have x0 := hSw.2.cell 0 _ rfl; have x1 := hSw.2.cell 1 _ rfl; have x2 := hSw.2.cell 2 _ rfl; have x3 := hSw.2.cell 3 _ rfl; have x4 := hSw.2.cell 4 _ rfl; have x5 := hSw.2.cell 5 _ rfl; have x6 := hSw.2.cell 6 _ rfl; go_simp; try with_reducible rfl)
    refine tkW 9 (some 14) (v := ?_) ?_ hHeld ?_
    rotate_left
    · (intro ww hSw; (try dsimp only at hSw); have x0 := hSw.1.cell 0 _ rfl; have x1 := hSw.1.cell 1 _ rfl; have x2 := hSw.1.cell 2 _ rfl; have x3 := hSw.1.cell 3 _ rfl; have x4 := hSw.1.cell 4 _ rfl; have x5 := hSw.1.cell 5 _ rfl; have x6 := hSw.1.cell 6 _ rfl; go_simp; try with_reducible rfl)
    refine tkW 10 (some 15) (v := ?_) ?_ hHeld ?_
    rotate_left
    · (intro ww hSw; (try dsimp only at hSw); have x0 := hSw.2.cell 0 _ rfl; have x1 := hSw.2.cell 1 _ rfl; have x2 := hSw.2.cell 2 _ rfl; have x3 := hSw.2.cell 3 _ rfl; have x4 := hSw.2.cell 4 _ rfl; have x5 := hSw.2.cell 5 _ rfl; have x6 := hSw.2.cell 6 _ rfl; go_simp; try with_reducible rfl)
    refine wpAnyH_ready (rs := [8]) (by kernel_rfl) (by simp) ?_
    refine AllReadyH.cons (o := ⟨some 13, _, _, _, _, _⟩) rfl (fun K hK => ?_) AllReadyH.nil
    go_simp
    refine (wins_any a b _).mono ?_
    rintro e Ub7u3 ⟨rfl, hb⟩
    (try go_wp2_with fail)
    refine hK.out _ _ (⟨hHeld.1.below hb, hHeld.2.below hb⟩) (fun hHeld2 => ?_)
    clear hK K hHeld
    have hHeld := hHeld2
    clear hHeld2
    (try simp only [Act.put, List.setIfInBounds_toArray, List.set_cons_zero, List.set_cons_succ])
    replace HB : Hid (Below w.heap.size w Ub7u3) := HB.out.trans (hb.mono HB.out.size)
    clear hb
    refine wpAnyH_ready (rs := [11]) (by kernel_rfl) (by simp) ?_
    refine AllReadyH.cons (o := ⟨some 16, _, _, _, _, _⟩) rfl (fun K hK => ?_) AllReadyH.nil
    go_simp
    refine (refWins_any a b _).mono ?_
    rintro e Ub7u4 ⟨rfl, hb⟩
    (try go_wp2_with fail)
    refine hK.out _ _ (⟨hHeld.1.below hb, hHeld.2.below hb⟩) (fun hHeld2 => ?_)
    clear hK K hHeld
    have hHeld := hHeld2
    clear hHeld2
    (try simp only [Act.put, List.setIfInBounds_toArray, List.set_cons_zero, List.set_cons_succ])
    replace HB : Hid (Below w.heap.size w Ub7u4) := HB.out.trans (hb.mono HB.out.size)
    clear hb
    refine tkW 12 (some 17) (v := ?_) ?_ hHeld ?_
    rotate_left
    · (intro ww hSw; (try dsimp only at hSw); go_simp; try with_reducible rfl)
    refine tkW 13 (some 18) (v := ?_) ?_ hHeld ?_
    rotate_left
    · (intro ww _; go_simp; try with_reducible rfl)
    refine tkW 14 (some 19) (v := ?_) ?_ hHeld ?_
    rotate_left
    · (intro ww _; go_simp; try with_reducible rfl)
    refine tkW 15 (some 20) (v := ?_) ?_ hHeld ?_
    rotate_left
    · (intro ww hSw; (try dsimp only at hSw); have x0 := hSw.1.cell 0 _ rfl; have x1 := hSw.1.cell 1 _ rfl; have x2 := hSw.1.cell 2 _ rfl; have x3 := hSw.1.cell 3 _ rfl; have x4 := hSw.1.cell 4 _ rfl; have x5 := hSw.1.cell 5 _ rfl; have x6 := hSw.1.cell 6 _ rfl; go_simp; try with_reducible rfl)
    refine tkW 16 (some 21) (v := ?_) ?_ hHeld ?_
    rotate_left
    · (intro ww hSw; (try dsimp only at hSw); have x0 := hSw.1.cell 0 _ rfl; have x1 := hSw.1.cell 1 _ rfl; have x2 := hSw.1.cell 2 _ rfl; have x3 := hSw.1.cell 3 _ rfl; have x4 := hSw.1.cell 4 _ rfl; have x5 := hSw.1.cell 5 _ rfl; have x6 := hSw.1.cell 6 _ rfl; go_simp; try with_reducible rfl)
    refine wpAnyH_ready (rs := [17]) (by kernel_rfl) (by simp) ?_
    refine AllReadyH.cons (o := ⟨some 22, _, _, _, _, _⟩) rfl (fun K hK => ?_) AllReadyH.nil
    go_simp
    refine (wins_any a a _).mono ?_
    rintro e Ub7u5 ⟨rfl, hb⟩
    (try go_wp2_with fail)
    rw [winB_irr a]
    refine hK.out _ _ (⟨hHeld.1.below hb, hHeld.2.below hb⟩) (fun hHeld2 => ?_)
    clear hK K hHeld
    have hHeld := hHeld2
    clear hHeld2
    (try simp only [Act.put, List.setIfInBounds_toArray, List.set_cons_zero, List.set_cons_succ])
    replace HB : Hid (Below w.heap.size w Ub7u5) := HB.out.trans (hb.mono HB.out.size)
    clear hb
    refine tkW 18 (some 23) (v := ?_) ?_ hHeld ?_
    rotate_left
    · (intro ww _; go_simp; try with_reducible rfl)
    refine tkW 19 (some 24) (v := ?_) ?_ hHeld ?_
    rotate_left
    · (intro ww _; go_simp; try with_reducible rfl)
    refine tkW 20 (some 25) (v := ?_) ?_ hHeld ?_
    rotate_left
    · (intro ww _; go_simp; try with_reducible rfl)
    refine tkW 21 (some 26) (v := ?_) ?_ hHeld ?_
    rotate_left
    · (intro ww hSw; (try dsimp only at hSw); have x0 := hSw.1.cell 0 _ rfl; have x1 := hSw.1.cell 1 _ rfl; have x2 := hSw.1.cell 2 _ rfl; have x3 := hSw.1.cell 3 _ rfl; have x4 := hSw.1.cell 4 _ rfl; have x5 := hSw.1.cell 5 _ rfl; have x6 := hSw.1.cell 6 _ rfl; go_simp; try with_reducible rfl)
    refine tkW 22 (some 27) (v := ?_) ?_ hHeld ?_
    rotate_left
    · (intro ww hSw; (try dsimp only at hSw); have x0 := hSw.2.cell 0 _ rfl; have x1 := hSw.2.cell 1 _ rfl; have x2 := hSw.2.cell 2 _ rfl; have x3 := hSw.2.cell 3 _ rfl; have x4 := hSw.2.cell 4 _ rfl; have x5 := hSw.2.cell 5 _ rfl; have x6 := hSw.2.cell 6 _ rfl; go_simp; try with_reducible rfl)
    refine wpAnyH_ready (rs := [23]) (by kernel_rfl) (by simp) ?_
    refine AllReadyH.cons (o := ⟨some 28, _, _, _, _, _⟩) rfl (fun K hK => ?_) AllReadyH.nil
    go_simp
    refine (wins_any a b _).mono ?_
    rintro e Ub7u6 ⟨rfl, hb⟩
    (try go_wp2_with fail)
    rw [HW.out]
    refine hK.out _ _ (⟨hHeld.1.below hb, hHeld.2.below hb⟩) (fun hHeld2 => ?_)
    clear hK K hHeld
    have hHeld := hHeld2
    clear hHeld2
    (try simp only [Act.put, List.setIfInBounds_toArray, List.set_cons_zero, List.set_cons_succ])
    replace HB : Hid (Below w.heap.size w Ub7u6) := HB.out.trans (hb.mono HB.out.size)
    clear hb
    refine tkW 24 (some 29) (v := ?_) ?_ hHeld ?_
    rotate_left
    · (intro ww _; go_simp; try with_reducible rfl)
    refine tkW 25 (some 30) (v := ?_) ?_ hHeld ?_
    rotate_left
    · (intro ww _; go_simp; try with_reducible rfl)
    refine tkU 26 (some 31) hHeld ?_
    refine tkU 27 (some 32) hHeld ?_
    refine tkU 28 (some 33) hHeld ?_
    refine tkU 29 (some 34) hHeld ?_
    refine tkW 30 (some 35) (v := ?_) ?_ hHeld ?_
    rotate_left
    · (intro ww _; go_simp; try with_reducible rfl)
    refine tkW 31 (some 36) (v := ?_) ?_ hHeld ?_
    rotate_left
    · (intro ww _; go_simp; try with_reducible rfl)
    refine tkW 32 (some 37) (v := ?_) ?_ hHeld ?_
    rotate_left
    · (intro ww _; go_simp; try with_reducible rfl)
    refine wpAnyH_ready (rs := [33]) (by kernel_rfl) (by simp) ?_
    refine AllReadyH.cons (o := ⟨some 38, _, _, _, _, _⟩) rfl (fun K hK => ?_) AllReadyH.nil
    go_simp
    refine (awake_any _).mono ?_
    rintro e Ub7u7 ⟨rfl, hb⟩
    (try go_wp2_with fail)
    refine hK.out _ _ (⟨hHeld.1.below hb, hHeld.2.below hb⟩) (fun hHeld2 => ?_)
    clear hK K hHeld
    have hHeld := hHeld2
    clear hHeld2
    (try simp only [Act.put, List.setIfInBounds_toArray, List.set_cons_zero, List.set_cons_succ])
    replace HB : Hid (Below w.heap.size w Ub7u7) := HB.out.trans (hb.mono HB.out.size)
    clear hb
    refine tkW 34 (some 39) (v := ?_) ?_ hHeld ?_
    rotate_left
    · (intro ww _; go_simp; try with_reducible rfl)
    refine tkW 35 (some 4) (v := ?_) ?_ hHeld ?_
    rotate_left
    · (intro ww _; go_simp; try with_reducible rfl)
    refine wpAnyH_done (by kernel_rfl) ?_ _
    clear hHeld
    go_wp2
    go_ret
    exact ⟨rfl, HB.out⟩

end Go.Proofs.Ytoljacnipkibiaa
