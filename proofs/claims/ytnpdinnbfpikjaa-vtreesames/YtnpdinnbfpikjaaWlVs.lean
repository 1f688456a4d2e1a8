/- VtreeSames: which trees are the same. -/
import Derived.Test.YtnpdinnbfpikjaaVtL
import Derived.Test.YtnpdinnbfpikjaaVtU
import Derived.Test.YtnpdinnbfpikjaaVtJ
namespace Go.Proofs.Ytnpdinnbfpikjaa
open Go.RowKit
set_option linter.unusedVariables false
set_option linter.unusedSimpArgs false

set_option maxRecDepth 100000 in
set_option maxHeartbeats 8000000 in
theorem vtreeSames_walk0 (va : Value) (a : VT) (vb : Value) (b : VT) (w : World) (G1 G2 : Nat → Prop) (ha : VIs G1 w va a) (hb : VIs G2 w vb b) :
    Calls Try.prog 5 #[va, vb] w fun e w' => e = .returned (.bool true) ∧ Below w.heap.size w w' := by
  obtain ⟨aa, ca, ak, ck, e1, fa⟩ := ha.form
  obtain ⟨ba, cb, bk, dk, e2, fb⟩ := hb.form
  subst e1 e2
  have HS := hide9 (SmS.start fa fb)
  have hlk := fa.ks.len
  have hll := fb.ks.len
  clear ha hb fa fb
  obtain ⟨W0, eW⟩ : ∃ X, X = (w.alloc (.cells #[.int .i64 a.k.1, .int .i64 a.k.2, .string a.tg, .string a.tx, .slice aa a.at_.length ca, .slice ak a.ks.length ck] 27)).alloc (.cells #[.int .i64 b.k.1, .int .i64 b.k.2, .string b.tg, .string b.tx, .slice ba b.at_.length cb, .slice bk b.ks.length dk] 27) := ⟨_, rfl⟩
  rw [← eW] at HS
  have HE0 := hide9 eW
  clear eW
  obtain ⟨q, eq⟩ : ∃ q, q = eqV a b := ⟨_, rfl⟩
  have HV : Hid (eqV a b = q) := eq.symm
  clear eq hlk hll
  go_enter Try.func5, Try.ntmps5
  go_wp2
  rw [← HE0.out]
  clear HE0
  cases q
  · refine wp_region_held_drew (S := fun W' => SmS w G1 G2 a b aa ca ak ck ba cb bk dk W') (by kernel_rfl) (HS.out.below (Below.refl _ _).drew) (fun hHeld => ?_)
    obtain ⟨Us01u0, eW⟩ : ∃ X, X = W0.drew := ⟨_, rfl⟩
    have hb : Below W0.heap.size W0 Us01u0 := by rw [eW]; exact (Below.refl _ _).drew
    replace HS : Hid (SmS w G1 G2 a b aa ca ak ck ba cb bk dk Us01u0) := HS.out.below hb
    rw [← eW] at hHeld ⊢
    clear eW hb
    refine tkW 0 (some 5) (v := ?_) ?_ hHeld ?_
    rotate_left
    · (intro ww hSw; (try dsimp only at hSw); have a0 := (row6 hSw.b1).1; have a1 := (row6 hSw.b1).2.1; have a2 := (row6 hSw.b1).2.2.1; have a3 := (row6 hSw.b1).2.2.2.1; have a4 := (row6 hSw.b1).2.2.2.2.1; have a5 := (row6 hSw.b1).2.2.2.2.2; go_simp; try with_reducible rfl)
    refine tkW 1 (some 6) (v := ?_) ?_ hHeld ?_
    rotate_left
    · (intro ww hSw; (try dsimp only at hSw); have a0 := (row6 hSw.b2).1; have a1 := (row6 hSw.b2).2.1; have a2 := (row6 hSw.b2).2.2.1; have a3 := (row6 hSw.b2).2.2.2.1; have a4 := (row6 hSw.b2).2.2.2.2.1; have a5 := (row6 hSw.b2).2.2.2.2.2; go_simp; try with_reducible rfl)
    refine tkW 3 (some 8) (v := ?_) ?_ hHeld ?_
    rotate_left
    · (intro ww hSw; (try dsimp only at hSw); have a0 := (row6 hSw.b1).1; have a1 := (row6 hSw.b1).2.1; have a2 := (row6 hSw.b1).2.2.1; have a3 := (row6 hSw.b1).2.2.2.1; have a4 := (row6 hSw.b1).2.2.2.2.1; have a5 := (row6 hSw.b1).2.2.2.2.2; go_simp; try with_reducible rfl)
    refine tkW 4 (some 9) (v := ?_) ?_ hHeld ?_
    rotate_left
    · (intro ww hSw; (try dsimp only at hSw); have a0 := (row6 hSw.b2).1; have a1 := (row6 hSw.b2).2.1; have a2 := (row6 hSw.b2).2.2.1; have a3 := (row6 hSw.b2).2.2.2.1; have a4 := (row6 hSw.b2).2.2.2.2.1; have a5 := (row6 hSw.b2).2.2.2.2.2; go_simp; try with_reducible rfl)
    refine wpAnyH_ready (rs := [2]) (by kernel_rfl) (by simp) ?_
    refine AllReadyH.cons (o := ⟨some 7, _, _, _, _, _⟩) rfl (fun K hK => ?_) AllReadyH.nil
    go_simp
    refine (same_any G1 G2 a b _ _ _ (VIs.of HS.out.fa) (VIs.of HS.out.fb)).mono ?_
    rintro e Us01u1 ⟨rfl, hb⟩
    rw [HV.out]
    (try go_wp2_with fail)
    refine hK.out _ _ (hHeld.below hb) (fun hHeld2 => ?_)
    clear hK K hHeld
    have hHeld := hHeld2
    clear hHeld2
    (try simp only [Act.put, List.setIfInBounds_toArray, List.set_cons_zero, List.set_cons_succ])
    replace HS : Hid (SmS w G1 G2 a b aa ca ak ck ba cb bk dk Us01u1) := HS.out.below hb
    clear hb
    refine wpAnyH_ready (rs := [5]) (by kernel_rfl) (by simp) ?_
    refine AllReadyH.cons (o := ⟨some 10, _, _, _, _, _⟩) rfl (fun K hK => ?_) AllReadyH.nil
    go_simp
    refine (refSame_any G1 G2 a b _ _ _ (VIs.of HS.out.fa) (VIs.of HS.out.fb)).mono ?_
    rintro e Us01u2 ⟨rfl, hb⟩
    rw [HV.out]
    (try go_wp2_with fail)
    refine hK.out _ _ (hHeld.below hb) (fun hHeld2 => ?_)
    clear hK K hHeld
    have hHeld := hHeld2
    clear hHeld2
    (try simp only [Act.put, List.setIfInBounds_toArray, List.set_cons_zero, List.set_cons_succ])
    replace HS : Hid (SmS w G1 G2 a b aa ca ak ck ba cb bk dk Us01u2) := HS.out.below hb
    clear hb
    refine tkW 6 (some 11) (v := ?_) ?_ hHeld ?_
    rotate_left
    · (intro ww hSw; (try dsimp only at hSw); go_simp; try with_reducible rfl)
    refine tkW 7 (some 12) (v := ?_) ?_ hHeld ?_
    rotate_left
    · (intro ww _; go_simp; try with_reducible rfl)
    refine tkW 8 (some 13) (v := ?_) ?_ hHeld ?_
    rotate_left
    · (intro ww hSw; (try dsimp only at hSw); have a0 := (row6 hSw.b1).1; have a1 := (row6 hSw.b1).2.1; have a2 := (row6 hSw.b1).2.2.1; have a3 := (row6 hSw.b1).2.2.2.1; have a4 := (row6 hSw.b1).2.2.2.2.1; have a5 := (row6 hSw.b1).2.2.2.2.2; go_simp; try with_reducible rfl)
    refine tkW 9 (some 14) (v := ?_) ?_ hHeld ?_
    rotate_left
    · (intro ww hSw; (try dsimp only at hSw); have a0 := (row6 hSw.b1).1; have a1 := (row6 hSw.b1).2.1; have a2 := (row6 hSw.b1).2.2.1; have a3 := (row6 hSw.b1).2.2.2.1; have a4 := (row6 hSw.b1).2.2.2.2.1; have a5 := (row6 hSw.b1).2.2.2.2.2; go_simp; try with_reducible rfl)
    refine wpAnyH_ready (rs := [10]) (by kernel_rfl) (by simp) ?_
    refine AllReadyH.cons (o := ⟨some 15, _, _, _, _, _⟩) rfl (fun K hK => ?_) AllReadyH.nil
    go_simp
    refine (refCopy_any G1 a _ _ (VIs.of HS.out.fa)).mono ?_
    rintro e Us01u3 ⟨v7, F7, rfl, hv7, hF7, hb⟩
    obtain ⟨ya, cy, yk, dy, e7, fy⟩ := hv7.form
    subst e7
    have HY : Hid (FdIs F7 Us01u3 (.slice ya a.at_.length cy) (.slice yk a.ks.length dy) a.at_ a.ks) := fy
    clear hv7 hF7 fy
    (try go_wp2_with fail)
    refine hK.out _ _ (hHeld.below hb) (fun hHeld2 => ?_)
    clear hK K hHeld
    have hHeld := hHeld2
    clear hHeld2
    (try simp only [Act.put, List.setIfInBounds_toArray, List.set_cons_zero, List.set_cons_succ])
    replace HS : Hid (SmS w G1 G2 a b aa ca ak ck ba cb bk dk Us01u3) := HS.out.below hb
    clear hb
    refine wpAnyH_ready (rs := [11]) (by kernel_rfl) (by simp) ?_
    refine AllReadyH.cons (o := ⟨some 16, _, _, _, _, _⟩) rfl (fun K hK => ?_) AllReadyH.nil
    go_simp
    refine (same_any G1 F7 a a _ _ _ (VIs.of HS.out.fa) (VIs.of HY.out)).mono ?_
    rintro e Us01u4 ⟨rfl, hb⟩
    rw [eqV_self]
    (try go_wp2_with fail)
    refine hK.out _ _ (hHeld.below hb) (fun hHeld2 => ?_)
    clear hK K hHeld
    have hHeld := hHeld2
    clear hHeld2
    (try simp only [Act.put, List.setIfInBounds_toArray, List.set_cons_zero, List.set_cons_succ])
    replace HS : Hid (SmS w G1 G2 a b aa ca ak ck ba cb bk dk Us01u4) := HS.out.below hb
    replace HY : Hid (FdIs F7 Us01u4 (.slice ya a.at_.length cy) (.slice yk a.ks.length dy) a.at_ a.ks) := HY.out.below hb
    clear hb
    refine tkW 12 (some 17) (v := ?_) ?_ hHeld ?_
    rotate_left
    · (intro ww _; go_simp; try with_reducible rfl)
    refine tkW 13 (some 18) (v := ?_) ?_ hHeld ?_
    rotate_left
    · (intro ww _; go_simp; try with_reducible rfl)
    refine wpAnyH_ready (rs := [14]) (by kernel_rfl) (by simp) ?_
    refine AllReadyH.cons (o := ⟨some 19, _, _, _, _, _⟩) rfl (fun K hK => ?_) AllReadyH.nil
    go_simp
    refine (awake_any _).mono ?_
    rintro e Us01u5 ⟨rfl, hb⟩
    (try go_wp2_with fail)
    refine hK.out _ _ (hHeld.below hb) (fun hHeld2 => ?_)
    clear hK K hHeld
    have hHeld := hHeld2
    clear hHeld2
    (try simp only [Act.put, List.setIfInBounds_toArray, List.set_cons_zero, List.set_cons_succ])
    replace HS : Hid (SmS w G1 G2 a b aa ca ak ck ba cb bk dk Us01u5) := HS.out.below hb
    replace HY : Hid (FdIs F7 Us01u5 (.slice ya a.at_.length cy) (.slice yk a.ks.length dy) a.at_ a.ks) := HY.out.below hb
    clear hb
    refine tkW 15 (some 20) (v := ?_) ?_ hHeld ?_
    rotate_left
    · (intro ww _; go_simp; try with_reducible rfl)
    refine tkW 16 (some 4) (v := ?_) ?_ hHeld ?_
    rotate_left
    · (intro ww _; go_simp; try with_reducible rfl)
    refine wpAnyH_done (by kernel_rfl) ?_ _
    clear hHeld
    go_wp2
    go_ret
    exact ⟨rfl, HS.out.bel⟩
  · refine wp_region_held_drew (S := fun W' => SmS w G1 G2 a b aa ca ak ck ba cb bk dk W') (by kernel_rfl) (HS.out.below (Below.refl _ _).drew) (fun hHeld => ?_)
    obtain ⟨Us12u0, eW⟩ : ∃ X, X = W0.drew := ⟨_, rfl⟩
    have hb : Below W0.heap.size W0 Us12u0 := by rw [eW]; exact (Below.refl _ _).drew
    replace HS : Hid (SmS w G1 G2 a b aa ca ak ck ba cb bk dk Us12u0) := HS.out.below hb
    rw [← eW] at hHeld ⊢
    clear eW hb
    refine tkW 0 (some 5) (v := ?_) ?_ hHeld ?_
    rotate_left
    · (intro ww hSw; (try dsimp only at hSw); have a0 := (row6 hSw.b1).1; have a1 := (row6 hSw.b1).2.1; have a2 := (row6 hSw.b1).2.2.1; have a3 := (row6 hSw.b1).2.2.2.1; have a4 := (row6 hSw.b1).2.2.2.2.1; have a5 := (row6 hSw.b1).2.2.2.2.2; go_simp; try with_reducible rfl)
    refine tkW 1 (some 6) (v := ?_) ?_ hHeld ?_
    rotate_left
    · (intro ww hSw; (try dsimp only at hSw); have a0 := (row6 hSw.b2).1; have a1 := (row6 hSw.b2).2.1; have a2 := (row6 hSw.b2).2.2.1; have a3 := (row6 hSw.b2).2.2.2.1; have a4 := (row6 hSw.b2).2.2.2.2.1; have a5 := (row6 hSw.b2).2.2.2.2.2; go_simp; try with_reducible rfl)
    refine tkW 3 (some 8) (v := ?_) ?_ hHeld ?_
    rotate_left
    · (intro ww hSw; (try dsimp only at hSw); have a0 := (row6 hSw.b1).1; have a1 := (row6 hSw.b1).2.1; have a2 := (row6 hSw.b1).2.2.1; have a3 := (row6 hSw.b1).2.2.2.1; have a4 := (row6 hSw.b1).2.2.2.2.1; have a5 := (row6 hSw.b1).2.2.2.2.2; go_simp; try with_reducible rfl)
    refine tkW 4 (some 9) (v := ?_) ?_ hHeld ?_
    rotate_left
    · (intro ww hSw; (try dsimp only at hSw); have a0 := (row6 hSw.b2).1; have a1 := (row6 hSw.b2).2.1; have a2 := (row6 hSw.b2).2.2.1; have a3 := (row6 hSw.b2).2.2.2.1; have a4 := (row6 hSw.b2).2.2.2.2.1; have a5 := (row6 hSw.b2).2.2.2.2.2; go_simp; try with_reducible rfl)
    refine wpAnyH_ready (rs := [2]) (by kernel_rfl) (by simp) ?_
    refine AllReadyH.cons (o := ⟨some 7, _, _, _, _, _⟩) rfl (fun K hK => ?_) AllReadyH.nil
    go_simp
    refine (same_any G1 G2 a b _ _ _ (VIs.of HS.out.fa) (VIs.of HS.out.fb)).mono ?_
    rintro e Us12u1 ⟨rfl, hb⟩
    rw [HV.out]
    (try go_wp2_with fail)
    refine hK.out _ _ (hHeld.below hb) (fun hHeld2 => ?_)
    clear hK K hHeld
    have hHeld := hHeld2
    clear hHeld2
    (try simp only [Act.put, List.setIfInBounds_toArray, List.set_cons_zero, List.set_cons_succ])
    replace HS : Hid (SmS w G1 G2 a b aa ca ak ck ba cb bk dk Us12u1) := HS.out.below hb
    clear hb
    refine wpAnyH_ready (rs := [5]) (by kernel_rfl) (by simp) ?_
    refine AllReadyH.cons (o := ⟨some 10, _, _, _, _, _⟩) rfl (fun K hK => ?_) AllReadyH.nil
    go_simp
    refine (refSame_any G1 G2 a b _ _ _ (VIs.of HS.out.fa) (VIs.of HS.out.fb)).mono ?_
    rintro e Us12u2 ⟨rfl, hb⟩
    rw [HV.out]
    (try go_wp2_with fail)
    refine hK.out _ _ (hHeld.below hb) (fun hHeld2 => ?_)
    clear hK K hHeld
    have hHeld := hHeld2
    clear hHeld2
    (try simp only [Act.put, List.setIfInBounds_toArray, List.set_cons_zero, List.set_cons_succ])
    replace HS : Hid (SmS w G1 G2 a b aa ca ak ck ba cb bk dk Us12u2) := HS.out.below hb
    clear hb
    refine tkW 6 (some 11) (v := ?_) ?_ hHeld ?_
    rotate_left
    · (intro ww hSw; (try dsimp only at hSw); go_simp; try with_reducible rfl)
    refine tkW 7 (some 12) (v := ?_) ?_ hHeld ?_
    rotate_left
    · (intro ww _; go_simp; try with_reducible rfl)
    refine tkW 8 (some 13) (v := ?_) ?_ hHeld ?_
    rotate_left
    · (intro ww hSw; (try dsimp only at hSw); have a0 := (row6 hSw.b1).1; have a1 := (row6 hSw.b1).2.1; have a2 := (row6 hSw.b1).2.2.1; have a3 := (row6 hSw.b1).2.2.2.1; have a4 := (row6 hSw.b1).2.2.2.2.1; have a5 := (row6 hSw.b1).2.2.2.2.2; go_simp; try with_reducible rfl)
    refine tkW 9 (some 14) (v := ?_) ?_ hHeld ?_
    rotate_left
    · (intro ww hSw; (try dsimp only at hSw); have a0 := (row6 hSw.b1).1; have a1 := (row6 hSw.b1).2.1; have a2 := (row6 hSw.b1).2.2.1; have a3 := (row6 hSw.b1).2.2.2.1; have a4 := (row6 hSw.b1).2.2.2.2.1; have a5 := (row6 hSw.b1).2.2.2.2.2; go_simp; try with_reducible rfl)
    refine wpAnyH_ready (rs := [10]) (by kernel_rfl) (by simp) ?_
    refine AllReadyH.cons (o := ⟨some 15, _, _, _, _, _⟩) rfl (fun K hK => ?_) AllReadyH.nil
    go_simp
    refine (refCopy_any G1 a _ _ (VIs.of HS.out.fa)).mono ?_
    rintro e Us12u3 ⟨v7, F7, rfl, hv7, hF7, hb⟩
    obtain ⟨ya, cy, yk, dy, e7, fy⟩ := hv7.form
    subst e7
    have HY : Hid (FdIs F7 Us12u3 (.slice ya a.at_.length cy) (.slice yk a.ks.length dy) a.at_ a.ks) := fy
    clear hv7 hF7 fy
    (try go_wp2_with fail)
    refine hK.out _ _ (hHeld.below hb) (fun hHeld2 => ?_)
    clear hK K hHeld
    have hHeld := hHeld2
    clear hHeld2
    (try simp only [Act.put, List.setIfInBounds_toArray, List.set_cons_zero, List.set_cons_succ])
    replace HS : Hid (SmS w G1 G2 a b aa ca ak ck ba cb bk dk Us12u3) := HS.out.below hb
    clear hb
    refine wpAnyH_ready (rs := [11]) (by kernel_rfl) (by simp) ?_
    refine AllReadyH.cons (o := ⟨some 16, _, _, _, _, _⟩) rfl (fun K hK => ?_) AllReadyH.nil
    go_simp
    refine (same_any G1 F7 a a _ _ _ (VIs.of HS.out.fa) (VIs.of HY.out)).mono ?_
    rintro e Us12u4 ⟨rfl, hb⟩
    rw [eqV_self]
    (try go_wp2_with fail)
    refine hK.out _ _ (hHeld.below hb) (fun hHeld2 => ?_)
    clear hK K hHeld
    have hHeld := hHeld2
    clear hHeld2
    (try simp only [Act.put, List.setIfInBounds_toArray, List.set_cons_zero, List.set_cons_succ])
    replace HS : Hid (SmS w G1 G2 a b aa ca ak ck ba cb bk dk Us12u4) := HS.out.below hb
    replace HY : Hid (FdIs F7 Us12u4 (.slice ya a.at_.length cy) (.slice yk a.ks.length dy) a.at_ a.ks) := HY.out.below hb
    clear hb
    refine tkW 12 (some 17) (v := ?_) ?_ hHeld ?_
    rotate_left
    · (intro ww _; go_simp; try with_reducible rfl)
    refine tkW 13 (some 18) (v := ?_) ?_ hHeld ?_
    rotate_left
    · (intro ww _; go_simp; try with_reducible rfl)
    refine wpAnyH_ready (rs := [14]) (by kernel_rfl) (by simp) ?_
    refine AllReadyH.cons (o := ⟨some 19, _, _, _, _, _⟩) rfl (fun K hK => ?_) AllReadyH.nil
    go_simp
    refine (awake_any _).mono ?_
    rintro e Us12u5 ⟨rfl, hb⟩
    (try go_wp2_with fail)
    refine hK.out _ _ (hHeld.below hb) (fun hHeld2 => ?_)
    clear hK K hHeld
    have hHeld := hHeld2
    clear hHeld2
    (try simp only [Act.put, List.setIfInBounds_toArray, List.set_cons_zero, List.set_cons_succ])
    replace HS : Hid (SmS w G1 G2 a b aa ca ak ck ba cb bk dk Us12u5) := HS.out.below hb
    replace HY : Hid (FdIs F7 Us12u5 (.slice ya a.at_.length cy) (.slice yk a.ks.length dy) a.at_ a.ks) := HY.out.below hb
    clear hb
    refine tkW 15 (some 20) (v := ?_) ?_ hHeld ?_
    rotate_left
    · (intro ww _; go_simp; try with_reducible rfl)
    refine tkW 16 (some 4) (v := ?_) ?_ hHeld ?_
    rotate_left
    · (intro ww _; go_simp; try with_reducible rfl)
    refine wpAnyH_done (by kernel_rfl) ?_ _
    clear hHeld
    go_wp2
    go_ret
    exact ⟨rfl, HS.out.bel⟩

theorem vtreeSames_walk (va : Value) (a : VT) (vb : Value) (b : VT) (w : World) (ha : VIs (fun _ => True) w va a) (hb : VIs (fun _ => True) w vb b) :
    Calls Try.prog 5 #[va, vb] w fun e w' => e = .returned (.bool true) ∧ Below w.heap.size w w' := vtreeSames_walk0 va a vb b w _ _ ha hb

end Go.Proofs.Ytnpdinnbfpikjaa
