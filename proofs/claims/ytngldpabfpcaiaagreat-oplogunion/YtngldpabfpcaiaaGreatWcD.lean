/- What checkDeps and Check do, for every change. -/
import Derived.Test.YtngldpabfpcaiaaGreatTk
import Derived.Test.YtngldpabfpcaiaaGreatWcW
import Derived.Test.YtngldpabfpcaiaaGreatWcP
import Derived.Test.YtngldpabfpcaiaaGreatCkU
namespace Go.Proofs.YtngldpabfpcaiaaGreat
open Go.RowKit
set_option linter.unusedVariables false
set_option linter.unusedSimpArgs false

set_option maxRecDepth 100000 in
set_option maxHeartbeats 4000000 in
theorem checkDeps_any (ac ar sq : Int) (dv : Value) (kd nc nr pc pr fc fr : Int) (nm vl : ByteArray) (ds : List Int) (w : World) (h1 : IsI w dv ds) (s1 : 1 ≤ sq) (s2 : sq ≤ 1099511627776) :
    Calls Tryz.prog 58 #[.agg #[.int .i64 ac, .int .i64 ar, .int .i64 sq, dv, .int .i64 kd, .int .i64 nc, .int .i64 nr, .int .i64 pc, .int .i64 pr, .int .i64 fc, .int .i64 fr, .string nm, .string vl]] w fun e w' => e = .returned (.int .i64 (depsE ⟨ac, ar, sq, ds, kd, nc, nr, pc, pr, fc, fr, nm, vl⟩)) ∧ Below w.heap.size w w' := by
  have hwr : IntKind.i64.wrap (sq - 1) = sq - 1 := by rw [IntKind.wrap_i64]; omega
  have K0 := KeptC.start w #[.int .i64 ac, .int .i64 ar, .int .i64 sq, dv, .int .i64 kd, .int .i64 nc, .int .i64 nr, .int .i64 pc, .int .i64 pr, .int .i64 fc, .int .i64 fr, .string nm, .string vl].toList 38
  have H1 : Hid (IsI w dv ds) := h1
  have H1b : Hid (IsI (w.alloc (.cells #[.int .i64 ac, .int .i64 ar, .int .i64 sq, dv, .int .i64 kd, .int .i64 nc, .int .i64 nr, .int .i64 pc, .int .i64 pr, .int .i64 fc, .int .i64 fr, .string nm, .string vl] 38)) dv ds) := h1.below K0.2.2
  obtain ⟨a1, c1, e1⟩ := h1.form
  subst e1
  clear h1
  by_cases hc : checkL ds = 0
  · by_cases hl : (trimL ds).length = ds.length
    · by_cases ha : atL ds ar = sq - 1
      · have HE : Hid (depsE ⟨ac, ar, sq, ds, kd, nc, nr, pc, pr, fc, fr, nm, vl⟩ = 0) := by show _ = _; simp [depsE, hc, hl, ha]
        have q1 : (((trimL ds).length : Int) != (ds.length : Int)) = false := by simp [hl]
        have q2 : (atL ds ar != sq - 1) = false := by simp [ha]
        clear hl ha
        go_enter Tryz.func58, Tryz.ntmps58
        go_wp2_with fail
        refine (check_any _ ds _ H1b.out).mono ?_
        rintro e w' ⟨rfl, hw⟩
        replace hw := hw.symm
        subst hw
        rw [hc]
        go_wp2_with fail
        have K1 := K0.drew
        refine wp_region_held_drew (S := fun W' => KeptC w w.heap.size #[.int .i64 ac, .int .i64 ar, .int .i64 sq, .slice a1 ds.length c1, .int .i64 kd, .int .i64 nc, .int .i64 nr, .int .i64 pc, .int .i64 pr, .int .i64 fc, .int .i64 fr, .string nm, .string vl].toList W') (by kernel_rfl) K1 (fun hHeld => ?_)
        refine tkW 0 (some 10) (v := ?_) ?_ hHeld ?_
        rotate_left
        · (intro w hSw; (try dsimp only at hSw); have hc3 := hSw.1 3 _ rfl; have hc1 := hSw.1 1 _ rfl; have hc2 := hSw.1 2 _ rfl; go_simp; try with_reducible rfl)
        refine tkW 1 (some 11) (v := ?_) ?_ hHeld ?_
        rotate_left
        · (intro w hSw; (try dsimp only at hSw); have hc3 := hSw.1 3 _ rfl; have hc1 := hSw.1 1 _ rfl; have hc2 := hSw.1 2 _ rfl; go_simp; try with_reducible rfl)
        refine tkW 4 (some 14) (v := ?_) ?_ hHeld ?_
        rotate_left
        · (intro w hSw; (try dsimp only at hSw); have hc3 := hSw.1 3 _ rfl; have hc1 := hSw.1 1 _ rfl; have hc2 := hSw.1 2 _ rfl; go_simp; try with_reducible rfl)
        refine tkW 5 (some 15) (v := ?_) ?_ hHeld ?_
        rotate_left
        · (intro w hSw; (try dsimp only at hSw); have hc3 := hSw.1 3 _ rfl; have hc1 := hSw.1 1 _ rfl; have hc2 := hSw.1 2 _ rfl; go_simp; try with_reducible rfl)
        refine tkW 6 (some 16) (v := ?_) ?_ hHeld ?_
        rotate_left
        · (intro w hSw; (try dsimp only at hSw); have hc3 := hSw.1 3 _ rfl; have hc1 := hSw.1 1 _ rfl; have hc2 := hSw.1 2 _ rfl; go_simp; try with_reducible rfl)
        refine wpAnyH_ready (rs := [2]) (by kernel_rfl) (by simp) ?_
        refine AllReadyH.cons (o := ⟨some 12, _, _, _, _, _⟩) rfl (fun K hK => ?_) AllReadyH.nil
        go_simp
        have hk3 := hHeld.1 3 _ rfl
        refine (trim_any _ ds _ (H1.out.below hHeld.2.2)).mono ?_
        rintro e w' ⟨v4, rfl, ho4, hb⟩
        obtain ⟨a4, c4, rfl⟩ := ho4.form
        (try go_wp2_with fail)
        refine hK.out _ _ (hHeld.step hb) (fun hHeld2 => ?_)
        clear hK K hHeld
        have hHeld := hHeld2
        clear hHeld2
        (try simp only [Act.put, List.setIfInBounds_toArray, List.set_cons_zero, List.set_cons_succ])
        refine tkW 3 (some 13) (v := ?_) ?_ hHeld ?_
        rotate_left
        · (intro w hSw; (try dsimp only at hSw); have hc3 := hSw.1 3 _ rfl; have hc1 := hSw.1 1 _ rfl; have hc2 := hSw.1 2 _ rfl; go_simp; try with_reducible rfl)
        refine tkW 7 (some 17) (v := ?_) ?_ hHeld ?_
        rotate_left
        · (intro w hSw; (try dsimp only at hSw); have hc3 := hSw.1 3 _ rfl; have hc1 := hSw.1 1 _ rfl; have hc2 := hSw.1 2 _ rfl; go_simp; try with_reducible rfl)
        refine tkW 8 (some 18) (v := ?_) ?_ hHeld ?_
        rotate_left
        · (intro w hSw; (try dsimp only at hSw); have hc3 := hSw.1 3 _ rfl; have hc1 := hSw.1 1 _ rfl; have hc2 := hSw.1 2 _ rfl; go_simp; try with_reducible rfl)
        refine tkW 9 (some 19) (v := ?_) ?_ hHeld ?_
        rotate_left
        · (intro w hSw; (try dsimp only at hSw); have hc3 := hSw.1 3 _ rfl; have hc1 := hSw.1 1 _ rfl; have hc2 := hSw.1 2 _ rfl; go_simp; try with_reducible rfl)
        refine tkW 10 (some 20) (v := ?_) ?_ hHeld ?_
        rotate_left
        · (intro w hSw; (try dsimp only at hSw); have hc3 := hSw.1 3 _ rfl; have hc1 := hSw.1 1 _ rfl; have hc2 := hSw.1 2 _ rfl; go_simp; try with_reducible rfl)
        refine tkW 11 (some 21) (v := ?_) ?_ hHeld ?_
        rotate_left
        · (intro w hSw; (try dsimp only at hSw); have hc3 := hSw.1 3 _ rfl; have hc1 := hSw.1 1 _ rfl; have hc2 := hSw.1 2 _ rfl; go_simp; try with_reducible rfl)
        refine tkW 12 (some 22) (v := ?_) ?_ hHeld ?_
        rotate_left
        · (intro w hSw; (try dsimp only at hSw); have hc3 := hSw.1 3 _ rfl; have hc1 := hSw.1 1 _ rfl; have hc2 := hSw.1 2 _ rfl; go_simp; try with_reducible rfl)
        refine tkW 13 (some 23) (v := ?_) ?_ hHeld ?_
        rotate_left
        · (intro w hSw; (try dsimp only at hSw); have hc3 := hSw.1 3 _ rfl; have hc1 := hSw.1 1 _ rfl; have hc2 := hSw.1 2 _ rfl; go_simp; try with_reducible rfl)
        refine tkW 15 (some 25) (v := ?_) ?_ hHeld ?_
        rotate_left
        · (intro w hSw; (try dsimp only at hSw); have hc3 := hSw.1 3 _ rfl; have hc1 := hSw.1 1 _ rfl; have hc2 := hSw.1 2 _ rfl; go_simp; try with_reducible rfl)
        refine tkW 16 (some 26) (v := ?_) ?_ hHeld ?_
        rotate_left
        · (intro w hSw; (try dsimp only at hSw); have hc3 := hSw.1 3 _ rfl; have hc1 := hSw.1 1 _ rfl; have hc2 := hSw.1 2 _ rfl; go_simp; try with_reducible rfl)
        refine tkW 17 (some 27) (v := ?_) ?_ hHeld ?_
        rotate_left
        · (intro w hSw; (try dsimp only at hSw); have hc3 := hSw.1 3 _ rfl; have hc1 := hSw.1 1 _ rfl; have hc2 := hSw.1 2 _ rfl; go_simp; try with_reducible rfl)
        refine wpAnyH_ready (rs := [14]) (by kernel_rfl) (by simp) ?_
        refine AllReadyH.cons (o := ⟨some 24, _, _, _, _, _⟩) rfl (fun K hK => ?_) AllReadyH.nil
        go_simp
        have hk3 := hHeld.1 3 _ rfl
        refine (at_any _ ds ar _ (H1.out.below hHeld.2.2)).mono ?_
        rintro e w' ⟨rfl, hw⟩
        replace hw := hw.symm
        subst hw
        (try go_wp2_with fail)
        refine hK.out _ _ (hHeld) (fun hHeld2 => ?_)
        clear hK K hHeld
        have hHeld := hHeld2
        clear hHeld2
        (try simp only [Act.put, List.setIfInBounds_toArray, List.set_cons_zero, List.set_cons_succ])
        refine tkW 18 (some 28) (v := ?_) ?_ hHeld ?_
        rotate_left
        · (intro w hSw; (try dsimp only at hSw); have hc3 := hSw.1 3 _ rfl; have hc1 := hSw.1 1 _ rfl; have hc2 := hSw.1 2 _ rfl; go_simp; try with_reducible rfl)
        refine tkW 19 (some 29) (v := ?_) ?_ hHeld ?_
        rotate_left
        · (intro w hSw; (try dsimp only at hSw); have hc3 := hSw.1 3 _ rfl; have hc1 := hSw.1 1 _ rfl; have hc2 := hSw.1 2 _ rfl; go_simp; try with_reducible rfl)
        refine wpAnyH_done (by kernel_rfl) ?_ _
        have kb := hHeld.2.2
        clear hHeld
        go_wp2
        go_ret
        exact ⟨ret_i HE.out.symm, kb⟩
      · have HE : Hid (depsE ⟨ac, ar, sq, ds, kd, nc, nr, pc, pr, fc, fr, nm, vl⟩ = 2) := by show _ = _; simp [depsE, hc, hl, ha]
        have q1 : (((trimL ds).length : Int) != (ds.length : Int)) = false := by simp [hl]
        have q2 : (atL ds ar != sq - 1) = true := by simp [ha]
        clear hl ha
        go_enter Tryz.func58, Tryz.ntmps58
        go_wp2_with fail
        refine (check_any _ ds _ H1b.out).mono ?_
        rintro e w' ⟨rfl, hw⟩
        replace hw := hw.symm
        subst hw
        rw [hc]
        go_wp2_with fail
        have K1 := K0.drew
        refine wp_region_held_drew (S := fun W' => KeptC w w.heap.size #[.int .i64 ac, .int .i64 ar, .int .i64 sq, .slice a1 ds.length c1, .int .i64 kd, .int .i64 nc, .int .i64 nr, .int .i64 pc, .int .i64 pr, .int .i64 fc, .int .i64 fr, .string nm, .string vl].toList W') (by kernel_rfl) K1 (fun hHeld => ?_)
        refine tkW 0 (some 10) (v := ?_) ?_ hHeld ?_
        rotate_left
        · (intro w hSw; (try dsimp only at hSw); have hc3 := hSw.1 3 _ rfl; have hc1 := hSw.1 1 _ rfl; have hc2 := hSw.1 2 _ rfl; go_simp; try with_reducible rfl)
        refine tkW 1 (some 11) (v := ?_) ?_ hHeld ?_
        rotate_left
        · (intro w hSw; (try dsimp only at hSw); have hc3 := hSw.1 3 _ rfl; have hc1 := hSw.1 1 _ rfl; have hc2 := hSw.1 2 _ rfl; go_simp; try with_reducible rfl)
        refine tkW 4 (some 14) (v := ?_) ?_ hHeld ?_
        rotate_left
        · (intro w hSw; (try dsimp only at hSw); have hc3 := hSw.1 3 _ rfl; have hc1 := hSw.1 1 _ rfl; have hc2 := hSw.1 2 _ rfl; go_simp; try with_reducible rfl)
        refine tkW 5 (some 15) (v := ?_) ?_ hHeld ?_
        rotate_left
        · (intro w hSw; (try dsimp only at hSw); have hc3 := hSw.1 3 _ rfl; have hc1 := hSw.1 1 _ rfl; have hc2 := hSw.1 2 _ rfl; go_simp; try with_reducible rfl)
        refine tkW 6 (some 16) (v := ?_) ?_ hHeld ?_
        rotate_left
        · (intro w hSw; (try dsimp only at hSw); have hc3 := hSw.1 3 _ rfl; have hc1 := hSw.1 1 _ rfl; have hc2 := hSw.1 2 _ rfl; go_simp; try with_reducible rfl)
        refine wpAnyH_ready (rs := [2]) (by kernel_rfl) (by simp) ?_
        refine AllReadyH.cons (o := ⟨some 12, _, _, _, _, _⟩) rfl (fun K hK => ?_) AllReadyH.nil
        go_simp
        have hk3 := hHeld.1 3 _ rfl
        refine (trim_any _ ds _ (H1.out.below hHeld.2.2)).mono ?_
        rintro e w' ⟨v4, rfl, ho4, hb⟩
        obtain ⟨a4, c4, rfl⟩ := ho4.form
        (try go_wp2_with fail)
        refine hK.out _ _ (hHeld.step hb) (fun hHeld2 => ?_)
        clear hK K hHeld
        have hHeld := hHeld2
        clear hHeld2
        (try simp only [Act.put, List.setIfInBounds_toArray, List.set_cons_zero, List.set_cons_succ])
        refine tkW 3 (some 13) (v := ?_) ?_ hHeld ?_
        rotate_left
        · (intro w hSw; (try dsimp only at hSw); have hc3 := hSw.1 3 _ rfl; have hc1 := hSw.1 1 _ rfl; have hc2 := hSw.1 2 _ rfl; go_simp; try with_reducible rfl)
        refine tkW 7 (some 17) (v := ?_) ?_ hHeld ?_
        rotate_left
        · (intro w hSw; (try dsimp only at hSw); have hc3 := hSw.1 3 _ rfl; have hc1 := hSw.1 1 _ rfl; have hc2 := hSw.1 2 _ rfl; go_simp; try with_reducible rfl)
        refine tkW 8 (some 18) (v := ?_) ?_ hHeld ?_
        rotate_left
        · (intro w hSw; (try dsimp only at hSw); have hc3 := hSw.1 3 _ rfl; have hc1 := hSw.1 1 _ rfl; have hc2 := hSw.1 2 _ rfl; go_simp; try with_reducible rfl)
        refine tkW 9 (some 19) (v := ?_) ?_ hHeld ?_
        rotate_left
        · (intro w hSw; (try dsimp only at hSw); have hc3 := hSw.1 3 _ rfl; have hc1 := hSw.1 1 _ rfl; have hc2 := hSw.1 2 _ rfl; go_simp; try with_reducible rfl)
        refine tkW 10 (some 20) (v := ?_) ?_ hHeld ?_
        rotate_left
        · (intro w hSw; (try dsimp only at hSw); have hc3 := hSw.1 3 _ rfl; have hc1 := hSw.1 1 _ rfl; have hc2 := hSw.1 2 _ rfl; go_simp; try with_reducible rfl)
        refine tkW 11 (some 21) (v := ?_) ?_ hHeld ?_
        rotate_left
        · (intro w hSw; (try dsimp only at hSw); have hc3 := hSw.1 3 _ rfl; have hc1 := hSw.1 1 _ rfl; have hc2 := hSw.1 2 _ rfl; go_simp; try with_reducible rfl)
        refine tkW 12 (some 22) (v := ?_) ?_ hHeld ?_
        rotate_left
        · (intro w hSw; (try dsimp only at hSw); have hc3 := hSw.1 3 _ rfl; have hc1 := hSw.1 1 _ rfl; have hc2 := hSw.1 2 _ rfl; go_simp; try with_reducible rfl)
        refine tkW 13 (some 23) (v := ?_) ?_ hHeld ?_
        rotate_left
        · (intro w hSw; (try dsimp only at hSw); have hc3 := hSw.1 3 _ rfl; have hc1 := hSw.1 1 _ rfl; have hc2 := hSw.1 2 _ rfl; go_simp; try with_reducible rfl)
        refine tkW 15 (some 25) (v := ?_) ?_ hHeld ?_
        rotate_left
        · (intro w hSw; (try dsimp only at hSw); have hc3 := hSw.1 3 _ rfl; have hc1 := hSw.1 1 _ rfl; have hc2 := hSw.1 2 _ rfl; go_simp; try with_reducible rfl)
        refine tkW 16 (some 26) (v := ?_) ?_ hHeld ?_
        rotate_left
        · (intro w hSw; (try dsimp only at hSw); have hc3 := hSw.1 3 _ rfl; have hc1 := hSw.1 1 _ rfl; have hc2 := hSw.1 2 _ rfl; go_simp; try with_reducible rfl)
        refine tkW 17 (some 27) (v := ?_) ?_ hHeld ?_
        rotate_left
        · (intro w hSw; (try dsimp only at hSw); have hc3 := hSw.1 3 _ rfl; have hc1 := hSw.1 1 _ rfl; have hc2 := hSw.1 2 _ rfl; go_simp; try with_reducible rfl)
        refine wpAnyH_ready (rs := [14]) (by kernel_rfl) (by simp) ?_
        refine AllReadyH.cons (o := ⟨some 24, _, _, _, _, _⟩) rfl (fun K hK => ?_) AllReadyH.nil
        go_simp
        have hk3 := hHeld.1 3 _ rfl
        refine (at_any _ ds ar _ (H1.out.below hHeld.2.2)).mono ?_
        rintro e w' ⟨rfl, hw⟩
        replace hw := hw.symm
        subst hw
        (try go_wp2_with fail)
        refine hK.out _ _ (hHeld) (fun hHeld2 => ?_)
        clear hK K hHeld
        have hHeld := hHeld2
        clear hHeld2
        (try simp only [Act.put, List.setIfInBounds_toArray, List.set_cons_zero, List.set_cons_succ])
        refine tkW 18 (some 28) (v := ?_) ?_ hHeld ?_
        rotate_left
        · (intro w hSw; (try dsimp only at hSw); have hc3 := hSw.1 3 _ rfl; have hc1 := hSw.1 1 _ rfl; have hc2 := hSw.1 2 _ rfl; go_simp; try with_reducible rfl)
        refine tkW 19 (some 29) (v := ?_) ?_ hHeld ?_
        rotate_left
        · (intro w hSw; (try dsimp only at hSw); have hc3 := hSw.1 3 _ rfl; have hc1 := hSw.1 1 _ rfl; have hc2 := hSw.1 2 _ rfl; go_simp; try with_reducible rfl)
        refine wpAnyH_done (by kernel_rfl) ?_ _
        have kb := hHeld.2.2
        clear hHeld
        go_wp2
        go_ret
        exact ⟨ret_i HE.out.symm, kb⟩
    · have HE : Hid (depsE ⟨ac, ar, sq, ds, kd, nc, nr, pc, pr, fc, fr, nm, vl⟩ = 2) := by show _ = _; simp [depsE, hc, hl]
      have q1 : (((trimL ds).length : Int) != (ds.length : Int)) = true := by simp; omega
      clear hl
      go_enter Tryz.func58, Tryz.ntmps58
      go_wp2_with fail
      refine (check_any _ ds _ H1b.out).mono ?_
      rintro e w' ⟨rfl, hw⟩
      replace hw := hw.symm
      subst hw
      rw [hc]
      go_wp2_with fail
      have K1 := K0.drew
      refine wp_region_held_drew (S := fun W' => KeptC w w.heap.size #[.int .i64 ac, .int .i64 ar, .int .i64 sq, .slice a1 ds.length c1, .int .i64 kd, .int .i64 nc, .int .i64 nr, .int .i64 pc, .int .i64 pr, .int .i64 fc, .int .i64 fr, .string nm, .string vl].toList W') (by kernel_rfl) K1 (fun hHeld => ?_)
      refine tkW 0 (some 10) (v := ?_) ?_ hHeld ?_
      rotate_left
      · (intro w hSw; (try dsimp only at hSw); have hc3 := hSw.1 3 _ rfl; have hc1 := hSw.1 1 _ rfl; have hc2 := hSw.1 2 _ rfl; go_simp; try with_reducible rfl)
      refine tkW 1 (some 11) (v := ?_) ?_ hHeld ?_
      rotate_left
      · (intro w hSw; (try dsimp only at hSw); have hc3 := hSw.1 3 _ rfl; have hc1 := hSw.1 1 _ rfl; have hc2 := hSw.1 2 _ rfl; go_simp; try with_reducible rfl)
      refine tkW 4 (some 14) (v := ?_) ?_ hHeld ?_
      rotate_left
      · (intro w hSw; (try dsimp only at hSw); have hc3 := hSw.1 3 _ rfl; have hc1 := hSw.1 1 _ rfl; have hc2 := hSw.1 2 _ rfl; go_simp; try with_reducible rfl)
      refine tkW 5 (some 15) (v := ?_) ?_ hHeld ?_
      rotate_left
      · (intro w hSw; (try dsimp only at hSw); have hc3 := hSw.1 3 _ rfl; have hc1 := hSw.1 1 _ rfl; have hc2 := hSw.1 2 _ rfl; go_simp; try with_reducible rfl)
      refine tkW 6 (some 16) (v := ?_) ?_ hHeld ?_
      rotate_left
      · (intro w hSw; (try dsimp only at hSw); have hc3 := hSw.1 3 _ rfl; have hc1 := hSw.1 1 _ rfl; have hc2 := hSw.1 2 _ rfl; go_simp; try with_reducible rfl)
      refine wpAnyH_ready (rs := [2]) (by kernel_rfl) (by simp) ?_
      refine AllReadyH.cons (o := ⟨some 12, _, _, _, _, _⟩) rfl (fun K hK => ?_) AllReadyH.nil
      go_simp
      have hk3 := hHeld.1 3 _ rfl
      refine (trim_any _ ds _ (H1.out.below hHeld.2.2)).mono ?_
      rintro e w' ⟨v4, rfl, ho4, hb⟩
      obtain ⟨a4, c4, rfl⟩ := ho4.form
      (try go_wp2_with fail)
      refine hK.out _ _ (hHeld.step hb) (fun hHeld2 => ?_)
      clear hK K hHeld
      have hHeld := hHeld2
      clear hHeld2
      (try simp only [Act.put, List.setIfInBounds_toArray, List.set_cons_zero, List.set_cons_succ])
      refine tkW 3 (some 13) (v := ?_) ?_ hHeld ?_
      rotate_left
      · (intro w hSw; (try dsimp only at hSw); have hc3 := hSw.1 3 _ rfl; have hc1 := hSw.1 1 _ rfl; have hc2 := hSw.1 2 _ rfl; go_simp; try with_reducible rfl)
      refine tkW 7 (some 17) (v := ?_) ?_ hHeld ?_
      rotate_left
      · (intro w hSw; (try dsimp only at hSw); have hc3 := hSw.1 3 _ rfl; have hc1 := hSw.1 1 _ rfl; have hc2 := hSw.1 2 _ rfl; go_simp; try with_reducible rfl)
      refine tkW 8 (some 18) (v := ?_) ?_ hHeld ?_
      rotate_left
      · (intro w hSw; (try dsimp only at hSw); have hc3 := hSw.1 3 _ rfl; have hc1 := hSw.1 1 _ rfl; have hc2 := hSw.1 2 _ rfl; go_simp; try with_reducible rfl)
      refine tkU 9 (some 19) hHeld ?_
      refine tkU 10 (some 20) hHeld ?_
      refine tkU 11 (some 21) hHeld ?_
      refine tkU 12 (some 22) hHeld ?_
      refine tkU 13 (some 23) hHeld ?_
      refine tkU 14 (some 24) hHeld ?_
      refine tkU 15 (some 25) hHeld ?_
      refine tkU 16 (some 26) hHeld ?_
      refine tkU 17 (some 27) hHeld ?_
      refine tkU 18 (some 28) hHeld ?_
      refine tkW 19 (some 29) (v := ?_) ?_ hHeld ?_
      rotate_left
      · (intro w hSw; (try dsimp only at hSw); have hc3 := hSw.1 3 _ rfl; have hc1 := hSw.1 1 _ rfl; have hc2 := hSw.1 2 _ rfl; go_simp; try with_reducible rfl)
      refine wpAnyH_done (by kernel_rfl) ?_ _
      have kb := hHeld.2.2
      clear hHeld
      go_wp2
      go_ret
      exact ⟨ret_i HE.out.symm, kb⟩
  · have HE : Hid (depsE ⟨ac, ar, sq, ds, kd, nc, nr, pc, pr, fc, fr, nm, vl⟩ = checkL ds) := by show _ = _; simp [depsE, hc]
    have q : (checkL ds != 0) = true := by simp [hc]
    clear hc
    go_enter Tryz.func58, Tryz.ntmps58
    go_wp2_with fail
    refine (check_any _ ds _ H1b.out).mono ?_
    rintro e w' ⟨rfl, hw⟩
    replace hw := hw.symm
    subst hw
    go_wp2
    go_ret
    exact ⟨ret_i HE.out.symm, K0.2.2⟩

end Go.Proofs.YtngldpabfpcaiaaGreat
