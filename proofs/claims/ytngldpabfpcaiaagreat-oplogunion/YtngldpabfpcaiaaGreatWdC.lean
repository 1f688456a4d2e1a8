/- What the document's Check does, of any change. -/
import Derived.Test.YtngldpabfpcaiaaGreatTk
import Derived.Test.YtngldpabfpcaiaaGreatWdB
import Derived.Test.YtngldpabfpcaiaaGreatCkU
namespace Go.Proofs.YtngldpabfpcaiaaGreat
open Go.RowKit
set_option linter.unusedVariables false
set_option linter.unusedSimpArgs false

set_option maxRecDepth 100000 in
set_option maxHeartbeats 16000000 in
/-- The document's Check. -/
theorem refCheckCh_any (ac ar sq : Int) (dv : Value) (kd nc nr pc pr fc fr : Int) (nm vl : ByteArray) (ds : List Int) (hs : nm.size ≤ 281474976710656) (w : World) (h1 : IsI w dv ds) :
    Calls Tryz.prog 49 #[.agg #[.int .i64 ac, .int .i64 ar, .int .i64 sq, dv, .int .i64 kd, .int .i64 nc, .int .i64 nr, .int .i64 pc, .int .i64 pr, .int .i64 fc, .int .i64 fr, .string nm, .string vl]] w fun e w' => e = .returned (.int .i64 (checkCh ⟨ac, ar, sq, ds, kd, nc, nr, pc, pr, fc, fr, nm, vl⟩)) ∧ Below w.heap.size w w' := by
  obtain ⟨a1, c1, e1⟩ := h1.form
  subst e1
  have K0 := KeptC.start w [.int .i64 ac, .int .i64 ar, .int .i64 sq, .slice a1 ds.length c1, .int .i64 kd, .int .i64 nc, .int .i64 nr, .int .i64 pc, .int .i64 pr, .int .i64 fc, .int .i64 fr, .string nm, .string vl] 38
  have H1 : Hid (IsI w (.slice a1 ds.length c1) ds) := h1
  clear h1
  by_cases g1 : 1 ≤ kd
  · by_cases g2 : kd ≤ 5
    · have h0 : kindB kd = true := by simp [kindB, g1, g2]
      cases hr : rightB ac ar
      · have HE : Hid (checkCh ⟨ac, ar, sq, ds, kd, nc, nr, pc, pr, fc, fr, nm, vl⟩ = 2) := by show _ = _; simp [checkCh, h0, hr]
        go_enter Tryz.func49, Tryz.ntmps49
        go_wp2_with fail
        refine (refRight_any _ _ _).mono ?_
        rintro e w1 ⟨rfl, hw⟩
        rw [hr]
        have hb1 : Below (w.alloc (.cells #[.int .i64 ac, .int .i64 ar, .int .i64 sq, .slice a1 ds.length c1, .int .i64 kd, .int .i64 nc, .int .i64 nr, .int .i64 pc, .int .i64 pr, .int .i64 fc, .int .i64 fr, .string nm, .string vl] 38)).heap.size (w.alloc (.cells #[.int .i64 ac, .int .i64 ar, .int .i64 sq, .slice a1 ds.length c1, .int .i64 kd, .int .i64 nc, .int .i64 nr, .int .i64 pc, .int .i64 pr, .int .i64 fc, .int .i64 fr, .string nm, .string vl] 38)) w1 := by rw [hw]; exact (Below.refl _ _).alloc (Nat.le_refl _) _
        clear hw
        have K1 := K0.step hb1
        obtain ⟨k_0, k_1, k_2, k_3, k_4, k_5, k_6, k_7, k_8, k_9, k_10, k_11, k_12⟩ := K1.all
        go_wp2
        go_ret
        exact ⟨ret_i HE.out.symm, K1.2.2⟩
      · have hac : ac ≤ 1099511627776 := by unfold rightB at hr; simp only [decide_eq_true_eq] at hr; omega
        by_cases s1 : 1 ≤ sq
        · by_cases s2 : sq ≤ ac
          · have hwr : IntKind.i64.wrap (sq - 1) = sq - 1 := by rw [IntKind.wrap_i64]; omega
            by_cases hc : checkL ds = 0
            · by_cases hl : (trimL ds).length = ds.length
              · by_cases ha : atL ds ar = sq - 1
                · have hd : depsE ⟨ac, ar, sq, ds, kd, nc, nr, pc, pr, fc, fr, nm, vl⟩ = 0 := by simp [depsE, hc, hl, ha]
                  have q1 : (((trimL ds).length : Int) != (ds.length : Int)) = false := by simp [hl]
                  have q2 : (atL ds ar != sq - 1) = false := by simp [ha]
                  cases hpl : (nodeR ⟨ac, ar, sq, ds, kd, nc, nr, pc, pr, fc, fr, nm, vl⟩ && placeR ⟨ac, ar, sq, ds, kd, nc, nr, pc, pr, fc, fr, nm, vl⟩)
                  · have hnp : ¬ (nodeR ⟨ac, ar, sq, ds, kd, nc, nr, pc, pr, fc, fr, nm, vl⟩ = true ∧ placeR ⟨ac, ar, sq, ds, kd, nc, nr, pc, pr, fc, fr, nm, vl⟩ = true) := by rw [← Bool.and_eq_true, hpl]; simp
                    have HE : Hid (checkCh ⟨ac, ar, sq, ds, kd, nc, nr, pc, pr, fc, fr, nm, vl⟩ = 2) := by show _ = _; simp [checkCh, h0, hr, s1, s2, hd, hnp]
                    clear hnp hl ha hd
                    go_enter Tryz.func49, Tryz.ntmps49
                    go_wp2_with fail
                    refine (refRight_any _ _ _).mono ?_
                    rintro e w1 ⟨rfl, hw⟩
                    rw [hr]
                    have hb1 : Below (w.alloc (.cells #[.int .i64 ac, .int .i64 ar, .int .i64 sq, .slice a1 ds.length c1, .int .i64 kd, .int .i64 nc, .int .i64 nr, .int .i64 pc, .int .i64 pr, .int .i64 fc, .int .i64 fr, .string nm, .string vl] 38)).heap.size (w.alloc (.cells #[.int .i64 ac, .int .i64 ar, .int .i64 sq, .slice a1 ds.length c1, .int .i64 kd, .int .i64 nc, .int .i64 nr, .int .i64 pc, .int .i64 pr, .int .i64 fc, .int .i64 fr, .string nm, .string vl] 38)) w1 := by rw [hw]; exact (Below.refl _ _).alloc (Nat.le_refl _) _
                    clear hw
                    have K1 := K0.step hb1
                    obtain ⟨k_0, k_1, k_2, k_3, k_4, k_5, k_6, k_7, k_8, k_9, k_10, k_11, k_12⟩ := K1.all
                    go_wp2_with fail
                    refine (refCheck_any _ ds _ (H1.out.below K1.2.2)).mono ?_
                    rintro e w' ⟨rfl, hw⟩
                    replace hw := hw.symm
                    subst hw
                    rw [hc]
                    go_wp2_with fail
                    clear k_0 k_1 k_2 k_3 k_4 k_5 k_6 k_7 k_8 k_9 k_10 k_11 k_12
                    refine wp_region_held_drew (S := fun W' => KeptC w w.heap.size [.int .i64 ac, .int .i64 ar, .int .i64 sq, .slice a1 ds.length c1, .int .i64 kd, .int .i64 nc, .int .i64 nr, .int .i64 pc, .int .i64 pr, .int .i64 fc, .int .i64 fr, .string nm, .string vl] W') (by kernel_rfl) K1.drew (fun hHeld => ?_)
                    refine tkW 0 (some 34) (v := ?_) ?_ hHeld ?_
                    rotate_left
                    · (intro w hSw; (try dsimp only at hSw); have hc0 := hSw.1 0 _ rfl; have hc1 := hSw.1 1 _ rfl; have hc2 := hSw.1 2 _ rfl; have hc3 := hSw.1 3 _ rfl; have hc4 := hSw.1 4 _ rfl; have hc5 := hSw.1 5 _ rfl; have hc6 := hSw.1 6 _ rfl; have hc7 := hSw.1 7 _ rfl; have hc8 := hSw.1 8 _ rfl; have hc9 := hSw.1 9 _ rfl; have hc10 := hSw.1 10 _ rfl; have hc11 := hSw.1 11 _ rfl; have hc12 := hSw.1 12 _ rfl; go_simp; try with_reducible rfl)
                    refine tkW 1 (some 35) (v := ?_) ?_ hHeld ?_
                    rotate_left
                    · (intro w hSw; (try dsimp only at hSw); have hc0 := hSw.1 0 _ rfl; have hc1 := hSw.1 1 _ rfl; have hc2 := hSw.1 2 _ rfl; have hc3 := hSw.1 3 _ rfl; have hc4 := hSw.1 4 _ rfl; have hc5 := hSw.1 5 _ rfl; have hc6 := hSw.1 6 _ rfl; have hc7 := hSw.1 7 _ rfl; have hc8 := hSw.1 8 _ rfl; have hc9 := hSw.1 9 _ rfl; have hc10 := hSw.1 10 _ rfl; have hc11 := hSw.1 11 _ rfl; have hc12 := hSw.1 12 _ rfl; go_simp; try with_reducible rfl)
                    refine tkW 4 (some 38) (v := ?_) ?_ hHeld ?_
                    rotate_left
                    · (intro w hSw; (try dsimp only at hSw); have hc0 := hSw.1 0 _ rfl; have hc1 := hSw.1 1 _ rfl; have hc2 := hSw.1 2 _ rfl; have hc3 := hSw.1 3 _ rfl; have hc4 := hSw.1 4 _ rfl; have hc5 := hSw.1 5 _ rfl; have hc6 := hSw.1 6 _ rfl; have hc7 := hSw.1 7 _ rfl; have hc8 := hSw.1 8 _ rfl; have hc9 := hSw.1 9 _ rfl; have hc10 := hSw.1 10 _ rfl; have hc11 := hSw.1 11 _ rfl; have hc12 := hSw.1 12 _ rfl; go_simp; try with_reducible rfl)
                    refine tkW 5 (some 39) (v := ?_) ?_ hHeld ?_
                    rotate_left
                    · (intro w hSw; (try dsimp only at hSw); have hc0 := hSw.1 0 _ rfl; have hc1 := hSw.1 1 _ rfl; have hc2 := hSw.1 2 _ rfl; have hc3 := hSw.1 3 _ rfl; have hc4 := hSw.1 4 _ rfl; have hc5 := hSw.1 5 _ rfl; have hc6 := hSw.1 6 _ rfl; have hc7 := hSw.1 7 _ rfl; have hc8 := hSw.1 8 _ rfl; have hc9 := hSw.1 9 _ rfl; have hc10 := hSw.1 10 _ rfl; have hc11 := hSw.1 11 _ rfl; have hc12 := hSw.1 12 _ rfl; go_simp; try with_reducible rfl)
                    refine tkW 6 (some 40) (v := ?_) ?_ hHeld ?_
                    rotate_left
                    · (intro w hSw; (try dsimp only at hSw); have hc0 := hSw.1 0 _ rfl; have hc1 := hSw.1 1 _ rfl; have hc2 := hSw.1 2 _ rfl; have hc3 := hSw.1 3 _ rfl; have hc4 := hSw.1 4 _ rfl; have hc5 := hSw.1 5 _ rfl; have hc6 := hSw.1 6 _ rfl; have hc7 := hSw.1 7 _ rfl; have hc8 := hSw.1 8 _ rfl; have hc9 := hSw.1 9 _ rfl; have hc10 := hSw.1 10 _ rfl; have hc11 := hSw.1 11 _ rfl; have hc12 := hSw.1 12 _ rfl; go_simp; try with_reducible rfl)
                    refine wpAnyH_ready (rs := [2]) (by kernel_rfl) (by simp) ?_
                    refine AllReadyH.cons (o := ⟨some 36, _, _, _, _, _⟩) rfl (fun K hK => ?_) AllReadyH.nil
                    go_simp
                    have hk3 := hHeld.1 3 _ rfl
                    refine (refTrim_any _ ds _ (H1.out.below hHeld.2.2)).mono ?_
                    rintro e w2 ⟨v4, rfl, ho4, hb⟩
                    obtain ⟨a4, c4, rfl⟩ := ho4.form
                    (try go_wp2_with fail)
                    refine hK.out _ _ (hHeld.step hb) (fun hHeld2 => ?_)
                    clear hK K hHeld
                    have hHeld := hHeld2
                    clear hHeld2
                    (try simp only [Act.put, List.setIfInBounds_toArray, List.set_cons_zero, List.set_cons_succ])
                    refine tkW 3 (some 37) (v := ?_) ?_ hHeld ?_
                    rotate_left
                    · (intro w hSw; (try dsimp only at hSw); have hc0 := hSw.1 0 _ rfl; have hc1 := hSw.1 1 _ rfl; have hc2 := hSw.1 2 _ rfl; have hc3 := hSw.1 3 _ rfl; have hc4 := hSw.1 4 _ rfl; have hc5 := hSw.1 5 _ rfl; have hc6 := hSw.1 6 _ rfl; have hc7 := hSw.1 7 _ rfl; have hc8 := hSw.1 8 _ rfl; have hc9 := hSw.1 9 _ rfl; have hc10 := hSw.1 10 _ rfl; have hc11 := hSw.1 11 _ rfl; have hc12 := hSw.1 12 _ rfl; go_simp; try with_reducible rfl)
                    refine tkW 7 (some 41) (v := ?_) ?_ hHeld ?_
                    rotate_left
                    · (intro w hSw; (try dsimp only at hSw); have hc0 := hSw.1 0 _ rfl; have hc1 := hSw.1 1 _ rfl; have hc2 := hSw.1 2 _ rfl; have hc3 := hSw.1 3 _ rfl; have hc4 := hSw.1 4 _ rfl; have hc5 := hSw.1 5 _ rfl; have hc6 := hSw.1 6 _ rfl; have hc7 := hSw.1 7 _ rfl; have hc8 := hSw.1 8 _ rfl; have hc9 := hSw.1 9 _ rfl; have hc10 := hSw.1 10 _ rfl; have hc11 := hSw.1 11 _ rfl; have hc12 := hSw.1 12 _ rfl; go_simp; try with_reducible rfl)
                    refine tkW 8 (some 42) (v := ?_) ?_ hHeld ?_
                    rotate_left
                    · (intro w hSw; (try dsimp only at hSw); have hc0 := hSw.1 0 _ rfl; have hc1 := hSw.1 1 _ rfl; have hc2 := hSw.1 2 _ rfl; have hc3 := hSw.1 3 _ rfl; have hc4 := hSw.1 4 _ rfl; have hc5 := hSw.1 5 _ rfl; have hc6 := hSw.1 6 _ rfl; have hc7 := hSw.1 7 _ rfl; have hc8 := hSw.1 8 _ rfl; have hc9 := hSw.1 9 _ rfl; have hc10 := hSw.1 10 _ rfl; have hc11 := hSw.1 11 _ rfl; have hc12 := hSw.1 12 _ rfl; go_simp; try with_reducible rfl)
                    refine tkW 9 (some 43) (v := ?_) ?_ hHeld ?_
                    rotate_left
                    · (intro w hSw; (try dsimp only at hSw); have hc0 := hSw.1 0 _ rfl; have hc1 := hSw.1 1 _ rfl; have hc2 := hSw.1 2 _ rfl; have hc3 := hSw.1 3 _ rfl; have hc4 := hSw.1 4 _ rfl; have hc5 := hSw.1 5 _ rfl; have hc6 := hSw.1 6 _ rfl; have hc7 := hSw.1 7 _ rfl; have hc8 := hSw.1 8 _ rfl; have hc9 := hSw.1 9 _ rfl; have hc10 := hSw.1 10 _ rfl; have hc11 := hSw.1 11 _ rfl; have hc12 := hSw.1 12 _ rfl; go_simp; try with_reducible rfl)
                    refine tkW 10 (some 44) (v := ?_) ?_ hHeld ?_
                    rotate_left
                    · (intro w hSw; (try dsimp only at hSw); have hc0 := hSw.1 0 _ rfl; have hc1 := hSw.1 1 _ rfl; have hc2 := hSw.1 2 _ rfl; have hc3 := hSw.1 3 _ rfl; have hc4 := hSw.1 4 _ rfl; have hc5 := hSw.1 5 _ rfl; have hc6 := hSw.1 6 _ rfl; have hc7 := hSw.1 7 _ rfl; have hc8 := hSw.1 8 _ rfl; have hc9 := hSw.1 9 _ rfl; have hc10 := hSw.1 10 _ rfl; have hc11 := hSw.1 11 _ rfl; have hc12 := hSw.1 12 _ rfl; go_simp; try with_reducible rfl)
                    refine tkW 11 (some 45) (v := ?_) ?_ hHeld ?_
                    rotate_left
                    · (intro w hSw; (try dsimp only at hSw); have hc0 := hSw.1 0 _ rfl; have hc1 := hSw.1 1 _ rfl; have hc2 := hSw.1 2 _ rfl; have hc3 := hSw.1 3 _ rfl; have hc4 := hSw.1 4 _ rfl; have hc5 := hSw.1 5 _ rfl; have hc6 := hSw.1 6 _ rfl; have hc7 := hSw.1 7 _ rfl; have hc8 := hSw.1 8 _ rfl; have hc9 := hSw.1 9 _ rfl; have hc10 := hSw.1 10 _ rfl; have hc11 := hSw.1 11 _ rfl; have hc12 := hSw.1 12 _ rfl; go_simp; try with_reducible rfl)
                    refine tkW 12 (some 46) (v := ?_) ?_ hHeld ?_
                    rotate_left
                    · (intro w hSw; (try dsimp only at hSw); have hc0 := hSw.1 0 _ rfl; have hc1 := hSw.1 1 _ rfl; have hc2 := hSw.1 2 _ rfl; have hc3 := hSw.1 3 _ rfl; have hc4 := hSw.1 4 _ rfl; have hc5 := hSw.1 5 _ rfl; have hc6 := hSw.1 6 _ rfl; have hc7 := hSw.1 7 _ rfl; have hc8 := hSw.1 8 _ rfl; have hc9 := hSw.1 9 _ rfl; have hc10 := hSw.1 10 _ rfl; have hc11 := hSw.1 11 _ rfl; have hc12 := hSw.1 12 _ rfl; go_simp; try with_reducible rfl)
                    refine tkW 13 (some 47) (v := ?_) ?_ hHeld ?_
                    rotate_left
                    · (intro w hSw; (try dsimp only at hSw); have hc0 := hSw.1 0 _ rfl; have hc1 := hSw.1 1 _ rfl; have hc2 := hSw.1 2 _ rfl; have hc3 := hSw.1 3 _ rfl; have hc4 := hSw.1 4 _ rfl; have hc5 := hSw.1 5 _ rfl; have hc6 := hSw.1 6 _ rfl; have hc7 := hSw.1 7 _ rfl; have hc8 := hSw.1 8 _ rfl; have hc9 := hSw.1 9 _ rfl; have hc10 := hSw.1 10 _ rfl; have hc11 := hSw.1 11 _ rfl; have hc12 := hSw.1 12 _ rfl; go_simp; try with_reducible rfl)
                    refine tkW 15 (some 49) (v := ?_) ?_ hHeld ?_
                    rotate_left
                    · (intro w hSw; (try dsimp only at hSw); have hc0 := hSw.1 0 _ rfl; have hc1 := hSw.1 1 _ rfl; have hc2 := hSw.1 2 _ rfl; have hc3 := hSw.1 3 _ rfl; have hc4 := hSw.1 4 _ rfl; have hc5 := hSw.1 5 _ rfl; have hc6 := hSw.1 6 _ rfl; have hc7 := hSw.1 7 _ rfl; have hc8 := hSw.1 8 _ rfl; have hc9 := hSw.1 9 _ rfl; have hc10 := hSw.1 10 _ rfl; have hc11 := hSw.1 11 _ rfl; have hc12 := hSw.1 12 _ rfl; go_simp; try with_reducible rfl)
                    refine tkW 16 (some 50) (v := ?_) ?_ hHeld ?_
                    rotate_left
                    · (intro w hSw; (try dsimp only at hSw); have hc0 := hSw.1 0 _ rfl; have hc1 := hSw.1 1 _ rfl; have hc2 := hSw.1 2 _ rfl; have hc3 := hSw.1 3 _ rfl; have hc4 := hSw.1 4 _ rfl; have hc5 := hSw.1 5 _ rfl; have hc6 := hSw.1 6 _ rfl; have hc7 := hSw.1 7 _ rfl; have hc8 := hSw.1 8 _ rfl; have hc9 := hSw.1 9 _ rfl; have hc10 := hSw.1 10 _ rfl; have hc11 := hSw.1 11 _ rfl; have hc12 := hSw.1 12 _ rfl; go_simp; try with_reducible rfl)
                    refine tkW 17 (some 51) (v := ?_) ?_ hHeld ?_
                    rotate_left
                    · (intro w hSw; (try dsimp only at hSw); have hc0 := hSw.1 0 _ rfl; have hc1 := hSw.1 1 _ rfl; have hc2 := hSw.1 2 _ rfl; have hc3 := hSw.1 3 _ rfl; have hc4 := hSw.1 4 _ rfl; have hc5 := hSw.1 5 _ rfl; have hc6 := hSw.1 6 _ rfl; have hc7 := hSw.1 7 _ rfl; have hc8 := hSw.1 8 _ rfl; have hc9 := hSw.1 9 _ rfl; have hc10 := hSw.1 10 _ rfl; have hc11 := hSw.1 11 _ rfl; have hc12 := hSw.1 12 _ rfl; go_simp; try with_reducible rfl)
                    refine wpAnyH_ready (rs := [14]) (by kernel_rfl) (by simp) ?_
                    refine AllReadyH.cons (o := ⟨some 48, _, _, _, _, _⟩) rfl (fun K hK => ?_) AllReadyH.nil
                    go_simp
                    have hk3 := hHeld.1 3 _ rfl
                    refine (refAt_any _ ds ar _ (H1.out.below hHeld.2.2)).mono ?_
                    rintro e w' ⟨rfl, hw⟩
                    replace hw := hw.symm
                    subst hw
                    (try go_wp2_with fail)
                    refine hK.out _ _ (hHeld) (fun hHeld2 => ?_)
                    clear hK K hHeld
                    have hHeld := hHeld2
                    clear hHeld2
                    (try simp only [Act.put, List.setIfInBounds_toArray, List.set_cons_zero, List.set_cons_succ])
                    refine tkW 18 (some 52) (v := ?_) ?_ hHeld ?_
                    rotate_left
                    · (intro w hSw; (try dsimp only at hSw); have hc0 := hSw.1 0 _ rfl; have hc1 := hSw.1 1 _ rfl; have hc2 := hSw.1 2 _ rfl; have hc3 := hSw.1 3 _ rfl; have hc4 := hSw.1 4 _ rfl; have hc5 := hSw.1 5 _ rfl; have hc6 := hSw.1 6 _ rfl; have hc7 := hSw.1 7 _ rfl; have hc8 := hSw.1 8 _ rfl; have hc9 := hSw.1 9 _ rfl; have hc10 := hSw.1 10 _ rfl; have hc11 := hSw.1 11 _ rfl; have hc12 := hSw.1 12 _ rfl; go_simp; try with_reducible rfl)
                    refine tkW 19 (some 53) (v := ?_) ?_ hHeld ?_
                    rotate_left
                    · (intro w hSw; (try dsimp only at hSw); have hc0 := hSw.1 0 _ rfl; have hc1 := hSw.1 1 _ rfl; have hc2 := hSw.1 2 _ rfl; have hc3 := hSw.1 3 _ rfl; have hc4 := hSw.1 4 _ rfl; have hc5 := hSw.1 5 _ rfl; have hc6 := hSw.1 6 _ rfl; have hc7 := hSw.1 7 _ rfl; have hc8 := hSw.1 8 _ rfl; have hc9 := hSw.1 9 _ rfl; have hc10 := hSw.1 10 _ rfl; have hc11 := hSw.1 11 _ rfl; have hc12 := hSw.1 12 _ rfl; go_simp; try with_reducible rfl)
                    refine tkW 20 (some 54) (v := ?_) ?_ hHeld ?_
                    rotate_left
                    · (intro w hSw; (try dsimp only at hSw); have hc0 := hSw.1 0 _ rfl; have hc1 := hSw.1 1 _ rfl; have hc2 := hSw.1 2 _ rfl; have hc3 := hSw.1 3 _ rfl; have hc4 := hSw.1 4 _ rfl; have hc5 := hSw.1 5 _ rfl; have hc6 := hSw.1 6 _ rfl; have hc7 := hSw.1 7 _ rfl; have hc8 := hSw.1 8 _ rfl; have hc9 := hSw.1 9 _ rfl; have hc10 := hSw.1 10 _ rfl; have hc11 := hSw.1 11 _ rfl; have hc12 := hSw.1 12 _ rfl; go_simp; try with_reducible rfl)
                    refine tkW 21 (some 55) (v := ?_) ?_ hHeld ?_
                    rotate_left
                    · (intro w hSw; (try dsimp only at hSw); have hc0 := hSw.1 0 _ rfl; have hc1 := hSw.1 1 _ rfl; have hc2 := hSw.1 2 _ rfl; have hc3 := hSw.1 3 _ rfl; have hc4 := hSw.1 4 _ rfl; have hc5 := hSw.1 5 _ rfl; have hc6 := hSw.1 6 _ rfl; have hc7 := hSw.1 7 _ rfl; have hc8 := hSw.1 8 _ rfl; have hc9 := hSw.1 9 _ rfl; have hc10 := hSw.1 10 _ rfl; have hc11 := hSw.1 11 _ rfl; have hc12 := hSw.1 12 _ rfl; go_simp; try with_reducible rfl)
                    refine wpAnyH_ready (rs := [22]) (by kernel_rfl) (by simp) ?_
                    refine AllReadyH.cons (o := ⟨some 56, _, _, _, _, _⟩) rfl (fun K hK => ?_) AllReadyH.nil
                    go_simp
                    refine (refPlaced_any ac ar sq (.slice a1 ds.length c1) kd nc nr pc pr fc fr nm vl ds _ (by omega)).mono ?_
                    rintro e w3 ⟨rfl, hb⟩
                    rw [hpl]
                    (try go_wp2_with fail)
                    refine hK.out _ _ (hHeld.step hb) (fun hHeld2 => ?_)
                    clear hK K hHeld
                    have hHeld := hHeld2
                    clear hHeld2
                    (try simp only [Act.put, List.setIfInBounds_toArray, List.set_cons_zero, List.set_cons_succ])
                    refine tkW 23 (some 57) (v := ?_) ?_ hHeld ?_
                    rotate_left
                    · (intro w hSw; (try dsimp only at hSw); have hc0 := hSw.1 0 _ rfl; have hc1 := hSw.1 1 _ rfl; have hc2 := hSw.1 2 _ rfl; have hc3 := hSw.1 3 _ rfl; have hc4 := hSw.1 4 _ rfl; have hc5 := hSw.1 5 _ rfl; have hc6 := hSw.1 6 _ rfl; have hc7 := hSw.1 7 _ rfl; have hc8 := hSw.1 8 _ rfl; have hc9 := hSw.1 9 _ rfl; have hc10 := hSw.1 10 _ rfl; have hc11 := hSw.1 11 _ rfl; have hc12 := hSw.1 12 _ rfl; go_simp; try with_reducible rfl)
                    refine tkW 24 (some 58) (v := ?_) ?_ hHeld ?_
                    rotate_left
                    · (intro w hSw; (try dsimp only at hSw); have hc0 := hSw.1 0 _ rfl; have hc1 := hSw.1 1 _ rfl; have hc2 := hSw.1 2 _ rfl; have hc3 := hSw.1 3 _ rfl; have hc4 := hSw.1 4 _ rfl; have hc5 := hSw.1 5 _ rfl; have hc6 := hSw.1 6 _ rfl; have hc7 := hSw.1 7 _ rfl; have hc8 := hSw.1 8 _ rfl; have hc9 := hSw.1 9 _ rfl; have hc10 := hSw.1 10 _ rfl; have hc11 := hSw.1 11 _ rfl; have hc12 := hSw.1 12 _ rfl; go_simp; try with_reducible rfl)
                    refine wpAnyH_done (by kernel_rfl) ?_ _
                    have KN := hHeld
                    clear hHeld
                    go_wp2
                    go_ret
                    exact ⟨ret_i HE.out.symm, KN.2.2⟩
                  · have hyp : nodeR ⟨ac, ar, sq, ds, kd, nc, nr, pc, pr, fc, fr, nm, vl⟩ = true ∧ placeR ⟨ac, ar, sq, ds, kd, nc, nr, pc, pr, fc, fr, nm, vl⟩ = true := by rw [← Bool.and_eq_true, hpl]
                    have HV : Hid (nameR ⟨ac, ar, sq, ds, kd, nc, nr, pc, pr, fc, fr, nm, vl⟩ = true → checkCh ⟨ac, ar, sq, ds, kd, nc, nr, pc, pr, fc, fr, nm, vl⟩ = valueE ⟨ac, ar, sq, ds, kd, nc, nr, pc, pr, fc, fr, nm, vl⟩) := fun h => by simp [checkCh, h0, hr, s1, s2, hd, hyp, h]
                    have HM : Hid (nameR ⟨ac, ar, sq, ds, kd, nc, nr, pc, pr, fc, fr, nm, vl⟩ = false → checkCh ⟨ac, ar, sq, ds, kd, nc, nr, pc, pr, fc, fr, nm, vl⟩ = 8) := fun h => by simp [checkCh, h0, hr, s1, s2, hd, hyp, h]
                    clear hyp hl ha hd
                    go_enter Tryz.func49, Tryz.ntmps49
                    go_wp2_with fail
                    refine (refRight_any _ _ _).mono ?_
                    rintro e w1 ⟨rfl, hw⟩
                    rw [hr]
                    have hb1 : Below (w.alloc (.cells #[.int .i64 ac, .int .i64 ar, .int .i64 sq, .slice a1 ds.length c1, .int .i64 kd, .int .i64 nc, .int .i64 nr, .int .i64 pc, .int .i64 pr, .int .i64 fc, .int .i64 fr, .string nm, .string vl] 38)).heap.size (w.alloc (.cells #[.int .i64 ac, .int .i64 ar, .int .i64 sq, .slice a1 ds.length c1, .int .i64 kd, .int .i64 nc, .int .i64 nr, .int .i64 pc, .int .i64 pr, .int .i64 fc, .int .i64 fr, .string nm, .string vl] 38)) w1 := by rw [hw]; exact (Below.refl _ _).alloc (Nat.le_refl _) _
                    clear hw
                    have K1 := K0.step hb1
                    obtain ⟨k_0, k_1, k_2, k_3, k_4, k_5, k_6, k_7, k_8, k_9, k_10, k_11, k_12⟩ := K1.all
                    go_wp2_with fail
                    refine (refCheck_any _ ds _ (H1.out.below K1.2.2)).mono ?_
                    rintro e w' ⟨rfl, hw⟩
                    replace hw := hw.symm
                    subst hw
                    rw [hc]
                    go_wp2_with fail
                    clear k_0 k_1 k_2 k_3 k_4 k_5 k_6 k_7 k_8 k_9 k_10 k_11 k_12
                    refine wp_region_held_drew (S := fun W' => KeptC w w.heap.size [.int .i64 ac, .int .i64 ar, .int .i64 sq, .slice a1 ds.length c1, .int .i64 kd, .int .i64 nc, .int .i64 nr, .int .i64 pc, .int .i64 pr, .int .i64 fc, .int .i64 fr, .string nm, .string vl] W') (by kernel_rfl) K1.drew (fun hHeld => ?_)
                    refine tkW 0 (some 34) (v := ?_) ?_ hHeld ?_
                    rotate_left
                    · (intro w hSw; (try dsimp only at hSw); have hc0 := hSw.1 0 _ rfl; have hc1 := hSw.1 1 _ rfl; have hc2 := hSw.1 2 _ rfl; have hc3 := hSw.1 3 _ rfl; have hc4 := hSw.1 4 _ rfl; have hc5 := hSw.1 5 _ rfl; have hc6 := hSw.1 6 _ rfl; have hc7 := hSw.1 7 _ rfl; have hc8 := hSw.1 8 _ rfl; have hc9 := hSw.1 9 _ rfl; have hc10 := hSw.1 10 _ rfl; have hc11 := hSw.1 11 _ rfl; have hc12 := hSw.1 12 _ rfl; go_simp; try with_reducible rfl)
                    refine tkW 1 (some 35) (v := ?_) ?_ hHeld ?_
                    rotate_left
                    · (intro w hSw; (try dsimp only at hSw); have hc0 := hSw.1 0 _ rfl; have hc1 := hSw.1 1 _ rfl; have hc2 := hSw.1 2 _ rfl; have hc3 := hSw.1 3 _ rfl; have hc4 := hSw.1 4 _ rfl; have hc5 := hSw.1 5 _ rfl; have hc6 := hSw.1 6 _ rfl; have hc7 := hSw.1 7 _ rfl; have hc8 := hSw.1 8 _ rfl; have hc9 := hSw.1 9 _ rfl; have hc10 := hSw.1 10 _ rfl; have hc11 := hSw.1 11 _ rfl; have hc12 := hSw.1 12 _ rfl; go_simp; try with_reducible rfl)
                    refine tkW 4 (some 38) (v := ?_) ?_ hHeld ?_
                    rotate_left
                    · (intro w hSw; (try dsimp only at hSw); have hc0 := hSw.1 0 _ rfl; have hc1 := hSw.1 1 _ rfl; have hc2 := hSw.1 2 _ rfl; have hc3 := hSw.1 3 _ rfl; have hc4 := hSw.1 4 _ rfl; have hc5 := hSw.1 5 _ rfl; have hc6 := hSw.1 6 _ rfl; have hc7 := hSw.1 7 _ rfl; have hc8 := hSw.1 8 _ rfl; have hc9 := hSw.1 9 _ rfl; have hc10 := hSw.1 10 _ rfl; have hc11 := hSw.1 11 _ rfl; have hc12 := hSw.1 12 _ rfl; go_simp; try with_reducible rfl)
                    refine tkW 5 (some 39) (v := ?_) ?_ hHeld ?_
                    rotate_left
                    · (intro w hSw; (try dsimp only at hSw); have hc0 := hSw.1 0 _ rfl; have hc1 := hSw.1 1 _ rfl; have hc2 := hSw.1 2 _ rfl; have hc3 := hSw.1 3 _ rfl; have hc4 := hSw.1 4 _ rfl; have hc5 := hSw.1 5 _ rfl; have hc6 := hSw.1 6 _ rfl; have hc7 := hSw.1 7 _ rfl; have hc8 := hSw.1 8 _ rfl; have hc9 := hSw.1 9 _ rfl; have hc10 := hSw.1 10 _ rfl; have hc11 := hSw.1 11 _ rfl; have hc12 := hSw.1 12 _ rfl; go_simp; try with_reducible rfl)
                    refine tkW 6 (some 40) (v := ?_) ?_ hHeld ?_
                    rotate_left
                    · (intro w hSw; (try dsimp only at hSw); have hc0 := hSw.1 0 _ rfl; have hc1 := hSw.1 1 _ rfl; have hc2 := hSw.1 2 _ rfl; have hc3 := hSw.1 3 _ rfl; have hc4 := hSw.1 4 _ rfl; have hc5 := hSw.1 5 _ rfl; have hc6 := hSw.1 6 _ rfl; have hc7 := hSw.1 7 _ rfl; have hc8 := hSw.1 8 _ rfl; have hc9 := hSw.1 9 _ rfl; have hc10 := hSw.1 10 _ rfl; have hc11 := hSw.1 11 _ rfl; have hc12 := hSw.1 12 _ rfl; go_simp; try with_reducible rfl)
                    refine wpAnyH_ready (rs := [2]) (by kernel_rfl) (by simp) ?_
                    refine AllReadyH.cons (o := ⟨some 36, _, _, _, _, _⟩) rfl (fun K hK => ?_) AllReadyH.nil
                    go_simp
                    have hk3 := hHeld.1 3 _ rfl
                    refine (refTrim_any _ ds _ (H1.out.below hHeld.2.2)).mono ?_
                    rintro e w2 ⟨v4, rfl, ho4, hb⟩
                    obtain ⟨a4, c4, rfl⟩ := ho4.form
                    (try go_wp2_with fail)
                    refine hK.out _ _ (hHeld.step hb) (fun hHeld2 => ?_)
                    clear hK K hHeld
                    have hHeld := hHeld2
                    clear hHeld2
                    (try simp only [Act.put, List.setIfInBounds_toArray, List.set_cons_zero, List.set_cons_succ])
                    refine tkW 3 (some 37) (v := ?_) ?_ hHeld ?_
                    rotate_left
                    · (intro w hSw; (try dsimp only at hSw); have hc0 := hSw.1 0 _ rfl; have hc1 := hSw.1 1 _ rfl; have hc2 := hSw.1 2 _ rfl; have hc3 := hSw.1 3 _ rfl; have hc4 := hSw.1 4 _ rfl; have hc5 := hSw.1 5 _ rfl; have hc6 := hSw.1 6 _ rfl; have hc7 := hSw.1 7 _ rfl; have hc8 := hSw.1 8 _ rfl; have hc9 := hSw.1 9 _ rfl; have hc10 := hSw.1 10 _ rfl; have hc11 := hSw.1 11 _ rfl; have hc12 := hSw.1 12 _ rfl; go_simp; try with_reducible rfl)
                    refine tkW 7 (some 41) (v := ?_) ?_ hHeld ?_
                    rotate_left
                    · (intro w hSw; (try dsimp only at hSw); have hc0 := hSw.1 0 _ rfl; have hc1 := hSw.1 1 _ rfl; have hc2 := hSw.1 2 _ rfl; have hc3 := hSw.1 3 _ rfl; have hc4 := hSw.1 4 _ rfl; have hc5 := hSw.1 5 _ rfl; have hc6 := hSw.1 6 _ rfl; have hc7 := hSw.1 7 _ rfl; have hc8 := hSw.1 8 _ rfl; have hc9 := hSw.1 9 _ rfl; have hc10 := hSw.1 10 _ rfl; have hc11 := hSw.1 11 _ rfl; have hc12 := hSw.1 12 _ rfl; go_simp; try with_reducible rfl)
                    refine tkW 8 (some 42) (v := ?_) ?_ hHeld ?_
                    rotate_left
                    · (intro w hSw; (try dsimp only at hSw); have hc0 := hSw.1 0 _ rfl; have hc1 := hSw.1 1 _ rfl; have hc2 := hSw.1 2 _ rfl; have hc3 := hSw.1 3 _ rfl; have hc4 := hSw.1 4 _ rfl; have hc5 := hSw.1 5 _ rfl; have hc6 := hSw.1 6 _ rfl; have hc7 := hSw.1 7 _ rfl; have hc8 := hSw.1 8 _ rfl; have hc9 := hSw.1 9 _ rfl; have hc10 := hSw.1 10 _ rfl; have hc11 := hSw.1 11 _ rfl; have hc12 := hSw.1 12 _ rfl; go_simp; try with_reducible rfl)
                    refine tkW 9 (some 43) (v := ?_) ?_ hHeld ?_
                    rotate_left
                    · (intro w hSw; (try dsimp only at hSw); have hc0 := hSw.1 0 _ rfl; have hc1 := hSw.1 1 _ rfl; have hc2 := hSw.1 2 _ rfl; have hc3 := hSw.1 3 _ rfl; have hc4 := hSw.1 4 _ rfl; have hc5 := hSw.1 5 _ rfl; have hc6 := hSw.1 6 _ rfl; have hc7 := hSw.1 7 _ rfl; have hc8 := hSw.1 8 _ rfl; have hc9 := hSw.1 9 _ rfl; have hc10 := hSw.1 10 _ rfl; have hc11 := hSw.1 11 _ rfl; have hc12 := hSw.1 12 _ rfl; go_simp; try with_reducible rfl)
                    refine tkW 10 (some 44) (v := ?_) ?_ hHeld ?_
                    rotate_left
                    · (intro w hSw; (try dsimp only at hSw); have hc0 := hSw.1 0 _ rfl; have hc1 := hSw.1 1 _ rfl; have hc2 := hSw.1 2 _ rfl; have hc3 := hSw.1 3 _ rfl; have hc4 := hSw.1 4 _ rfl; have hc5 := hSw.1 5 _ rfl; have hc6 := hSw.1 6 _ rfl; have hc7 := hSw.1 7 _ rfl; have hc8 := hSw.1 8 _ rfl; have hc9 := hSw.1 9 _ rfl; have hc10 := hSw.1 10 _ rfl; have hc11 := hSw.1 11 _ rfl; have hc12 := hSw.1 12 _ rfl; go_simp; try with_reducible rfl)
                    refine tkW 11 (some 45) (v := ?_) ?_ hHeld ?_
                    rotate_left
                    · (intro w hSw; (try dsimp only at hSw); have hc0 := hSw.1 0 _ rfl; have hc1 := hSw.1 1 _ rfl; have hc2 := hSw.1 2 _ rfl; have hc3 := hSw.1 3 _ rfl; have hc4 := hSw.1 4 _ rfl; have hc5 := hSw.1 5 _ rfl; have hc6 := hSw.1 6 _ rfl; have hc7 := hSw.1 7 _ rfl; have hc8 := hSw.1 8 _ rfl; have hc9 := hSw.1 9 _ rfl; have hc10 := hSw.1 10 _ rfl; have hc11 := hSw.1 11 _ rfl; have hc12 := hSw.1 12 _ rfl; go_simp; try with_reducible rfl)
                    refine tkW 12 (some 46) (v := ?_) ?_ hHeld ?_
                    rotate_left
                    · (intro w hSw; (try dsimp only at hSw); have hc0 := hSw.1 0 _ rfl; have hc1 := hSw.1 1 _ rfl; have hc2 := hSw.1 2 _ rfl; have hc3 := hSw.1 3 _ rfl; have hc4 := hSw.1 4 _ rfl; have hc5 := hSw.1 5 _ rfl; have hc6 := hSw.1 6 _ rfl; have hc7 := hSw.1 7 _ rfl; have hc8 := hSw.1 8 _ rfl; have hc9 := hSw.1 9 _ rfl; have hc10 := hSw.1 10 _ rfl; have hc11 := hSw.1 11 _ rfl; have hc12 := hSw.1 12 _ rfl; go_simp; try with_reducible rfl)
                    refine tkW 13 (some 47) (v := ?_) ?_ hHeld ?_
                    rotate_left
                    · (intro w hSw; (try dsimp only at hSw); have hc0 := hSw.1 0 _ rfl; have hc1 := hSw.1 1 _ rfl; have hc2 := hSw.1 2 _ rfl; have hc3 := hSw.1 3 _ rfl; have hc4 := hSw.1 4 _ rfl; have hc5 := hSw.1 5 _ rfl; have hc6 := hSw.1 6 _ rfl; have hc7 := hSw.1 7 _ rfl; have hc8 := hSw.1 8 _ rfl; have hc9 := hSw.1 9 _ rfl; have hc10 := hSw.1 10 _ rfl; have hc11 := hSw.1 11 _ rfl; have hc12 := hSw.1 12 _ rfl; go_simp; try with_reducible rfl)
                    refine tkW 15 (some 49) (v := ?_) ?_ hHeld ?_
                    rotate_left
                    · (intro w hSw; (try dsimp only at hSw); have hc0 := hSw.1 0 _ rfl; have hc1 := hSw.1 1 _ rfl; have hc2 := hSw.1 2 _ rfl; have hc3 := hSw.1 3 _ rfl; have hc4 := hSw.1 4 _ rfl; have hc5 := hSw.1 5 _ rfl; have hc6 := hSw.1 6 _ rfl; have hc7 := hSw.1 7 _ rfl; have hc8 := hSw.1 8 _ rfl; have hc9 := hSw.1 9 _ rfl; have hc10 := hSw.1 10 _ rfl; have hc11 := hSw.1 11 _ rfl; have hc12 := hSw.1 12 _ rfl; go_simp; try with_reducible rfl)
                    refine tkW 16 (some 50) (v := ?_) ?_ hHeld ?_
                    rotate_left
                    · (intro w hSw; (try dsimp only at hSw); have hc0 := hSw.1 0 _ rfl; have hc1 := hSw.1 1 _ rfl; have hc2 := hSw.1 2 _ rfl; have hc3 := hSw.1 3 _ rfl; have hc4 := hSw.1 4 _ rfl; have hc5 := hSw.1 5 _ rfl; have hc6 := hSw.1 6 _ rfl; have hc7 := hSw.1 7 _ rfl; have hc8 := hSw.1 8 _ rfl; have hc9 := hSw.1 9 _ rfl; have hc10 := hSw.1 10 _ rfl; have hc11 := hSw.1 11 _ rfl; have hc12 := hSw.1 12 _ rfl; go_simp; try with_reducible rfl)
                    refine tkW 17 (some 51) (v := ?_) ?_ hHeld ?_
                    rotate_left
                    · (intro w hSw; (try dsimp only at hSw); have hc0 := hSw.1 0 _ rfl; have hc1 := hSw.1 1 _ rfl; have hc2 := hSw.1 2 _ rfl; have hc3 := hSw.1 3 _ rfl; have hc4 := hSw.1 4 _ rfl; have hc5 := hSw.1 5 _ rfl; have hc6 := hSw.1 6 _ rfl; have hc7 := hSw.1 7 _ rfl; have hc8 := hSw.1 8 _ rfl; have hc9 := hSw.1 9 _ rfl; have hc10 := hSw.1 10 _ rfl; have hc11 := hSw.1 11 _ rfl; have hc12 := hSw.1 12 _ rfl; go_simp; try with_reducible rfl)
                    refine wpAnyH_ready (rs := [14]) (by kernel_rfl) (by simp) ?_
                    refine AllReadyH.cons (o := ⟨some 48, _, _, _, _, _⟩) rfl (fun K hK => ?_) AllReadyH.nil
                    go_simp
                    have hk3 := hHeld.1 3 _ rfl
                    refine (refAt_any _ ds ar _ (H1.out.below hHeld.2.2)).mono ?_
                    rintro e w' ⟨rfl, hw⟩
                    replace hw := hw.symm
                    subst hw
                    (try go_wp2_with fail)
                    refine hK.out _ _ (hHeld) (fun hHeld2 => ?_)
                    clear hK K hHeld
                    have hHeld := hHeld2
                    clear hHeld2
                    (try simp only [Act.put, List.setIfInBounds_toArray, List.set_cons_zero, List.set_cons_succ])
                    refine tkW 18 (some 52) (v := ?_) ?_ hHeld ?_
                    rotate_left
                    · (intro w hSw; (try dsimp only at hSw); have hc0 := hSw.1 0 _ rfl; have hc1 := hSw.1 1 _ rfl; have hc2 := hSw.1 2 _ rfl; have hc3 := hSw.1 3 _ rfl; have hc4 := hSw.1 4 _ rfl; have hc5 := hSw.1 5 _ rfl; have hc6 := hSw.1 6 _ rfl; have hc7 := hSw.1 7 _ rfl; have hc8 := hSw.1 8 _ rfl; have hc9 := hSw.1 9 _ rfl; have hc10 := hSw.1 10 _ rfl; have hc11 := hSw.1 11 _ rfl; have hc12 := hSw.1 12 _ rfl; go_simp; try with_reducible rfl)
                    refine tkW 19 (some 53) (v := ?_) ?_ hHeld ?_
                    rotate_left
                    · (intro w hSw; (try dsimp only at hSw); have hc0 := hSw.1 0 _ rfl; have hc1 := hSw.1 1 _ rfl; have hc2 := hSw.1 2 _ rfl; have hc3 := hSw.1 3 _ rfl; have hc4 := hSw.1 4 _ rfl; have hc5 := hSw.1 5 _ rfl; have hc6 := hSw.1 6 _ rfl; have hc7 := hSw.1 7 _ rfl; have hc8 := hSw.1 8 _ rfl; have hc9 := hSw.1 9 _ rfl; have hc10 := hSw.1 10 _ rfl; have hc11 := hSw.1 11 _ rfl; have hc12 := hSw.1 12 _ rfl; go_simp; try with_reducible rfl)
                    refine tkW 20 (some 54) (v := ?_) ?_ hHeld ?_
                    rotate_left
                    · (intro w hSw; (try dsimp only at hSw); have hc0 := hSw.1 0 _ rfl; have hc1 := hSw.1 1 _ rfl; have hc2 := hSw.1 2 _ rfl; have hc3 := hSw.1 3 _ rfl; have hc4 := hSw.1 4 _ rfl; have hc5 := hSw.1 5 _ rfl; have hc6 := hSw.1 6 _ rfl; have hc7 := hSw.1 7 _ rfl; have hc8 := hSw.1 8 _ rfl; have hc9 := hSw.1 9 _ rfl; have hc10 := hSw.1 10 _ rfl; have hc11 := hSw.1 11 _ rfl; have hc12 := hSw.1 12 _ rfl; go_simp; try with_reducible rfl)
                    refine tkW 21 (some 55) (v := ?_) ?_ hHeld ?_
                    rotate_left
                    · (intro w hSw; (try dsimp only at hSw); have hc0 := hSw.1 0 _ rfl; have hc1 := hSw.1 1 _ rfl; have hc2 := hSw.1 2 _ rfl; have hc3 := hSw.1 3 _ rfl; have hc4 := hSw.1 4 _ rfl; have hc5 := hSw.1 5 _ rfl; have hc6 := hSw.1 6 _ rfl; have hc7 := hSw.1 7 _ rfl; have hc8 := hSw.1 8 _ rfl; have hc9 := hSw.1 9 _ rfl; have hc10 := hSw.1 10 _ rfl; have hc11 := hSw.1 11 _ rfl; have hc12 := hSw.1 12 _ rfl; go_simp; try with_reducible rfl)
                    refine wpAnyH_ready (rs := [22]) (by kernel_rfl) (by simp) ?_
                    refine AllReadyH.cons (o := ⟨some 56, _, _, _, _, _⟩) rfl (fun K hK => ?_) AllReadyH.nil
                    go_simp
                    refine (refPlaced_any ac ar sq (.slice a1 ds.length c1) kd nc nr pc pr fc fr nm vl ds _ (by omega)).mono ?_
                    rintro e w3 ⟨rfl, hb⟩
                    rw [hpl]
                    (try go_wp2_with fail)
                    refine hK.out _ _ (hHeld.step hb) (fun hHeld2 => ?_)
                    clear hK K hHeld
                    have hHeld := hHeld2
                    clear hHeld2
                    (try simp only [Act.put, List.setIfInBounds_toArray, List.set_cons_zero, List.set_cons_succ])
                    refine tkW 23 (some 57) (v := ?_) ?_ hHeld ?_
                    rotate_left
                    · (intro w hSw; (try dsimp only at hSw); have hc0 := hSw.1 0 _ rfl; have hc1 := hSw.1 1 _ rfl; have hc2 := hSw.1 2 _ rfl; have hc3 := hSw.1 3 _ rfl; have hc4 := hSw.1 4 _ rfl; have hc5 := hSw.1 5 _ rfl; have hc6 := hSw.1 6 _ rfl; have hc7 := hSw.1 7 _ rfl; have hc8 := hSw.1 8 _ rfl; have hc9 := hSw.1 9 _ rfl; have hc10 := hSw.1 10 _ rfl; have hc11 := hSw.1 11 _ rfl; have hc12 := hSw.1 12 _ rfl; go_simp; try with_reducible rfl)
                    refine tkW 24 (some 58) (v := ?_) ?_ hHeld ?_
                    rotate_left
                    · (intro w hSw; (try dsimp only at hSw); have hc0 := hSw.1 0 _ rfl; have hc1 := hSw.1 1 _ rfl; have hc2 := hSw.1 2 _ rfl; have hc3 := hSw.1 3 _ rfl; have hc4 := hSw.1 4 _ rfl; have hc5 := hSw.1 5 _ rfl; have hc6 := hSw.1 6 _ rfl; have hc7 := hSw.1 7 _ rfl; have hc8 := hSw.1 8 _ rfl; have hc9 := hSw.1 9 _ rfl; have hc10 := hSw.1 10 _ rfl; have hc11 := hSw.1 11 _ rfl; have hc12 := hSw.1 12 _ rfl; go_simp; try with_reducible rfl)
                    refine wpAnyH_done (by kernel_rfl) ?_ _
                    have KN := hHeld
                    clear hHeld
                    obtain ⟨k_0, k_1, k_2, k_3, k_4, k_5, k_6, k_7, k_8, k_9, k_10, k_11, k_12⟩ := KN.all
                    have hkd : kd = 1 ∨ kd = 2 ∨ kd = 3 ∨ kd = 4 ∨ kd = 5 := by omega
                    clear h0 g1 g2 hpl
                    rcases hkd with rfl | rfl | rfl | rfl | rfl
                    · have hnm : nameR ⟨ac, ar, sq, ds, 1, nc, nr, pc, pr, fc, fr, nm, vl⟩ = nameL nm.data.toList := by exact if_pos (show hasName 1 = true by decide)
                      cases hnl : nameL nm.data.toList
                      · have HE : Hid (checkCh ⟨ac, ar, sq, ds, 1, nc, nr, pc, pr, fc, fr, nm, vl⟩ = 8) := HM.out (hnm.trans hnl)
                        clear hnm
                        go_wp2_with fail
                        refine (refName_any nm hs _).mono ?_
                        rintro e w' ⟨rfl, hw⟩
                        replace hw := hw.symm
                        subst hw
                        rw [hnl]
                        go_wp2
                        go_ret
                        exact ⟨ret_i HE.out.symm, KN.2.2⟩
                      · have hm : nameR ⟨ac, ar, sq, ds, 1, nc, nr, pc, pr, fc, fr, nm, vl⟩ = true := hnm.trans hnl
                        clear hnm
                        by_cases v0 : 256 < vl.size
                        · have HE : Hid (checkCh ⟨ac, ar, sq, ds, 1, nc, nr, pc, pr, fc, fr, nm, vl⟩ = 3) := by show _ = _; rw [HV.out hm]; simp [valueE, v0]
                          have q0 : (256 : Int) < (vl.size : Int) := by omega
                          clear v0
                          go_wp2_with fail
                          refine (refName_any nm hs _).mono ?_
                          rintro e w' ⟨rfl, hw⟩
                          replace hw := hw.symm
                          subst hw
                          rw [hnl]
                          go_wp2
                          go_ret
                          exact ⟨ret_i HE.out.symm, KN.2.2⟩
                        · have q0 : ¬ (256 : Int) < (vl.size : Int) := by omega
                          by_cases v1 : vl.size = 0
                          · have HE : Hid (checkCh ⟨ac, ar, sq, ds, 1, nc, nr, pc, pr, fc, fr, nm, vl⟩ = 0) := by show _ = _; rw [HV.out hm]; simp [valueE, v0, v1, hasValue]
                            have q8 : (vl.toList == []) = true := by rw [bytes_none v1]; simp [ByteArray.toList_eq]
                            have q9 : (vl.toList != []) = false := by rw [bne, q8]; rfl
                            clear v0 v1
                            go_wp2_with fail
                            refine (refName_any nm hs _).mono ?_
                            rintro e w' ⟨rfl, hw⟩
                            replace hw := hw.symm
                            subst hw
                            rw [hnl]
                            go_wp2
                            go_ret
                            exact ⟨ret_i HE.out.symm, KN.2.2⟩
                          · have HE : Hid (checkCh ⟨ac, ar, sq, ds, 1, nc, nr, pc, pr, fc, fr, nm, vl⟩ = 2) := by show _ = _; rw [HV.out hm]; simp [valueE, v0, v1, hasValue]
                            have q8 : (vl.toList == []) = false := by rw [beq_eq_false_iff_ne]; intro e; exact v1 (by rw [← size_list, ← ByteArray.toList_eq, e]; rfl)
                            have q9 : (vl.toList != []) = true := by rw [bne, q8]; rfl
                            clear v0 v1
                            go_wp2_with fail
                            refine (refName_any nm hs _).mono ?_
                            rintro e w' ⟨rfl, hw⟩
                            replace hw := hw.symm
                            subst hw
                            rw [hnl]
                            go_wp2
                            go_ret
                            exact ⟨ret_i HE.out.symm, KN.2.2⟩
                    · by_cases hz : nm.size = 0
                      · have hm : nameR ⟨ac, ar, sq, ds, 2, nc, nr, pc, pr, fc, fr, nm, vl⟩ = true := by exact (if_neg (show ¬ hasName 2 = true by decide)).trans (by simp [hz])
                        have q6 : (nm.toList == []) = true := by rw [bytes_none hz]; simp [ByteArray.toList_eq]
                        have q7 : (nm.toList != []) = false := by rw [bne, q6]; rfl
                        clear hz
                        by_cases v0 : 256 < vl.size
                        · have HE : Hid (checkCh ⟨ac, ar, sq, ds, 2, nc, nr, pc, pr, fc, fr, nm, vl⟩ = 3) := by show _ = _; rw [HV.out hm]; simp [valueE, v0]
                          have q0 : (256 : Int) < (vl.size : Int) := by omega
                          clear v0
                          go_wp2
                          go_ret
                          exact ⟨ret_i HE.out.symm, KN.2.2⟩
                        · have q0 : ¬ (256 : Int) < (vl.size : Int) := by omega
                          by_cases v1 : vl.size = 0
                          · have HE : Hid (checkCh ⟨ac, ar, sq, ds, 2, nc, nr, pc, pr, fc, fr, nm, vl⟩ = 0) := by show _ = _; rw [HV.out hm]; simp [valueE, v0, v1, hasValue]
                            have q8 : (vl.toList == []) = true := by rw [bytes_none v1]; simp [ByteArray.toList_eq]
                            have q9 : (vl.toList != []) = false := by rw [bne, q8]; rfl
                            clear v0 v1
                            go_wp2
                            go_ret
                            exact ⟨ret_i HE.out.symm, KN.2.2⟩
                          · have HE : Hid (checkCh ⟨ac, ar, sq, ds, 2, nc, nr, pc, pr, fc, fr, nm, vl⟩ = 2) := by show _ = _; rw [HV.out hm]; simp [valueE, v0, v1, hasValue]
                            have q8 : (vl.toList == []) = false := by rw [beq_eq_false_iff_ne]; intro e; exact v1 (by rw [← size_list, ← ByteArray.toList_eq, e]; rfl)
                            have q9 : (vl.toList != []) = true := by rw [bne, q8]; rfl
                            clear v0 v1
                            go_wp2
                            go_ret
                            exact ⟨ret_i HE.out.symm, KN.2.2⟩
                      · have HE : Hid (checkCh ⟨ac, ar, sq, ds, 2, nc, nr, pc, pr, fc, fr, nm, vl⟩ = 8) := HM.out (by exact (if_neg (show ¬ hasName 2 = true by decide)).trans (by simp [hz]))
                        have q6 : (nm.toList == []) = false := by rw [beq_eq_false_iff_ne]; intro e; exact hz (by rw [← size_list, ← ByteArray.toList_eq, e]; rfl)
                        have q7 : (nm.toList != []) = true := by rw [bne, q6]; rfl
                        clear hz
                        go_wp2
                        go_ret
                        exact ⟨ret_i HE.out.symm, KN.2.2⟩
                    · have hnm : nameR ⟨ac, ar, sq, ds, 3, nc, nr, pc, pr, fc, fr, nm, vl⟩ = nameL nm.data.toList := by exact if_pos (show hasName 3 = true by decide)
                      cases hnl : nameL nm.data.toList
                      · have HE : Hid (checkCh ⟨ac, ar, sq, ds, 3, nc, nr, pc, pr, fc, fr, nm, vl⟩ = 8) := HM.out (hnm.trans hnl)
                        clear hnm
                        go_wp2_with fail
                        refine (refName_any nm hs _).mono ?_
                        rintro e w' ⟨rfl, hw⟩
                        replace hw := hw.symm
                        subst hw
                        rw [hnl]
                        go_wp2
                        go_ret
                        exact ⟨ret_i HE.out.symm, KN.2.2⟩
                      · have hm : nameR ⟨ac, ar, sq, ds, 3, nc, nr, pc, pr, fc, fr, nm, vl⟩ = true := hnm.trans hnl
                        clear hnm
                        by_cases v0 : 256 < vl.size
                        · have HE : Hid (checkCh ⟨ac, ar, sq, ds, 3, nc, nr, pc, pr, fc, fr, nm, vl⟩ = 3) := by show _ = _; rw [HV.out hm]; simp [valueE, v0]
                          have q0 : (256 : Int) < (vl.size : Int) := by omega
                          clear v0
                          go_wp2_with fail
                          refine (refName_any nm hs _).mono ?_
                          rintro e w' ⟨rfl, hw⟩
                          replace hw := hw.symm
                          subst hw
                          rw [hnl]
                          go_wp2
                          go_ret
                          exact ⟨ret_i HE.out.symm, KN.2.2⟩
                        · have HE : Hid (checkCh ⟨ac, ar, sq, ds, 3, nc, nr, pc, pr, fc, fr, nm, vl⟩ = 0) := by show _ = _; rw [HV.out hm]; simp [valueE, v0, hasValue]
                          have q0 : ¬ (256 : Int) < (vl.size : Int) := by omega
                          clear v0
                          go_wp2_with fail
                          refine (refName_any nm hs _).mono ?_
                          rintro e w' ⟨rfl, hw⟩
                          replace hw := hw.symm
                          subst hw
                          rw [hnl]
                          go_wp2
                          go_ret
                          exact ⟨ret_i HE.out.symm, KN.2.2⟩
                    · have hnm : nameR ⟨ac, ar, sq, ds, 4, nc, nr, pc, pr, fc, fr, nm, vl⟩ = nameL nm.data.toList := by exact if_pos (show hasName 4 = true by decide)
                      cases hnl : nameL nm.data.toList
                      · have HE : Hid (checkCh ⟨ac, ar, sq, ds, 4, nc, nr, pc, pr, fc, fr, nm, vl⟩ = 8) := HM.out (hnm.trans hnl)
                        clear hnm
                        go_wp2_with fail
                        refine (refName_any nm hs _).mono ?_
                        rintro e w' ⟨rfl, hw⟩
                        replace hw := hw.symm
                        subst hw
                        rw [hnl]
                        go_wp2
                        go_ret
                        exact ⟨ret_i HE.out.symm, KN.2.2⟩
                      · have hm : nameR ⟨ac, ar, sq, ds, 4, nc, nr, pc, pr, fc, fr, nm, vl⟩ = true := hnm.trans hnl
                        clear hnm
                        by_cases v0 : 256 < vl.size
                        · have HE : Hid (checkCh ⟨ac, ar, sq, ds, 4, nc, nr, pc, pr, fc, fr, nm, vl⟩ = 3) := by show _ = _; rw [HV.out hm]; simp [valueE, v0]
                          have q0 : (256 : Int) < (vl.size : Int) := by omega
                          clear v0
                          go_wp2_with fail
                          refine (refName_any nm hs _).mono ?_
                          rintro e w' ⟨rfl, hw⟩
                          replace hw := hw.symm
                          subst hw
                          rw [hnl]
                          go_wp2
                          go_ret
                          exact ⟨ret_i HE.out.symm, KN.2.2⟩
                        · have q0 : ¬ (256 : Int) < (vl.size : Int) := by omega
                          by_cases v1 : vl.size = 0
                          · have HE : Hid (checkCh ⟨ac, ar, sq, ds, 4, nc, nr, pc, pr, fc, fr, nm, vl⟩ = 0) := by show _ = _; rw [HV.out hm]; simp [valueE, v0, v1, hasValue]
                            have q8 : (vl.toList == []) = true := by rw [bytes_none v1]; simp [ByteArray.toList_eq]
                            have q9 : (vl.toList != []) = false := by rw [bne, q8]; rfl
                            clear v0 v1
                            go_wp2_with fail
                            refine (refName_any nm hs _).mono ?_
                            rintro e w' ⟨rfl, hw⟩
                            replace hw := hw.symm
                            subst hw
                            rw [hnl]
                            go_wp2
                            go_ret
                            exact ⟨ret_i HE.out.symm, KN.2.2⟩
                          · have HE : Hid (checkCh ⟨ac, ar, sq, ds, 4, nc, nr, pc, pr, fc, fr, nm, vl⟩ = 2) := by show _ = _; rw [HV.out hm]; simp [valueE, v0, v1, hasValue]
                            have q8 : (vl.toList == []) = false := by rw [beq_eq_false_iff_ne]; intro e; exact v1 (by rw [← size_list, ← ByteArray.toList_eq, e]; rfl)
                            have q9 : (vl.toList != []) = true := by rw [bne, q8]; rfl
                            clear v0 v1
                            go_wp2_with fail
                            refine (refName_any nm hs _).mono ?_
                            rintro e w' ⟨rfl, hw⟩
                            replace hw := hw.symm
                            subst hw
                            rw [hnl]
                            go_wp2
                            go_ret
                            exact ⟨ret_i HE.out.symm, KN.2.2⟩
                    · by_cases hz : nm.size = 0
                      · have hm : nameR ⟨ac, ar, sq, ds, 5, nc, nr, pc, pr, fc, fr, nm, vl⟩ = true := by exact (if_neg (show ¬ hasName 5 = true by decide)).trans (by simp [hz])
                        have q6 : (nm.toList == []) = true := by rw [bytes_none hz]; simp [ByteArray.toList_eq]
                        have q7 : (nm.toList != []) = false := by rw [bne, q6]; rfl
                        clear hz
                        by_cases v0 : 256 < vl.size
                        · have HE : Hid (checkCh ⟨ac, ar, sq, ds, 5, nc, nr, pc, pr, fc, fr, nm, vl⟩ = 3) := by show _ = _; rw [HV.out hm]; simp [valueE, v0]
                          have q0 : (256 : Int) < (vl.size : Int) := by omega
                          clear v0
                          go_wp2
                          go_ret
                          exact ⟨ret_i HE.out.symm, KN.2.2⟩
                        · have HE : Hid (checkCh ⟨ac, ar, sq, ds, 5, nc, nr, pc, pr, fc, fr, nm, vl⟩ = 0) := by show _ = _; rw [HV.out hm]; simp [valueE, v0, hasValue]
                          have q0 : ¬ (256 : Int) < (vl.size : Int) := by omega
                          clear v0
                          go_wp2
                          go_ret
                          exact ⟨ret_i HE.out.symm, KN.2.2⟩
                      · have HE : Hid (checkCh ⟨ac, ar, sq, ds, 5, nc, nr, pc, pr, fc, fr, nm, vl⟩ = 8) := HM.out (by exact (if_neg (show ¬ hasName 5 = true by decide)).trans (by simp [hz]))
                        have q6 : (nm.toList == []) = false := by rw [beq_eq_false_iff_ne]; intro e; exact hz (by rw [← size_list, ← ByteArray.toList_eq, e]; rfl)
                        have q7 : (nm.toList != []) = true := by rw [bne, q6]; rfl
                        clear hz
                        go_wp2
                        go_ret
                        exact ⟨ret_i HE.out.symm, KN.2.2⟩
                · have hd : depsE ⟨ac, ar, sq, ds, kd, nc, nr, pc, pr, fc, fr, nm, vl⟩ = 2 := by simp [depsE, hc, hl, ha]
                  have q1 : (((trimL ds).length : Int) != (ds.length : Int)) = false := by simp [hl]
                  have q2 : (atL ds ar != sq - 1) = true := by simp [ha]
                  have HE : Hid (checkCh ⟨ac, ar, sq, ds, kd, nc, nr, pc, pr, fc, fr, nm, vl⟩ = 2) := by show _ = _; simp [checkCh, h0, hr, s1, s2, hd]
                  clear hl ha hd
                  go_enter Tryz.func49, Tryz.ntmps49
                  go_wp2_with fail
                  refine (refRight_any _ _ _).mono ?_
                  rintro e w1 ⟨rfl, hw⟩
                  rw [hr]
                  have hb1 : Below (w.alloc (.cells #[.int .i64 ac, .int .i64 ar, .int .i64 sq, .slice a1 ds.length c1, .int .i64 kd, .int .i64 nc, .int .i64 nr, .int .i64 pc, .int .i64 pr, .int .i64 fc, .int .i64 fr, .string nm, .string vl] 38)).heap.size (w.alloc (.cells #[.int .i64 ac, .int .i64 ar, .int .i64 sq, .slice a1 ds.length c1, .int .i64 kd, .int .i64 nc, .int .i64 nr, .int .i64 pc, .int .i64 pr, .int .i64 fc, .int .i64 fr, .string nm, .string vl] 38)) w1 := by rw [hw]; exact (Below.refl _ _).alloc (Nat.le_refl _) _
                  clear hw
                  have K1 := K0.step hb1
                  obtain ⟨k_0, k_1, k_2, k_3, k_4, k_5, k_6, k_7, k_8, k_9, k_10, k_11, k_12⟩ := K1.all
                  go_wp2_with fail
                  refine (refCheck_any _ ds _ (H1.out.below K1.2.2)).mono ?_
                  rintro e w' ⟨rfl, hw⟩
                  replace hw := hw.symm
                  subst hw
                  rw [hc]
                  go_wp2_with fail
                  clear k_0 k_1 k_2 k_3 k_4 k_5 k_6 k_7 k_8 k_9 k_10 k_11 k_12
                  refine wp_region_held_drew (S := fun W' => KeptC w w.heap.size [.int .i64 ac, .int .i64 ar, .int .i64 sq, .slice a1 ds.length c1, .int .i64 kd, .int .i64 nc, .int .i64 nr, .int .i64 pc, .int .i64 pr, .int .i64 fc, .int .i64 fr, .string nm, .string vl] W') (by kernel_rfl) K1.drew (fun hHeld => ?_)
                  refine tkW 0 (some 34) (v := ?_) ?_ hHeld ?_
                  rotate_left
                  · (intro w hSw; (try dsimp only at hSw); have hc0 := hSw.1 0 _ rfl; have hc1 := hSw.1 1 _ rfl; have hc2 := hSw.1 2 _ rfl; have hc3 := hSw.1 3 _ rfl; have hc4 := hSw.1 4 _ rfl; have hc5 := hSw.1 5 _ rfl; have hc6 := hSw.1 6 _ rfl; have hc7 := hSw.1 7 _ rfl; have hc8 := hSw.1 8 _ rfl; have hc9 := hSw.1 9 _ rfl; have hc10 := hSw.1 10 _ rfl; have hc11 := hSw.1 11 _ rfl; have hc12 := hSw.1 12 _ rfl; go_simp; try with_reducible rfl)
                  refine tkW 1 (some 35) (v := ?_) ?_ hHeld ?_
                  rotate_left
                  · (intro w hSw; (try dsimp only at hSw); have hc0 := hSw.1 0 _ rfl; have hc1 := hSw.1 1 _ rfl; have hc2 := hSw.1 2 _ rfl; have hc3 := hSw.1 3 _ rfl; have hc4 := hSw.1 4 _ rfl; have hc5 := hSw.1 5 _ rfl; have hc6 := hSw.1 6 _ rfl; have hc7 := hSw.1 7 _ rfl; have hc8 := hSw.1 8 _ rfl; have hc9 := hSw.1 9 _ rfl; have hc10 := hSw.1 10 _ rfl; have hc11 := hSw.1 11 _ rfl; have hc12 := hSw.1 12 _ rfl; go_simp; try with_reducible rfl)
                  refine tkW 4 (some 38) (v := ?_) ?_ hHeld ?_
                  rotate_left
                  · (intro w hSw; (try dsimp only at hSw); have hc0 := hSw.1 0 _ rfl; have hc1 := hSw.1 1 _ rfl; have hc2 := hSw.1 2 _ rfl; have hc3 := hSw.1 3 _ rfl; have hc4 := hSw.1 4 _ rfl; have hc5 := hSw.1 5 _ rfl; have hc6 := hSw.1 6 _ rfl; have hc7 := hSw.1 7 _ rfl; have hc8 := hSw.1 8 _ rfl; have hc9 := hSw.1 9 _ rfl; have hc10 := hSw.1 10 _ rfl; have hc11 := hSw.1 11 _ rfl; have hc12 := hSw.1 12 _ rfl; go_simp; try with_reducible rfl)
                  refine tkW 5 (some 39) (v := ?_) ?_ hHeld ?_
                  rotate_left
                  · (intro w hSw; (try dsimp only at hSw); have hc0 := hSw.1 0 _ rfl; have hc1 := hSw.1 1 _ rfl; have hc2 := hSw.1 2 _ rfl; have hc3 := hSw.1 3 _ rfl; have hc4 := hSw.1 4 _ rfl; have hc5 := hSw.1 5 _ rfl; have hc6 := hSw.1 6 _ rfl; have hc7 := hSw.1 7 _ rfl; have hc8 := hSw.1 8 _ rfl; have hc9 := hSw.1 9 _ rfl; have hc10 := hSw.1 10 _ rfl; have hc11 := hSw.1 11 _ rfl; have hc12 := hSw.1 12 _ rfl; go_simp; try with_reducible rfl)
                  refine tkW 6 (some 40) (v := ?_) ?_ hHeld ?_
                  rotate_left
                  · (intro w hSw; (try dsimp only at hSw); have hc0 := hSw.1 0 _ rfl; have hc1 := hSw.1 1 _ rfl; have hc2 := hSw.1 2 _ rfl; have hc3 := hSw.1 3 _ rfl; have hc4 := hSw.1 4 _ rfl; have hc5 := hSw.1 5 _ rfl; have hc6 := hSw.1 6 _ rfl; have hc7 := hSw.1 7 _ rfl; have hc8 := hSw.1 8 _ rfl; have hc9 := hSw.1 9 _ rfl; have hc10 := hSw.1 10 _ rfl; have hc11 := hSw.1 11 _ rfl; have hc12 := hSw.1 12 _ rfl; go_simp; try with_reducible rfl)
                  refine wpAnyH_ready (rs := [2]) (by kernel_rfl) (by simp) ?_
                  refine AllReadyH.cons (o := ⟨some 36, _, _, _, _, _⟩) rfl (fun K hK => ?_) AllReadyH.nil
                  go_simp
                  have hk3 := hHeld.1 3 _ rfl
                  refine (refTrim_any _ ds _ (H1.out.below hHeld.2.2)).mono ?_
                  rintro e w2 ⟨v4, rfl, ho4, hb⟩
                  obtain ⟨a4, c4, rfl⟩ := ho4.form
                  (try go_wp2_with fail)
                  refine hK.out _ _ (hHeld.step hb) (fun hHeld2 => ?_)
                  clear hK K hHeld
                  have hHeld := hHeld2
                  clear hHeld2
                  (try simp only [Act.put, List.setIfInBounds_toArray, List.set_cons_zero, List.set_cons_succ])
                  refine tkW 3 (some 37) (v := ?_) ?_ hHeld ?_
                  rotate_left
                  · (intro w hSw; (try dsimp only at hSw); have hc0 := hSw.1 0 _ rfl; have hc1 := hSw.1 1 _ rfl; have hc2 := hSw.1 2 _ rfl; have hc3 := hSw.1 3 _ rfl; have hc4 := hSw.1 4 _ rfl; have hc5 := hSw.1 5 _ rfl; have hc6 := hSw.1 6 _ rfl; have hc7 := hSw.1 7 _ rfl; have hc8 := hSw.1 8 _ rfl; have hc9 := hSw.1 9 _ rfl; have hc10 := hSw.1 10 _ rfl; have hc11 := hSw.1 11 _ rfl; have hc12 := hSw.1 12 _ rfl; go_simp; try with_reducible rfl)
                  refine tkW 7 (some 41) (v := ?_) ?_ hHeld ?_
                  rotate_left
                  · (intro w hSw; (try dsimp only at hSw); have hc0 := hSw.1 0 _ rfl; have hc1 := hSw.1 1 _ rfl; have hc2 := hSw.1 2 _ rfl; have hc3 := hSw.1 3 _ rfl; have hc4 := hSw.1 4 _ rfl; have hc5 := hSw.1 5 _ rfl; have hc6 := hSw.1 6 _ rfl; have hc7 := hSw.1 7 _ rfl; have hc8 := hSw.1 8 _ rfl; have hc9 := hSw.1 9 _ rfl; have hc10 := hSw.1 10 _ rfl; have hc11 := hSw.1 11 _ rfl; have hc12 := hSw.1 12 _ rfl; go_simp; try with_reducible rfl)
                  refine tkW 8 (some 42) (v := ?_) ?_ hHeld ?_
                  rotate_left
                  · (intro w hSw; (try dsimp only at hSw); have hc0 := hSw.1 0 _ rfl; have hc1 := hSw.1 1 _ rfl; have hc2 := hSw.1 2 _ rfl; have hc3 := hSw.1 3 _ rfl; have hc4 := hSw.1 4 _ rfl; have hc5 := hSw.1 5 _ rfl; have hc6 := hSw.1 6 _ rfl; have hc7 := hSw.1 7 _ rfl; have hc8 := hSw.1 8 _ rfl; have hc9 := hSw.1 9 _ rfl; have hc10 := hSw.1 10 _ rfl; have hc11 := hSw.1 11 _ rfl; have hc12 := hSw.1 12 _ rfl; go_simp; try with_reducible rfl)
                  refine tkW 9 (some 43) (v := ?_) ?_ hHeld ?_
                  rotate_left
                  · (intro w hSw; (try dsimp only at hSw); have hc0 := hSw.1 0 _ rfl; have hc1 := hSw.1 1 _ rfl; have hc2 := hSw.1 2 _ rfl; have hc3 := hSw.1 3 _ rfl; have hc4 := hSw.1 4 _ rfl; have hc5 := hSw.1 5 _ rfl; have hc6 := hSw.1 6 _ rfl; have hc7 := hSw.1 7 _ rfl; have hc8 := hSw.1 8 _ rfl; have hc9 := hSw.1 9 _ rfl; have hc10 := hSw.1 10 _ rfl; have hc11 := hSw.1 11 _ rfl; have hc12 := hSw.1 12 _ rfl; go_simp; try with_reducible rfl)
                  refine tkW 10 (some 44) (v := ?_) ?_ hHeld ?_
                  rotate_left
                  · (intro w hSw; (try dsimp only at hSw); have hc0 := hSw.1 0 _ rfl; have hc1 := hSw.1 1 _ rfl; have hc2 := hSw.1 2 _ rfl; have hc3 := hSw.1 3 _ rfl; have hc4 := hSw.1 4 _ rfl; have hc5 := hSw.1 5 _ rfl; have hc6 := hSw.1 6 _ rfl; have hc7 := hSw.1 7 _ rfl; have hc8 := hSw.1 8 _ rfl; have hc9 := hSw.1 9 _ rfl; have hc10 := hSw.1 10 _ rfl; have hc11 := hSw.1 11 _ rfl; have hc12 := hSw.1 12 _ rfl; go_simp; try with_reducible rfl)
                  refine tkW 11 (some 45) (v := ?_) ?_ hHeld ?_
                  rotate_left
                  · (intro w hSw; (try dsimp only at hSw); have hc0 := hSw.1 0 _ rfl; have hc1 := hSw.1 1 _ rfl; have hc2 := hSw.1 2 _ rfl; have hc3 := hSw.1 3 _ rfl; have hc4 := hSw.1 4 _ rfl; have hc5 := hSw.1 5 _ rfl; have hc6 := hSw.1 6 _ rfl; have hc7 := hSw.1 7 _ rfl; have hc8 := hSw.1 8 _ rfl; have hc9 := hSw.1 9 _ rfl; have hc10 := hSw.1 10 _ rfl; have hc11 := hSw.1 11 _ rfl; have hc12 := hSw.1 12 _ rfl; go_simp; try with_reducible rfl)
                  refine tkW 12 (some 46) (v := ?_) ?_ hHeld ?_
                  rotate_left
                  · (intro w hSw; (try dsimp only at hSw); have hc0 := hSw.1 0 _ rfl; have hc1 := hSw.1 1 _ rfl; have hc2 := hSw.1 2 _ rfl; have hc3 := hSw.1 3 _ rfl; have hc4 := hSw.1 4 _ rfl; have hc5 := hSw.1 5 _ rfl; have hc6 := hSw.1 6 _ rfl; have hc7 := hSw.1 7 _ rfl; have hc8 := hSw.1 8 _ rfl; have hc9 := hSw.1 9 _ rfl; have hc10 := hSw.1 10 _ rfl; have hc11 := hSw.1 11 _ rfl; have hc12 := hSw.1 12 _ rfl; go_simp; try with_reducible rfl)
                  refine tkW 13 (some 47) (v := ?_) ?_ hHeld ?_
                  rotate_left
                  · (intro w hSw; (try dsimp only at hSw); have hc0 := hSw.1 0 _ rfl; have hc1 := hSw.1 1 _ rfl; have hc2 := hSw.1 2 _ rfl; have hc3 := hSw.1 3 _ rfl; have hc4 := hSw.1 4 _ rfl; have hc5 := hSw.1 5 _ rfl; have hc6 := hSw.1 6 _ rfl; have hc7 := hSw.1 7 _ rfl; have hc8 := hSw.1 8 _ rfl; have hc9 := hSw.1 9 _ rfl; have hc10 := hSw.1 10 _ rfl; have hc11 := hSw.1 11 _ rfl; have hc12 := hSw.1 12 _ rfl; go_simp; try with_reducible rfl)
                  refine tkW 15 (some 49) (v := ?_) ?_ hHeld ?_
                  rotate_left
                  · (intro w hSw; (try dsimp only at hSw); have hc0 := hSw.1 0 _ rfl; have hc1 := hSw.1 1 _ rfl; have hc2 := hSw.1 2 _ rfl; have hc3 := hSw.1 3 _ rfl; have hc4 := hSw.1 4 _ rfl; have hc5 := hSw.1 5 _ rfl; have hc6 := hSw.1 6 _ rfl; have hc7 := hSw.1 7 _ rfl; have hc8 := hSw.1 8 _ rfl; have hc9 := hSw.1 9 _ rfl; have hc10 := hSw.1 10 _ rfl; have hc11 := hSw.1 11 _ rfl; have hc12 := hSw.1 12 _ rfl; go_simp; try with_reducible rfl)
                  refine tkW 16 (some 50) (v := ?_) ?_ hHeld ?_
                  rotate_left
                  · (intro w hSw; (try dsimp only at hSw); have hc0 := hSw.1 0 _ rfl; have hc1 := hSw.1 1 _ rfl; have hc2 := hSw.1 2 _ rfl; have hc3 := hSw.1 3 _ rfl; have hc4 := hSw.1 4 _ rfl; have hc5 := hSw.1 5 _ rfl; have hc6 := hSw.1 6 _ rfl; have hc7 := hSw.1 7 _ rfl; have hc8 := hSw.1 8 _ rfl; have hc9 := hSw.1 9 _ rfl; have hc10 := hSw.1 10 _ rfl; have hc11 := hSw.1 11 _ rfl; have hc12 := hSw.1 12 _ rfl; go_simp; try with_reducible rfl)
                  refine tkW 17 (some 51) (v := ?_) ?_ hHeld ?_
                  rotate_left
                  · (intro w hSw; (try dsimp only at hSw); have hc0 := hSw.1 0 _ rfl; have hc1 := hSw.1 1 _ rfl; have hc2 := hSw.1 2 _ rfl; have hc3 := hSw.1 3 _ rfl; have hc4 := hSw.1 4 _ rfl; have hc5 := hSw.1 5 _ rfl; have hc6 := hSw.1 6 _ rfl; have hc7 := hSw.1 7 _ rfl; have hc8 := hSw.1 8 _ rfl; have hc9 := hSw.1 9 _ rfl; have hc10 := hSw.1 10 _ rfl; have hc11 := hSw.1 11 _ rfl; have hc12 := hSw.1 12 _ rfl; go_simp; try with_reducible rfl)
                  refine wpAnyH_ready (rs := [14]) (by kernel_rfl) (by simp) ?_
                  refine AllReadyH.cons (o := ⟨some 48, _, _, _, _, _⟩) rfl (fun K hK => ?_) AllReadyH.nil
                  go_simp
                  have hk3 := hHeld.1 3 _ rfl
                  refine (refAt_any _ ds ar _ (H1.out.below hHeld.2.2)).mono ?_
                  rintro e w' ⟨rfl, hw⟩
                  replace hw := hw.symm
                  subst hw
                  (try go_wp2_with fail)
                  refine hK.out _ _ (hHeld) (fun hHeld2 => ?_)
                  clear hK K hHeld
                  have hHeld := hHeld2
                  clear hHeld2
                  (try simp only [Act.put, List.setIfInBounds_toArray, List.set_cons_zero, List.set_cons_succ])
                  refine tkW 18 (some 52) (v := ?_) ?_ hHeld ?_
                  rotate_left
                  · (intro w hSw; (try dsimp only at hSw); have hc0 := hSw.1 0 _ rfl; have hc1 := hSw.1 1 _ rfl; have hc2 := hSw.1 2 _ rfl; have hc3 := hSw.1 3 _ rfl; have hc4 := hSw.1 4 _ rfl; have hc5 := hSw.1 5 _ rfl; have hc6 := hSw.1 6 _ rfl; have hc7 := hSw.1 7 _ rfl; have hc8 := hSw.1 8 _ rfl; have hc9 := hSw.1 9 _ rfl; have hc10 := hSw.1 10 _ rfl; have hc11 := hSw.1 11 _ rfl; have hc12 := hSw.1 12 _ rfl; go_simp; try with_reducible rfl)
                  refine tkW 19 (some 53) (v := ?_) ?_ hHeld ?_
                  rotate_left
                  · (intro w hSw; (try dsimp only at hSw); have hc0 := hSw.1 0 _ rfl; have hc1 := hSw.1 1 _ rfl; have hc2 := hSw.1 2 _ rfl; have hc3 := hSw.1 3 _ rfl; have hc4 := hSw.1 4 _ rfl; have hc5 := hSw.1 5 _ rfl; have hc6 := hSw.1 6 _ rfl; have hc7 := hSw.1 7 _ rfl; have hc8 := hSw.1 8 _ rfl; have hc9 := hSw.1 9 _ rfl; have hc10 := hSw.1 10 _ rfl; have hc11 := hSw.1 11 _ rfl; have hc12 := hSw.1 12 _ rfl; go_simp; try with_reducible rfl)
                  refine tkW 20 (some 54) (v := ?_) ?_ hHeld ?_
                  rotate_left
                  · (intro w hSw; (try dsimp only at hSw); have hc0 := hSw.1 0 _ rfl; have hc1 := hSw.1 1 _ rfl; have hc2 := hSw.1 2 _ rfl; have hc3 := hSw.1 3 _ rfl; have hc4 := hSw.1 4 _ rfl; have hc5 := hSw.1 5 _ rfl; have hc6 := hSw.1 6 _ rfl; have hc7 := hSw.1 7 _ rfl; have hc8 := hSw.1 8 _ rfl; have hc9 := hSw.1 9 _ rfl; have hc10 := hSw.1 10 _ rfl; have hc11 := hSw.1 11 _ rfl; have hc12 := hSw.1 12 _ rfl; go_simp; try with_reducible rfl)
                  refine tkU 21 (some 55) hHeld ?_
                  refine tkU 22 (some 56) hHeld ?_
                  refine tkU 23 (some 57) hHeld ?_
                  refine tkW 24 (some 58) (v := ?_) ?_ hHeld ?_
                  rotate_left
                  · (intro w hSw; (try dsimp only at hSw); have hc0 := hSw.1 0 _ rfl; have hc1 := hSw.1 1 _ rfl; have hc2 := hSw.1 2 _ rfl; have hc3 := hSw.1 3 _ rfl; have hc4 := hSw.1 4 _ rfl; have hc5 := hSw.1 5 _ rfl; have hc6 := hSw.1 6 _ rfl; have hc7 := hSw.1 7 _ rfl; have hc8 := hSw.1 8 _ rfl; have hc9 := hSw.1 9 _ rfl; have hc10 := hSw.1 10 _ rfl; have hc11 := hSw.1 11 _ rfl; have hc12 := hSw.1 12 _ rfl; go_simp; try with_reducible rfl)
                  refine wpAnyH_done (by kernel_rfl) ?_ _
                  have KN := hHeld
                  clear hHeld
                  go_wp2
                  go_ret
                  exact ⟨ret_i HE.out.symm, KN.2.2⟩
              · have hd : depsE ⟨ac, ar, sq, ds, kd, nc, nr, pc, pr, fc, fr, nm, vl⟩ = 2 := by simp [depsE, hc, hl]
                have q1 : (((trimL ds).length : Int) != (ds.length : Int)) = true := by simp; omega
                have HE : Hid (checkCh ⟨ac, ar, sq, ds, kd, nc, nr, pc, pr, fc, fr, nm, vl⟩ = 2) := by show _ = _; simp [checkCh, h0, hr, s1, s2, hd]
                clear hl hd
                go_enter Tryz.func49, Tryz.ntmps49
                go_wp2_with fail
                refine (refRight_any _ _ _).mono ?_
                rintro e w1 ⟨rfl, hw⟩
                rw [hr]
                have hb1 : Below (w.alloc (.cells #[.int .i64 ac, .int .i64 ar, .int .i64 sq, .slice a1 ds.length c1, .int .i64 kd, .int .i64 nc, .int .i64 nr, .int .i64 pc, .int .i64 pr, .int .i64 fc, .int .i64 fr, .string nm, .string vl] 38)).heap.size (w.alloc (.cells #[.int .i64 ac, .int .i64 ar, .int .i64 sq, .slice a1 ds.length c1, .int .i64 kd, .int .i64 nc, .int .i64 nr, .int .i64 pc, .int .i64 pr, .int .i64 fc, .int .i64 fr, .string nm, .string vl] 38)) w1 := by rw [hw]; exact (Below.refl _ _).alloc (Nat.le_refl _) _
                clear hw
                have K1 := K0.step hb1
                obtain ⟨k_0, k_1, k_2, k_3, k_4, k_5, k_6, k_7, k_8, k_9, k_10, k_11, k_12⟩ := K1.all
                go_wp2_with fail
                refine (refCheck_any _ ds _ (H1.out.below K1.2.2)).mono ?_
                rintro e w' ⟨rfl, hw⟩
                replace hw := hw.symm
                subst hw
                rw [hc]
                go_wp2_with fail
                clear k_0 k_1 k_2 k_3 k_4 k_5 k_6 k_7 k_8 k_9 k_10 k_11 k_12
                refine wp_region_held_drew (S := fun W' => KeptC w w.heap.size [.int .i64 ac, .int .i64 ar, .int .i64 sq, .slice a1 ds.length c1, .int .i64 kd, .int .i64 nc, .int .i64 nr, .int .i64 pc, .int .i64 pr, .int .i64 fc, .int .i64 fr, .string nm, .string vl] W') (by kernel_rfl) K1.drew (fun hHeld => ?_)
                refine tkW 0 (some 34) (v := ?_) ?_ hHeld ?_
                rotate_left
                · (intro w hSw; (try dsimp only at hSw); have hc0 := hSw.1 0 _ rfl; have hc1 := hSw.1 1 _ rfl; have hc2 := hSw.1 2 _ rfl; have hc3 := hSw.1 3 _ rfl; have hc4 := hSw.1 4 _ rfl; have hc5 := hSw.1 5 _ rfl; have hc6 := hSw.1 6 _ rfl; have hc7 := hSw.1 7 _ rfl; have hc8 := hSw.1 8 _ rfl; have hc9 := hSw.1 9 _ rfl; have hc10 := hSw.1 10 _ rfl; have hc11 := hSw.1 11 _ rfl; have hc12 := hSw.1 12 _ rfl; go_simp; try with_reducible rfl)
                refine tkW 1 (some 35) (v := ?_) ?_ hHeld ?_
                rotate_left
                · (intro w hSw; (try dsimp only at hSw); have hc0 := hSw.1 0 _ rfl; have hc1 := hSw.1 1 _ rfl; have hc2 := hSw.1 2 _ rfl; have hc3 := hSw.1 3 _ rfl; have hc4 := hSw.1 4 _ rfl; have hc5 := hSw.1 5 _ rfl; have hc6 := hSw.1 6 _ rfl; have hc7 := hSw.1 7 _ rfl; have hc8 := hSw.1 8 _ rfl; have hc9 := hSw.1 9 _ rfl; have hc10 := hSw.1 10 _ rfl; have hc11 := hSw.1 11 _ rfl; have hc12 := hSw.1 12 _ rfl; go_simp; try with_reducible rfl)
                refine tkW 4 (some 38) (v := ?_) ?_ hHeld ?_
                rotate_left
                · (intro w hSw; (try dsimp only at hSw); have hc0 := hSw.1 0 _ rfl; have hc1 := hSw.1 1 _ rfl; have hc2 := hSw.1 2 _ rfl; have hc3 := hSw.1 3 _ rfl; have hc4 := hSw.1 4 _ rfl; have hc5 := hSw.1 5 _ rfl; have hc6 := hSw.1 6 _ rfl; have hc7 := hSw.1 7 _ rfl; have hc8 := hSw.1 8 _ rfl; have hc9 := hSw.1 9 _ rfl; have hc10 := hSw.1 10 _ rfl; have hc11 := hSw.1 11 _ rfl; have hc12 := hSw.1 12 _ rfl; go_simp; try with_reducible rfl)
                refine tkW 5 (some 39) (v := ?_) ?_ hHeld ?_
                rotate_left
                · (intro w hSw; (try dsimp only at hSw); have hc0 := hSw.1 0 _ rfl; have hc1 := hSw.1 1 _ rfl; have hc2 := hSw.1 2 _ rfl; have hc3 := hSw.1 3 _ rfl; have hc4 := hSw.1 4 _ rfl; have hc5 := hSw.1 5 _ rfl; have hc6 := hSw.1 6 _ rfl; have hc7 := hSw.1 7 _ rfl; have hc8 := hSw.1 8 _ rfl; have hc9 := hSw.1 9 _ rfl; have hc10 := hSw.1 10 _ rfl; have hc11 := hSw.1 11 _ rfl; have hc12 := hSw.1 12 _ rfl; go_simp; try with_reducible rfl)
                refine tkW 6 (some 40) (v := ?_) ?_ hHeld ?_
                rotate_left
                · (intro w hSw; (try dsimp only at hSw); have hc0 := hSw.1 0 _ rfl; have hc1 := hSw.1 1 _ rfl; have hc2 := hSw.1 2 _ rfl; have hc3 := hSw.1 3 _ rfl; have hc4 := hSw.1 4 _ rfl; have hc5 := hSw.1 5 _ rfl; have hc6 := hSw.1 6 _ rfl; have hc7 := hSw.1 7 _ rfl; have hc8 := hSw.1 8 _ rfl; have hc9 := hSw.1 9 _ rfl; have hc10 := hSw.1 10 _ rfl; have hc11 := hSw.1 11 _ rfl; have hc12 := hSw.1 12 _ rfl; go_simp; try with_reducible rfl)
                refine wpAnyH_ready (rs := [2]) (by kernel_rfl) (by simp) ?_
                refine AllReadyH.cons (o := ⟨some 36, _, _, _, _, _⟩) rfl (fun K hK => ?_) AllReadyH.nil
                go_simp
                have hk3 := hHeld.1 3 _ rfl
                refine (refTrim_any _ ds _ (H1.out.below hHeld.2.2)).mono ?_
                rintro e w2 ⟨v4, rfl, ho4, hb⟩
                obtain ⟨a4, c4, rfl⟩ := ho4.form
                (try go_wp2_with fail)
                refine hK.out _ _ (hHeld.step hb) (fun hHeld2 => ?_)
                clear hK K hHeld
                have hHeld := hHeld2
                clear hHeld2
                (try simp only [Act.put, List.setIfInBounds_toArray, List.set_cons_zero, List.set_cons_succ])
                refine tkW 3 (some 37) (v := ?_) ?_ hHeld ?_
                rotate_left
                · (intro w hSw; (try dsimp only at hSw); have hc0 := hSw.1 0 _ rfl; have hc1 := hSw.1 1 _ rfl; have hc2 := hSw.1 2 _ rfl; have hc3 := hSw.1 3 _ rfl; have hc4 := hSw.1 4 _ rfl; have hc5 := hSw.1 5 _ rfl; have hc6 := hSw.1 6 _ rfl; have hc7 := hSw.1 7 _ rfl; have hc8 := hSw.1 8 _ rfl; have hc9 := hSw.1 9 _ rfl; have hc10 := hSw.1 10 _ rfl; have hc11 := hSw.1 11 _ rfl; have hc12 := hSw.1 12 _ rfl; go_simp; try with_reducible rfl)
                refine tkW 7 (some 41) (v := ?_) ?_ hHeld ?_
                rotate_left
                · (intro w hSw; (try dsimp only at hSw); have hc0 := hSw.1 0 _ rfl; have hc1 := hSw.1 1 _ rfl; have hc2 := hSw.1 2 _ rfl; have hc3 := hSw.1 3 _ rfl; have hc4 := hSw.1 4 _ rfl; have hc5 := hSw.1 5 _ rfl; have hc6 := hSw.1 6 _ rfl; have hc7 := hSw.1 7 _ rfl; have hc8 := hSw.1 8 _ rfl; have hc9 := hSw.1 9 _ rfl; have hc10 := hSw.1 10 _ rfl; have hc11 := hSw.1 11 _ rfl; have hc12 := hSw.1 12 _ rfl; go_simp; try with_reducible rfl)
                refine tkW 8 (some 42) (v := ?_) ?_ hHeld ?_
                rotate_left
                · (intro w hSw; (try dsimp only at hSw); have hc0 := hSw.1 0 _ rfl; have hc1 := hSw.1 1 _ rfl; have hc2 := hSw.1 2 _ rfl; have hc3 := hSw.1 3 _ rfl; have hc4 := hSw.1 4 _ rfl; have hc5 := hSw.1 5 _ rfl; have hc6 := hSw.1 6 _ rfl; have hc7 := hSw.1 7 _ rfl; have hc8 := hSw.1 8 _ rfl; have hc9 := hSw.1 9 _ rfl; have hc10 := hSw.1 10 _ rfl; have hc11 := hSw.1 11 _ rfl; have hc12 := hSw.1 12 _ rfl; go_simp; try with_reducible rfl)
                refine tkU 9 (some 43) hHeld ?_
                refine tkU 10 (some 44) hHeld ?_
                refine tkU 11 (some 45) hHeld ?_
                refine tkU 12 (some 46) hHeld ?_
                refine tkU 13 (some 47) hHeld ?_
                refine tkU 14 (some 48) hHeld ?_
                refine tkU 15 (some 49) hHeld ?_
                refine tkU 16 (some 50) hHeld ?_
                refine tkU 17 (some 51) hHeld ?_
                refine tkU 18 (some 52) hHeld ?_
                refine tkW 19 (some 53) (v := ?_) ?_ hHeld ?_
                rotate_left
                · (intro w hSw; (try dsimp only at hSw); have hc0 := hSw.1 0 _ rfl; have hc1 := hSw.1 1 _ rfl; have hc2 := hSw.1 2 _ rfl; have hc3 := hSw.1 3 _ rfl; have hc4 := hSw.1 4 _ rfl; have hc5 := hSw.1 5 _ rfl; have hc6 := hSw.1 6 _ rfl; have hc7 := hSw.1 7 _ rfl; have hc8 := hSw.1 8 _ rfl; have hc9 := hSw.1 9 _ rfl; have hc10 := hSw.1 10 _ rfl; have hc11 := hSw.1 11 _ rfl; have hc12 := hSw.1 12 _ rfl; go_simp; try with_reducible rfl)
                refine tkW 20 (some 54) (v := ?_) ?_ hHeld ?_
                rotate_left
                · (intro w hSw; (try dsimp only at hSw); have hc0 := hSw.1 0 _ rfl; have hc1 := hSw.1 1 _ rfl; have hc2 := hSw.1 2 _ rfl; have hc3 := hSw.1 3 _ rfl; have hc4 := hSw.1 4 _ rfl; have hc5 := hSw.1 5 _ rfl; have hc6 := hSw.1 6 _ rfl; have hc7 := hSw.1 7 _ rfl; have hc8 := hSw.1 8 _ rfl; have hc9 := hSw.1 9 _ rfl; have hc10 := hSw.1 10 _ rfl; have hc11 := hSw.1 11 _ rfl; have hc12 := hSw.1 12 _ rfl; go_simp; try with_reducible rfl)
                refine tkU 21 (some 55) hHeld ?_
                refine tkU 22 (some 56) hHeld ?_
                refine tkU 23 (some 57) hHeld ?_
                refine tkW 24 (some 58) (v := ?_) ?_ hHeld ?_
                rotate_left
                · (intro w hSw; (try dsimp only at hSw); have hc0 := hSw.1 0 _ rfl; have hc1 := hSw.1 1 _ rfl; have hc2 := hSw.1 2 _ rfl; have hc3 := hSw.1 3 _ rfl; have hc4 := hSw.1 4 _ rfl; have hc5 := hSw.1 5 _ rfl; have hc6 := hSw.1 6 _ rfl; have hc7 := hSw.1 7 _ rfl; have hc8 := hSw.1 8 _ rfl; have hc9 := hSw.1 9 _ rfl; have hc10 := hSw.1 10 _ rfl; have hc11 := hSw.1 11 _ rfl; have hc12 := hSw.1 12 _ rfl; go_simp; try with_reducible rfl)
                refine wpAnyH_done (by kernel_rfl) ?_ _
                have KN := hHeld
                clear hHeld
                go_wp2
                go_ret
                exact ⟨ret_i HE.out.symm, KN.2.2⟩
            · have hd : depsE ⟨ac, ar, sq, ds, kd, nc, nr, pc, pr, fc, fr, nm, vl⟩ = checkL ds := by simp [depsE, hc]
              have HE : Hid (checkCh ⟨ac, ar, sq, ds, kd, nc, nr, pc, pr, fc, fr, nm, vl⟩ = checkL ds) := by show _ = _; simp [checkCh, h0, hr, s1, s2, hd, hc]
              have q : (checkL ds != 0) = true := by simp [hc]
              clear hd
              go_enter Tryz.func49, Tryz.ntmps49
              go_wp2_with fail
              refine (refRight_any _ _ _).mono ?_
              rintro e w1 ⟨rfl, hw⟩
              rw [hr]
              have hb1 : Below (w.alloc (.cells #[.int .i64 ac, .int .i64 ar, .int .i64 sq, .slice a1 ds.length c1, .int .i64 kd, .int .i64 nc, .int .i64 nr, .int .i64 pc, .int .i64 pr, .int .i64 fc, .int .i64 fr, .string nm, .string vl] 38)).heap.size (w.alloc (.cells #[.int .i64 ac, .int .i64 ar, .int .i64 sq, .slice a1 ds.length c1, .int .i64 kd, .int .i64 nc, .int .i64 nr, .int .i64 pc, .int .i64 pr, .int .i64 fc, .int .i64 fr, .string nm, .string vl] 38)) w1 := by rw [hw]; exact (Below.refl _ _).alloc (Nat.le_refl _) _
              clear hw
              have K1 := K0.step hb1
              obtain ⟨k_0, k_1, k_2, k_3, k_4, k_5, k_6, k_7, k_8, k_9, k_10, k_11, k_12⟩ := K1.all
              go_wp2_with fail
              refine (refCheck_any _ ds _ (H1.out.below K1.2.2)).mono ?_
              rintro e w' ⟨rfl, hw⟩
              replace hw := hw.symm
              subst hw
              go_wp2_with fail
              refine (refCheck_any _ ds _ (H1.out.below K1.2.2)).mono ?_
              rintro e w' ⟨rfl, hw⟩
              replace hw := hw.symm
              subst hw
              go_wp2
              go_ret
              exact ⟨ret_i HE.out.symm, K1.2.2⟩
          · have HE : Hid (checkCh ⟨ac, ar, sq, ds, kd, nc, nr, pc, pr, fc, fr, nm, vl⟩ = 1) := by show _ = _; simp [checkCh, h0, hr, s1, s2]
            go_enter Tryz.func49, Tryz.ntmps49
            go_wp2_with fail
            refine (refRight_any _ _ _).mono ?_
            rintro e w1 ⟨rfl, hw⟩
            rw [hr]
            have hb1 : Below (w.alloc (.cells #[.int .i64 ac, .int .i64 ar, .int .i64 sq, .slice a1 ds.length c1, .int .i64 kd, .int .i64 nc, .int .i64 nr, .int .i64 pc, .int .i64 pr, .int .i64 fc, .int .i64 fr, .string nm, .string vl] 38)).heap.size (w.alloc (.cells #[.int .i64 ac, .int .i64 ar, .int .i64 sq, .slice a1 ds.length c1, .int .i64 kd, .int .i64 nc, .int .i64 nr, .int .i64 pc, .int .i64 pr, .int .i64 fc, .int .i64 fr, .string nm, .string vl] 38)) w1 := by rw [hw]; exact (Below.refl _ _).alloc (Nat.le_refl _) _
            clear hw
            have K1 := K0.step hb1
            obtain ⟨k_0, k_1, k_2, k_3, k_4, k_5, k_6, k_7, k_8, k_9, k_10, k_11, k_12⟩ := K1.all
            go_wp2
            go_ret
            exact ⟨ret_i HE.out.symm, K1.2.2⟩
        · have HE : Hid (checkCh ⟨ac, ar, sq, ds, kd, nc, nr, pc, pr, fc, fr, nm, vl⟩ = 1) := by show _ = _; simp [checkCh, h0, hr, s1]
          go_enter Tryz.func49, Tryz.ntmps49
          go_wp2_with fail
          refine (refRight_any _ _ _).mono ?_
          rintro e w1 ⟨rfl, hw⟩
          rw [hr]
          have hb1 : Below (w.alloc (.cells #[.int .i64 ac, .int .i64 ar, .int .i64 sq, .slice a1 ds.length c1, .int .i64 kd, .int .i64 nc, .int .i64 nr, .int .i64 pc, .int .i64 pr, .int .i64 fc, .int .i64 fr, .string nm, .string vl] 38)).heap.size (w.alloc (.cells #[.int .i64 ac, .int .i64 ar, .int .i64 sq, .slice a1 ds.length c1, .int .i64 kd, .int .i64 nc, .int .i64 nr, .int .i64 pc, .int .i64 pr, .int .i64 fc, .int .i64 fr, .string nm, .string vl] 38)) w1 := by rw [hw]; exact (Below.refl _ _).alloc (Nat.le_refl _) _
          clear hw
          have K1 := K0.step hb1
          obtain ⟨k_0, k_1, k_2, k_3, k_4, k_5, k_6, k_7, k_8, k_9, k_10, k_11, k_12⟩ := K1.all
          go_wp2
          go_ret
          exact ⟨ret_i HE.out.symm, K1.2.2⟩
    · have HE : Hid (checkCh ⟨ac, ar, sq, ds, kd, nc, nr, pc, pr, fc, fr, nm, vl⟩ = 1) := by show _ = _; simp [checkCh, kindB, g2]
      go_enter Tryz.func49, Tryz.ntmps49
      go_wp2
      go_ret
      exact ⟨ret_i HE.out.symm, K0.2.2⟩
  · have HE : Hid (checkCh ⟨ac, ar, sq, ds, kd, nc, nr, pc, pr, fc, fr, nm, vl⟩ = 1) := by show _ = _; simp [checkCh, kindB, g1]
    go_enter Tryz.func49, Tryz.ntmps49
    go_wp2
    go_ret
    exact ⟨ret_i HE.out.symm, K0.2.2⟩

end Go.Proofs.YtngldpabfpcaiaaGreat
