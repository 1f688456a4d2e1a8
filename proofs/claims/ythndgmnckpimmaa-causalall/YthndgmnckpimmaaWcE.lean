/- What Check does, for every change. -/
import Derived.Test.YthndgmnckpimmaaWcD
import Derived.Test.YthndgmnckpimmaaWcP
namespace Go.Proofs.Ythndgmnckpimmaa
open Go.RowKit
set_option linter.unusedVariables false
set_option linter.unusedSimpArgs false

set_option maxRecDepth 100000 in
set_option maxHeartbeats 8000000 in
/-- change.Check. -/
theorem checkCh_any (ac ar sq : Int) (dv : Value) (kd nc nr pc pr fc fr : Int) (nm vl : ByteArray) (ds : List Int) (hs : nm.size ≤ 281474976710656) (w : World) (h1 : IsI w dv ds) :
    Calls Try.prog 56 #[.agg #[.int .i64 ac, .int .i64 ar, .int .i64 sq, dv, .int .i64 kd, .int .i64 nc, .int .i64 nr, .int .i64 pc, .int .i64 pr, .int .i64 fc, .int .i64 fr, .string nm, .string vl]] w fun e w' => e = .returned (.int .i64 (checkCh ⟨ac, ar, sq, ds, kd, nc, nr, pc, pr, fc, fr, nm, vl⟩)) ∧ Below w.heap.size w w' := by
  have K0 := KeptC.start w #[.int .i64 ac, .int .i64 ar, .int .i64 sq, dv, .int .i64 kd, .int .i64 nc, .int .i64 nr, .int .i64 pc, .int .i64 pr, .int .i64 fc, .int .i64 fr, .string nm, .string vl].toList 35
  have H1 : Hid (IsI w dv ds) := h1
  clear h1
  cases h0 : kindB kd
  · have HE : Hid (checkCh ⟨ac, ar, sq, ds, kd, nc, nr, pc, pr, fc, fr, nm, vl⟩ = 1) := by show _ = _; simp [checkCh, h0]
    go_enter Try.func56, Try.ntmps56
    go_wp2_with fail
    refine (isKind_any _ _).mono ?_
    rintro e w' ⟨rfl, hw⟩
    replace hw := hw.symm
    subst hw
    rw [h0]
    go_wp2
    go_ret
    exact ⟨ret_i HE.out.symm, K0.2.2⟩
  · cases hr : rightB ac ar
    · have HE : Hid (checkCh ⟨ac, ar, sq, ds, kd, nc, nr, pc, pr, fc, fr, nm, vl⟩ = 2) := by show _ = _; simp [checkCh, h0, hr]
      go_enter Try.func56, Try.ntmps56
      go_wp2_with fail
      refine (isKind_any _ _).mono ?_
      rintro e w' ⟨rfl, hw⟩
      replace hw := hw.symm
      subst hw
      rw [h0]
      go_wp2_with fail
      refine (right_any _ _ _).mono ?_
      rintro e w1 ⟨rfl, hw⟩
      rw [hr]
      have hb1 : Below (w.alloc (.cells #[.int .i64 ac, .int .i64 ar, .int .i64 sq, dv, .int .i64 kd, .int .i64 nc, .int .i64 nr, .int .i64 pc, .int .i64 pr, .int .i64 fc, .int .i64 fr, .string nm, .string vl] 35)).heap.size (w.alloc (.cells #[.int .i64 ac, .int .i64 ar, .int .i64 sq, dv, .int .i64 kd, .int .i64 nc, .int .i64 nr, .int .i64 pc, .int .i64 pr, .int .i64 fc, .int .i64 fr, .string nm, .string vl] 35)) w1 := by rw [hw]; exact (Below.refl _ _).alloc (Nat.le_refl _) _
      clear hw
      have K1 := K0.step hb1
      obtain ⟨k1_0, k1_1, k1_2, k1_3, k1_4, k1_5, k1_6, k1_7, k1_8, k1_9, k1_10, k1_11, k1_12⟩ := K1.all
      go_wp2
      go_ret
      exact ⟨ret_i HE.out.symm, K1.2.2⟩
    · have hac : ac ≤ 1099511627776 := by unfold rightB at hr; simp only [decide_eq_true_eq] at hr; omega
      by_cases h3 : 1 ≤ sq ∧ sq ≤ ac
      · obtain ⟨s1, s2⟩ := h3
        by_cases hd : depsE ⟨ac, ar, sq, ds, kd, nc, nr, pc, pr, fc, fr, nm, vl⟩ = 0
        · cases hn : nodeR ⟨ac, ar, sq, ds, kd, nc, nr, pc, pr, fc, fr, nm, vl⟩
          · have HE : Hid (checkCh ⟨ac, ar, sq, ds, kd, nc, nr, pc, pr, fc, fr, nm, vl⟩ = 2) := by show _ = _; simp [checkCh, h0, hr, s1, s2, hd, hn]
            go_enter Try.func56, Try.ntmps56
            go_wp2_with fail
            refine (isKind_any _ _).mono ?_
            rintro e w' ⟨rfl, hw⟩
            replace hw := hw.symm
            subst hw
            rw [h0]
            go_wp2_with fail
            refine (right_any _ _ _).mono ?_
            rintro e w1 ⟨rfl, hw⟩
            rw [hr]
            have hb1 : Below (w.alloc (.cells #[.int .i64 ac, .int .i64 ar, .int .i64 sq, dv, .int .i64 kd, .int .i64 nc, .int .i64 nr, .int .i64 pc, .int .i64 pr, .int .i64 fc, .int .i64 fr, .string nm, .string vl] 35)).heap.size (w.alloc (.cells #[.int .i64 ac, .int .i64 ar, .int .i64 sq, dv, .int .i64 kd, .int .i64 nc, .int .i64 nr, .int .i64 pc, .int .i64 pr, .int .i64 fc, .int .i64 fr, .string nm, .string vl] 35)) w1 := by rw [hw]; exact (Below.refl _ _).alloc (Nat.le_refl _) _
            clear hw
            have K1 := K0.step hb1
            obtain ⟨k1_0, k1_1, k1_2, k1_3, k1_4, k1_5, k1_6, k1_7, k1_8, k1_9, k1_10, k1_11, k1_12⟩ := K1.all
            go_wp2_with fail
            refine (checkDeps_any ac ar sq dv kd nc nr pc pr fc fr nm vl ds _ (H1.out.below K1.2.2) s1 (by omega)).mono ?_
            rintro e w2 ⟨rfl, hb2⟩
            rw [hd]
            have K2 := K1.step hb2
            clear k1_0 k1_1 k1_2 k1_3 k1_4 k1_5 k1_6 k1_7 k1_8 k1_9 k1_10 k1_11 k1_12
            obtain ⟨k2_0, k2_1, k2_2, k2_3, k2_4, k2_5, k2_6, k2_7, k2_8, k2_9, k2_10, k2_11, k2_12⟩ := K2.all
            go_wp2_with fail
            refine (isNodeRight_any ac ar sq dv kd nc nr pc pr fc fr nm vl ds _).mono ?_
            rintro e w3 ⟨rfl, hb3⟩
            rw [hn]
            have K3 := K2.step hb3
            clear k2_0 k2_1 k2_2 k2_3 k2_4 k2_5 k2_6 k2_7 k2_8 k2_9 k2_10 k2_11 k2_12
            obtain ⟨k3_0, k3_1, k3_2, k3_3, k3_4, k3_5, k3_6, k3_7, k3_8, k3_9, k3_10, k3_11, k3_12⟩ := K3.all
            go_wp2
            go_ret
            exact ⟨ret_i HE.out.symm, K3.2.2⟩
          · cases hp : placeR ⟨ac, ar, sq, ds, kd, nc, nr, pc, pr, fc, fr, nm, vl⟩
            · have HE : Hid (checkCh ⟨ac, ar, sq, ds, kd, nc, nr, pc, pr, fc, fr, nm, vl⟩ = 2) := by show _ = _; simp [checkCh, h0, hr, s1, s2, hd, hn, hp]
              go_enter Try.func56, Try.ntmps56
              go_wp2_with fail
              refine (isKind_any _ _).mono ?_
              rintro e w' ⟨rfl, hw⟩
              replace hw := hw.symm
              subst hw
              rw [h0]
              go_wp2_with fail
              refine (right_any _ _ _).mono ?_
              rintro e w1 ⟨rfl, hw⟩
              rw [hr]
              have hb1 : Below (w.alloc (.cells #[.int .i64 ac, .int .i64 ar, .int .i64 sq, dv, .int .i64 kd, .int .i64 nc, .int .i64 nr, .int .i64 pc, .int .i64 pr, .int .i64 fc, .int .i64 fr, .string nm, .string vl] 35)).heap.size (w.alloc (.cells #[.int .i64 ac, .int .i64 ar, .int .i64 sq, dv, .int .i64 kd, .int .i64 nc, .int .i64 nr, .int .i64 pc, .int .i64 pr, .int .i64 fc, .int .i64 fr, .string nm, .string vl] 35)) w1 := by rw [hw]; exact (Below.refl _ _).alloc (Nat.le_refl _) _
              clear hw
              have K1 := K0.step hb1
              obtain ⟨k1_0, k1_1, k1_2, k1_3, k1_4, k1_5, k1_6, k1_7, k1_8, k1_9, k1_10, k1_11, k1_12⟩ := K1.all
              go_wp2_with fail
              refine (checkDeps_any ac ar sq dv kd nc nr pc pr fc fr nm vl ds _ (H1.out.below K1.2.2) s1 (by omega)).mono ?_
              rintro e w2 ⟨rfl, hb2⟩
              rw [hd]
              have K2 := K1.step hb2
              clear k1_0 k1_1 k1_2 k1_3 k1_4 k1_5 k1_6 k1_7 k1_8 k1_9 k1_10 k1_11 k1_12
              obtain ⟨k2_0, k2_1, k2_2, k2_3, k2_4, k2_5, k2_6, k2_7, k2_8, k2_9, k2_10, k2_11, k2_12⟩ := K2.all
              go_wp2_with fail
              refine (isNodeRight_any ac ar sq dv kd nc nr pc pr fc fr nm vl ds _).mono ?_
              rintro e w3 ⟨rfl, hb3⟩
              rw [hn]
              have K3 := K2.step hb3
              clear k2_0 k2_1 k2_2 k2_3 k2_4 k2_5 k2_6 k2_7 k2_8 k2_9 k2_10 k2_11 k2_12
              obtain ⟨k3_0, k3_1, k3_2, k3_3, k3_4, k3_5, k3_6, k3_7, k3_8, k3_9, k3_10, k3_11, k3_12⟩ := K3.all
              go_wp2_with fail
              refine (isPlaceRight_any ac ar sq dv kd nc nr pc pr fc fr nm vl ds _).mono ?_
              rintro e w4 ⟨rfl, hb4⟩
              rw [hp]
              have K4 := K3.step hb4
              clear k3_0 k3_1 k3_2 k3_3 k3_4 k3_5 k3_6 k3_7 k3_8 k3_9 k3_10 k3_11 k3_12
              obtain ⟨k4_0, k4_1, k4_2, k4_3, k4_4, k4_5, k4_6, k4_7, k4_8, k4_9, k4_10, k4_11, k4_12⟩ := K4.all
              go_wp2
              go_ret
              exact ⟨ret_i HE.out.symm, K4.2.2⟩
            · cases hm : nameR ⟨ac, ar, sq, ds, kd, nc, nr, pc, pr, fc, fr, nm, vl⟩
              · have HE : Hid (checkCh ⟨ac, ar, sq, ds, kd, nc, nr, pc, pr, fc, fr, nm, vl⟩ = 8) := by show _ = _; simp [checkCh, h0, hr, s1, s2, hd, hn, hp, hm]
                go_enter Try.func56, Try.ntmps56
                go_wp2_with fail
                refine (isKind_any _ _).mono ?_
                rintro e w' ⟨rfl, hw⟩
                replace hw := hw.symm
                subst hw
                rw [h0]
                go_wp2_with fail
                refine (right_any _ _ _).mono ?_
                rintro e w1 ⟨rfl, hw⟩
                rw [hr]
                have hb1 : Below (w.alloc (.cells #[.int .i64 ac, .int .i64 ar, .int .i64 sq, dv, .int .i64 kd, .int .i64 nc, .int .i64 nr, .int .i64 pc, .int .i64 pr, .int .i64 fc, .int .i64 fr, .string nm, .string vl] 35)).heap.size (w.alloc (.cells #[.int .i64 ac, .int .i64 ar, .int .i64 sq, dv, .int .i64 kd, .int .i64 nc, .int .i64 nr, .int .i64 pc, .int .i64 pr, .int .i64 fc, .int .i64 fr, .string nm, .string vl] 35)) w1 := by rw [hw]; exact (Below.refl _ _).alloc (Nat.le_refl _) _
                clear hw
                have K1 := K0.step hb1
                obtain ⟨k1_0, k1_1, k1_2, k1_3, k1_4, k1_5, k1_6, k1_7, k1_8, k1_9, k1_10, k1_11, k1_12⟩ := K1.all
                go_wp2_with fail
                refine (checkDeps_any ac ar sq dv kd nc nr pc pr fc fr nm vl ds _ (H1.out.below K1.2.2) s1 (by omega)).mono ?_
                rintro e w2 ⟨rfl, hb2⟩
                rw [hd]
                have K2 := K1.step hb2
                clear k1_0 k1_1 k1_2 k1_3 k1_4 k1_5 k1_6 k1_7 k1_8 k1_9 k1_10 k1_11 k1_12
                obtain ⟨k2_0, k2_1, k2_2, k2_3, k2_4, k2_5, k2_6, k2_7, k2_8, k2_9, k2_10, k2_11, k2_12⟩ := K2.all
                go_wp2_with fail
                refine (isNodeRight_any ac ar sq dv kd nc nr pc pr fc fr nm vl ds _).mono ?_
                rintro e w3 ⟨rfl, hb3⟩
                rw [hn]
                have K3 := K2.step hb3
                clear k2_0 k2_1 k2_2 k2_3 k2_4 k2_5 k2_6 k2_7 k2_8 k2_9 k2_10 k2_11 k2_12
                obtain ⟨k3_0, k3_1, k3_2, k3_3, k3_4, k3_5, k3_6, k3_7, k3_8, k3_9, k3_10, k3_11, k3_12⟩ := K3.all
                go_wp2_with fail
                refine (isPlaceRight_any ac ar sq dv kd nc nr pc pr fc fr nm vl ds _).mono ?_
                rintro e w4 ⟨rfl, hb4⟩
                rw [hp]
                have K4 := K3.step hb4
                clear k3_0 k3_1 k3_2 k3_3 k3_4 k3_5 k3_6 k3_7 k3_8 k3_9 k3_10 k3_11 k3_12
                obtain ⟨k4_0, k4_1, k4_2, k4_3, k4_4, k4_5, k4_6, k4_7, k4_8, k4_9, k4_10, k4_11, k4_12⟩ := K4.all
                go_wp2_with fail
                refine (isNameRight_any ac ar sq dv kd nc nr pc pr fc fr nm vl ds hs _).mono ?_
                rintro e w5 ⟨rfl, hb5⟩
                rw [hm]
                have K5 := K4.step hb5
                clear k4_0 k4_1 k4_2 k4_3 k4_4 k4_5 k4_6 k4_7 k4_8 k4_9 k4_10 k4_11 k4_12
                obtain ⟨k5_0, k5_1, k5_2, k5_3, k5_4, k5_5, k5_6, k5_7, k5_8, k5_9, k5_10, k5_11, k5_12⟩ := K5.all
                go_wp2
                go_ret
                exact ⟨ret_i HE.out.symm, K5.2.2⟩
              · have HE : Hid (checkCh ⟨ac, ar, sq, ds, kd, nc, nr, pc, pr, fc, fr, nm, vl⟩ = valueE ⟨ac, ar, sq, ds, kd, nc, nr, pc, pr, fc, fr, nm, vl⟩) := by show _ = _; simp [checkCh, h0, hr, s1, s2, hd, hn, hp, hm]
                go_enter Try.func56, Try.ntmps56
                go_wp2_with fail
                refine (isKind_any _ _).mono ?_
                rintro e w' ⟨rfl, hw⟩
                replace hw := hw.symm
                subst hw
                rw [h0]
                go_wp2_with fail
                refine (right_any _ _ _).mono ?_
                rintro e w1 ⟨rfl, hw⟩
                rw [hr]
                have hb1 : Below (w.alloc (.cells #[.int .i64 ac, .int .i64 ar, .int .i64 sq, dv, .int .i64 kd, .int .i64 nc, .int .i64 nr, .int .i64 pc, .int .i64 pr, .int .i64 fc, .int .i64 fr, .string nm, .string vl] 35)).heap.size (w.alloc (.cells #[.int .i64 ac, .int .i64 ar, .int .i64 sq, dv, .int .i64 kd, .int .i64 nc, .int .i64 nr, .int .i64 pc, .int .i64 pr, .int .i64 fc, .int .i64 fr, .string nm, .string vl] 35)) w1 := by rw [hw]; exact (Below.refl _ _).alloc (Nat.le_refl _) _
                clear hw
                have K1 := K0.step hb1
                obtain ⟨k1_0, k1_1, k1_2, k1_3, k1_4, k1_5, k1_6, k1_7, k1_8, k1_9, k1_10, k1_11, k1_12⟩ := K1.all
                go_wp2_with fail
                refine (checkDeps_any ac ar sq dv kd nc nr pc pr fc fr nm vl ds _ (H1.out.below K1.2.2) s1 (by omega)).mono ?_
                rintro e w2 ⟨rfl, hb2⟩
                rw [hd]
                have K2 := K1.step hb2
                clear k1_0 k1_1 k1_2 k1_3 k1_4 k1_5 k1_6 k1_7 k1_8 k1_9 k1_10 k1_11 k1_12
                obtain ⟨k2_0, k2_1, k2_2, k2_3, k2_4, k2_5, k2_6, k2_7, k2_8, k2_9, k2_10, k2_11, k2_12⟩ := K2.all
                go_wp2_with fail
                refine (isNodeRight_any ac ar sq dv kd nc nr pc pr fc fr nm vl ds _).mono ?_
                rintro e w3 ⟨rfl, hb3⟩
                rw [hn]
                have K3 := K2.step hb3
                clear k2_0 k2_1 k2_2 k2_3 k2_4 k2_5 k2_6 k2_7 k2_8 k2_9 k2_10 k2_11 k2_12
                obtain ⟨k3_0, k3_1, k3_2, k3_3, k3_4, k3_5, k3_6, k3_7, k3_8, k3_9, k3_10, k3_11, k3_12⟩ := K3.all
                go_wp2_with fail
                refine (isPlaceRight_any ac ar sq dv kd nc nr pc pr fc fr nm vl ds _).mono ?_
                rintro e w4 ⟨rfl, hb4⟩
                rw [hp]
                have K4 := K3.step hb4
                clear k3_0 k3_1 k3_2 k3_3 k3_4 k3_5 k3_6 k3_7 k3_8 k3_9 k3_10 k3_11 k3_12
                obtain ⟨k4_0, k4_1, k4_2, k4_3, k4_4, k4_5, k4_6, k4_7, k4_8, k4_9, k4_10, k4_11, k4_12⟩ := K4.all
                go_wp2_with fail
                refine (isNameRight_any ac ar sq dv kd nc nr pc pr fc fr nm vl ds hs _).mono ?_
                rintro e w5 ⟨rfl, hb5⟩
                rw [hm]
                have K5 := K4.step hb5
                clear k4_0 k4_1 k4_2 k4_3 k4_4 k4_5 k4_6 k4_7 k4_8 k4_9 k4_10 k4_11 k4_12
                obtain ⟨k5_0, k5_1, k5_2, k5_3, k5_4, k5_5, k5_6, k5_7, k5_8, k5_9, k5_10, k5_11, k5_12⟩ := K5.all
                go_wp2_with fail
                refine (checkValue_any ac ar sq dv kd nc nr pc pr fc fr nm vl ds _).mono ?_
                rintro e w6 ⟨rfl, hb6⟩
                have K6 := K5.step hb6
                clear k5_0 k5_1 k5_2 k5_3 k5_4 k5_5 k5_6 k5_7 k5_8 k5_9 k5_10 k5_11 k5_12
                obtain ⟨k6_0, k6_1, k6_2, k6_3, k6_4, k6_5, k6_6, k6_7, k6_8, k6_9, k6_10, k6_11, k6_12⟩ := K6.all
                go_wp2
                go_ret
                exact ⟨ret_i HE.out.symm, K6.2.2⟩
        · have HE : Hid (checkCh ⟨ac, ar, sq, ds, kd, nc, nr, pc, pr, fc, fr, nm, vl⟩ = depsE ⟨ac, ar, sq, ds, kd, nc, nr, pc, pr, fc, fr, nm, vl⟩) := by show _ = _; simp [checkCh, h0, hr, s1, s2, hd]
          have q : (depsE ⟨ac, ar, sq, ds, kd, nc, nr, pc, pr, fc, fr, nm, vl⟩ != 0) = true := by simp [hd]
          go_enter Try.func56, Try.ntmps56
          go_wp2_with fail
          refine (isKind_any _ _).mono ?_
          rintro e w' ⟨rfl, hw⟩
          replace hw := hw.symm
          subst hw
          rw [h0]
          go_wp2_with fail
          refine (right_any _ _ _).mono ?_
          rintro e w1 ⟨rfl, hw⟩
          rw [hr]
          have hb1 : Below (w.alloc (.cells #[.int .i64 ac, .int .i64 ar, .int .i64 sq, dv, .int .i64 kd, .int .i64 nc, .int .i64 nr, .int .i64 pc, .int .i64 pr, .int .i64 fc, .int .i64 fr, .string nm, .string vl] 35)).heap.size (w.alloc (.cells #[.int .i64 ac, .int .i64 ar, .int .i64 sq, dv, .int .i64 kd, .int .i64 nc, .int .i64 nr, .int .i64 pc, .int .i64 pr, .int .i64 fc, .int .i64 fr, .string nm, .string vl] 35)) w1 := by rw [hw]; exact (Below.refl _ _).alloc (Nat.le_refl _) _
          clear hw
          have K1 := K0.step hb1
          obtain ⟨k1_0, k1_1, k1_2, k1_3, k1_4, k1_5, k1_6, k1_7, k1_8, k1_9, k1_10, k1_11, k1_12⟩ := K1.all
          go_wp2_with fail
          refine (checkDeps_any ac ar sq dv kd nc nr pc pr fc fr nm vl ds _ (H1.out.below K1.2.2) s1 (by omega)).mono ?_
          rintro e w2 ⟨rfl, hb2⟩
          have K2 := K1.step hb2
          clear k1_0 k1_1 k1_2 k1_3 k1_4 k1_5 k1_6 k1_7 k1_8 k1_9 k1_10 k1_11 k1_12
          obtain ⟨k2_0, k2_1, k2_2, k2_3, k2_4, k2_5, k2_6, k2_7, k2_8, k2_9, k2_10, k2_11, k2_12⟩ := K2.all
          go_wp2
          go_ret
          exact ⟨ret_i HE.out.symm, K2.2.2⟩
      · have HE : Hid (checkCh ⟨ac, ar, sq, ds, kd, nc, nr, pc, pr, fc, fr, nm, vl⟩ = 1) := by show _ = _; simp [checkCh, h0, hr, h3]
        by_cases s1 : 1 ≤ sq
        · have s2 : ac < sq := by omega
          clear h3
          go_enter Try.func56, Try.ntmps56
          go_wp2_with fail
          refine (isKind_any _ _).mono ?_
          rintro e w' ⟨rfl, hw⟩
          replace hw := hw.symm
          subst hw
          rw [h0]
          go_wp2_with fail
          refine (right_any _ _ _).mono ?_
          rintro e w1 ⟨rfl, hw⟩
          rw [hr]
          have hb1 : Below (w.alloc (.cells #[.int .i64 ac, .int .i64 ar, .int .i64 sq, dv, .int .i64 kd, .int .i64 nc, .int .i64 nr, .int .i64 pc, .int .i64 pr, .int .i64 fc, .int .i64 fr, .string nm, .string vl] 35)).heap.size (w.alloc (.cells #[.int .i64 ac, .int .i64 ar, .int .i64 sq, dv, .int .i64 kd, .int .i64 nc, .int .i64 nr, .int .i64 pc, .int .i64 pr, .int .i64 fc, .int .i64 fr, .string nm, .string vl] 35)) w1 := by rw [hw]; exact (Below.refl _ _).alloc (Nat.le_refl _) _
          clear hw
          have K1 := K0.step hb1
          obtain ⟨k1_0, k1_1, k1_2, k1_3, k1_4, k1_5, k1_6, k1_7, k1_8, k1_9, k1_10, k1_11, k1_12⟩ := K1.all
          go_wp2
          go_ret
          exact ⟨ret_i HE.out.symm, K1.2.2⟩
        · clear h3
          go_enter Try.func56, Try.ntmps56
          go_wp2_with fail
          refine (isKind_any _ _).mono ?_
          rintro e w' ⟨rfl, hw⟩
          replace hw := hw.symm
          subst hw
          rw [h0]
          go_wp2_with fail
          refine (right_any _ _ _).mono ?_
          rintro e w1 ⟨rfl, hw⟩
          rw [hr]
          have hb1 : Below (w.alloc (.cells #[.int .i64 ac, .int .i64 ar, .int .i64 sq, dv, .int .i64 kd, .int .i64 nc, .int .i64 nr, .int .i64 pc, .int .i64 pr, .int .i64 fc, .int .i64 fr, .string nm, .string vl] 35)).heap.size (w.alloc (.cells #[.int .i64 ac, .int .i64 ar, .int .i64 sq, dv, .int .i64 kd, .int .i64 nc, .int .i64 nr, .int .i64 pc, .int .i64 pr, .int .i64 fc, .int .i64 fr, .string nm, .string vl] 35)) w1 := by rw [hw]; exact (Below.refl _ _).alloc (Nat.le_refl _) _
          clear hw
          have K1 := K0.step hb1
          obtain ⟨k1_0, k1_1, k1_2, k1_3, k1_4, k1_5, k1_6, k1_7, k1_8, k1_9, k1_10, k1_11, k1_12⟩ := K1.all
          go_wp2
          go_ret
          exact ⟨ret_i HE.out.symm, K1.2.2⟩

end Go.Proofs.Ythndgmnckpimmaa
