/- What isPlaceRight does, for every change. -/
import Derived.Test.YthndgmnckpimmaaWcA
namespace Go.Proofs.Ythndgmnckpimmaa
open Go.RowKit
set_option linter.unusedVariables false
set_option linter.unusedSimpArgs false

set_option maxRecDepth 100000 in
set_option maxHeartbeats 4000000 in
theorem isPlaceRight_any (ac ar sq : Int) (dv : Value) (kd nc nr pc pr fc fr : Int) (nm vl : ByteArray) (ds : List Int) (w : World) :
    Calls Try.prog 74 #[.agg #[.int .i64 ac, .int .i64 ar, .int .i64 sq, dv, .int .i64 kd, .int .i64 nc, .int .i64 nr, .int .i64 pc, .int .i64 pr, .int .i64 fc, .int .i64 fr, .string nm, .string vl]] w fun e w' => e = .returned (.bool (placeR ⟨ac, ar, sq, ds, kd, nc, nr, pc, pr, fc, fr, nm, vl⟩)) ∧ Below w.heap.size w w' := by
  unfold placeR
  have hf1 := fld1
  have hf2 := fld2
  have hf3 := fld3
  have K0 := KeptC.start w #[.int .i64 ac, .int .i64 ar, .int .i64 sq, dv, .int .i64 kd, .int .i64 nc, .int .i64 nr, .int .i64 pc, .int .i64 pr, .int .i64 fc, .int .i64 fr, .string nm, .string vl].toList 35
  cases hp : hasPlace kd
  · rw [if_neg (by simp)]
    cases h1 : rootB pc pr
    · go_enter Try.func74, Try.ntmps74
      go_wp2_with fail
      refine (fieldsOf_any _ _).mono ?_
      rintro e w1 ⟨rfl, hb1⟩
      rw [hp]
      have K1 := K0.step hb1
      obtain ⟨k1_0, k1_1, k1_2, k1_3, k1_4, k1_5, k1_6, k1_7, k1_8, k1_9, k1_10, k1_11, k1_12⟩ := K1.all
      go_wp2_with fail
      refine (isZero_any _ _ _).mono ?_
      rintro e w2 ⟨rfl, hb2⟩
      rw [h1]
      have K2 := K1.step hb2
      clear k1_0 k1_1 k1_2 k1_3 k1_4 k1_5 k1_6 k1_7 k1_8 k1_9 k1_10 k1_11 k1_12
      obtain ⟨k2_0, k2_1, k2_2, k2_3, k2_4, k2_5, k2_6, k2_7, k2_8, k2_9, k2_10, k2_11, k2_12⟩ := K2.all
      go_wp2
      go_ret
      exact ⟨ret_bool (by simp), K2.2.2⟩
    · cases h2 : rootB fc fr
      · go_enter Try.func74, Try.ntmps74
        go_wp2_with fail
        refine (fieldsOf_any _ _).mono ?_
        rintro e w1 ⟨rfl, hb1⟩
        rw [hp]
        have K1 := K0.step hb1
        obtain ⟨k1_0, k1_1, k1_2, k1_3, k1_4, k1_5, k1_6, k1_7, k1_8, k1_9, k1_10, k1_11, k1_12⟩ := K1.all
        go_wp2_with fail
        refine (isZero_any _ _ _).mono ?_
        rintro e w2 ⟨rfl, hb2⟩
        rw [h1]
        have K2 := K1.step hb2
        clear k1_0 k1_1 k1_2 k1_3 k1_4 k1_5 k1_6 k1_7 k1_8 k1_9 k1_10 k1_11 k1_12
        obtain ⟨k2_0, k2_1, k2_2, k2_3, k2_4, k2_5, k2_6, k2_7, k2_8, k2_9, k2_10, k2_11, k2_12⟩ := K2.all
        go_wp2_with fail
        refine (isZero_any _ _ _).mono ?_
        rintro e w3 ⟨rfl, hb3⟩
        rw [h2]
        have K3 := K2.step hb3
        clear k2_0 k2_1 k2_2 k2_3 k2_4 k2_5 k2_6 k2_7 k2_8 k2_9 k2_10 k2_11 k2_12
        obtain ⟨k3_0, k3_1, k3_2, k3_3, k3_4, k3_5, k3_6, k3_7, k3_8, k3_9, k3_10, k3_11, k3_12⟩ := K3.all
        go_wp2
        go_ret
        exact ⟨ret_bool (by simp), K3.2.2⟩
      · go_enter Try.func74, Try.ntmps74
        go_wp2_with fail
        refine (fieldsOf_any _ _).mono ?_
        rintro e w1 ⟨rfl, hb1⟩
        rw [hp]
        have K1 := K0.step hb1
        obtain ⟨k1_0, k1_1, k1_2, k1_3, k1_4, k1_5, k1_6, k1_7, k1_8, k1_9, k1_10, k1_11, k1_12⟩ := K1.all
        go_wp2_with fail
        refine (isZero_any _ _ _).mono ?_
        rintro e w2 ⟨rfl, hb2⟩
        rw [h1]
        have K2 := K1.step hb2
        clear k1_0 k1_1 k1_2 k1_3 k1_4 k1_5 k1_6 k1_7 k1_8 k1_9 k1_10 k1_11 k1_12
        obtain ⟨k2_0, k2_1, k2_2, k2_3, k2_4, k2_5, k2_6, k2_7, k2_8, k2_9, k2_10, k2_11, k2_12⟩ := K2.all
        go_wp2_with fail
        refine (isZero_any _ _ _).mono ?_
        rintro e w3 ⟨rfl, hb3⟩
        rw [h2]
        have K3 := K2.step hb3
        clear k2_0 k2_1 k2_2 k2_3 k2_4 k2_5 k2_6 k2_7 k2_8 k2_9 k2_10 k2_11 k2_12
        obtain ⟨k3_0, k3_1, k3_2, k3_3, k3_4, k3_5, k3_6, k3_7, k3_8, k3_9, k3_10, k3_11, k3_12⟩ := K3.all
        go_wp2
        go_ret
        exact ⟨ret_bool (by simp), K3.2.2⟩
  · rw [if_pos rfl]
    cases h1 : nodeB pc pr
    · go_enter Try.func74, Try.ntmps74
      go_wp2_with fail
      refine (fieldsOf_any _ _).mono ?_
      rintro e w1 ⟨rfl, hb1⟩
      rw [hp]
      have K1 := K0.step hb1
      obtain ⟨k1_0, k1_1, k1_2, k1_3, k1_4, k1_5, k1_6, k1_7, k1_8, k1_9, k1_10, k1_11, k1_12⟩ := K1.all
      go_wp2_with fail
      refine (node_any _ _ _).mono ?_
      rintro e w2 ⟨rfl, hb2⟩
      rw [h1]
      have K2 := K1.step hb2
      clear k1_0 k1_1 k1_2 k1_3 k1_4 k1_5 k1_6 k1_7 k1_8 k1_9 k1_10 k1_11 k1_12
      obtain ⟨k2_0, k2_1, k2_2, k2_3, k2_4, k2_5, k2_6, k2_7, k2_8, k2_9, k2_10, k2_11, k2_12⟩ := K2.all
      go_wp2
      go_ret
      exact ⟨ret_bool (by simp), K2.2.2⟩
    · cases h2 : lessS pc pr ac ar
      · go_enter Try.func74, Try.ntmps74
        go_wp2_with fail
        refine (fieldsOf_any _ _).mono ?_
        rintro e w1 ⟨rfl, hb1⟩
        rw [hp]
        have K1 := K0.step hb1
        obtain ⟨k1_0, k1_1, k1_2, k1_3, k1_4, k1_5, k1_6, k1_7, k1_8, k1_9, k1_10, k1_11, k1_12⟩ := K1.all
        go_wp2_with fail
        refine (node_any _ _ _).mono ?_
        rintro e w2 ⟨rfl, hb2⟩
        rw [h1]
        have K2 := K1.step hb2
        clear k1_0 k1_1 k1_2 k1_3 k1_4 k1_5 k1_6 k1_7 k1_8 k1_9 k1_10 k1_11 k1_12
        obtain ⟨k2_0, k2_1, k2_2, k2_3, k2_4, k2_5, k2_6, k2_7, k2_8, k2_9, k2_10, k2_11, k2_12⟩ := K2.all
        go_wp2_with fail
        refine (less_any _ _ _ _ _).mono ?_
        rintro e w3 ⟨rfl, hb3⟩
        rw [h2]
        have K3 := K2.step hb3
        clear k2_0 k2_1 k2_2 k2_3 k2_4 k2_5 k2_6 k2_7 k2_8 k2_9 k2_10 k2_11 k2_12
        obtain ⟨k3_0, k3_1, k3_2, k3_3, k3_4, k3_5, k3_6, k3_7, k3_8, k3_9, k3_10, k3_11, k3_12⟩ := K3.all
        go_wp2
        go_ret
        exact ⟨ret_bool (by simp), K3.2.2⟩
      · by_cases e1 : pc = nc
        · subst e1
          by_cases e2 : pr = nr
          · subst e2
            go_enter Try.func74, Try.ntmps74
            go_wp2_with fail
            refine (fieldsOf_any _ _).mono ?_
            rintro e w1 ⟨rfl, hb1⟩
            rw [hp]
            have K1 := K0.step hb1
            obtain ⟨k1_0, k1_1, k1_2, k1_3, k1_4, k1_5, k1_6, k1_7, k1_8, k1_9, k1_10, k1_11, k1_12⟩ := K1.all
            go_wp2_with fail
            refine (node_any _ _ _).mono ?_
            rintro e w2 ⟨rfl, hb2⟩
            rw [h1]
            have K2 := K1.step hb2
            clear k1_0 k1_1 k1_2 k1_3 k1_4 k1_5 k1_6 k1_7 k1_8 k1_9 k1_10 k1_11 k1_12
            obtain ⟨k2_0, k2_1, k2_2, k2_3, k2_4, k2_5, k2_6, k2_7, k2_8, k2_9, k2_10, k2_11, k2_12⟩ := K2.all
            go_wp2_with fail
            refine (less_any _ _ _ _ _).mono ?_
            rintro e w3 ⟨rfl, hb3⟩
            rw [h2]
            have K3 := K2.step hb3
            clear k2_0 k2_1 k2_2 k2_3 k2_4 k2_5 k2_6 k2_7 k2_8 k2_9 k2_10 k2_11 k2_12
            obtain ⟨k3_0, k3_1, k3_2, k3_3, k3_4, k3_5, k3_6, k3_7, k3_8, k3_9, k3_10, k3_11, k3_12⟩ := K3.all
            go_wp2
            go_ret
            exact ⟨ret_bool (by simp), K3.2.2⟩
          · have q : (pr == nr) = false := by simp [e2]
            cases h3 : rootB fc fr
            · go_enter Try.func74, Try.ntmps74
              go_wp2_with fail
              refine (fieldsOf_any _ _).mono ?_
              rintro e w1 ⟨rfl, hb1⟩
              rw [hp]
              have K1 := K0.step hb1
              obtain ⟨k1_0, k1_1, k1_2, k1_3, k1_4, k1_5, k1_6, k1_7, k1_8, k1_9, k1_10, k1_11, k1_12⟩ := K1.all
              go_wp2_with fail
              refine (node_any _ _ _).mono ?_
              rintro e w2 ⟨rfl, hb2⟩
              rw [h1]
              have K2 := K1.step hb2
              clear k1_0 k1_1 k1_2 k1_3 k1_4 k1_5 k1_6 k1_7 k1_8 k1_9 k1_10 k1_11 k1_12
              obtain ⟨k2_0, k2_1, k2_2, k2_3, k2_4, k2_5, k2_6, k2_7, k2_8, k2_9, k2_10, k2_11, k2_12⟩ := K2.all
              go_wp2_with fail
              refine (less_any _ _ _ _ _).mono ?_
              rintro e w3 ⟨rfl, hb3⟩
              rw [h2]
              have K3 := K2.step hb3
              clear k2_0 k2_1 k2_2 k2_3 k2_4 k2_5 k2_6 k2_7 k2_8 k2_9 k2_10 k2_11 k2_12
              obtain ⟨k3_0, k3_1, k3_2, k3_3, k3_4, k3_5, k3_6, k3_7, k3_8, k3_9, k3_10, k3_11, k3_12⟩ := K3.all
              go_wp2_with fail
              refine (isZero_any _ _ _).mono ?_
              rintro e w4 ⟨rfl, hb4⟩
              rw [h3]
              have K4 := K3.step hb4
              clear k3_0 k3_1 k3_2 k3_3 k3_4 k3_5 k3_6 k3_7 k3_8 k3_9 k3_10 k3_11 k3_12
              obtain ⟨k4_0, k4_1, k4_2, k4_3, k4_4, k4_5, k4_6, k4_7, k4_8, k4_9, k4_10, k4_11, k4_12⟩ := K4.all
              go_wp2_with fail
              refine (isAhead_any _ _ ac ar sq dv kd pc nr pc pr fc fr nm vl _).mono ?_
              rintro e w5 ⟨rfl, hb5⟩
              have K5 := K4.step hb5
              clear k4_0 k4_1 k4_2 k4_3 k4_4 k4_5 k4_6 k4_7 k4_8 k4_9 k4_10 k4_11 k4_12
              obtain ⟨k5_0, k5_1, k5_2, k5_3, k5_4, k5_5, k5_6, k5_7, k5_8, k5_9, k5_10, k5_11, k5_12⟩ := K5.all
              go_wp2
              go_ret
              exact ⟨ret_bool (by simp [e2]), K5.2.2⟩
            · go_enter Try.func74, Try.ntmps74
              go_wp2_with fail
              refine (fieldsOf_any _ _).mono ?_
              rintro e w1 ⟨rfl, hb1⟩
              rw [hp]
              have K1 := K0.step hb1
              obtain ⟨k1_0, k1_1, k1_2, k1_3, k1_4, k1_5, k1_6, k1_7, k1_8, k1_9, k1_10, k1_11, k1_12⟩ := K1.all
              go_wp2_with fail
              refine (node_any _ _ _).mono ?_
              rintro e w2 ⟨rfl, hb2⟩
              rw [h1]
              have K2 := K1.step hb2
              clear k1_0 k1_1 k1_2 k1_3 k1_4 k1_5 k1_6 k1_7 k1_8 k1_9 k1_10 k1_11 k1_12
              obtain ⟨k2_0, k2_1, k2_2, k2_3, k2_4, k2_5, k2_6, k2_7, k2_8, k2_9, k2_10, k2_11, k2_12⟩ := K2.all
              go_wp2_with fail
              refine (less_any _ _ _ _ _).mono ?_
              rintro e w3 ⟨rfl, hb3⟩
              rw [h2]
              have K3 := K2.step hb3
              clear k2_0 k2_1 k2_2 k2_3 k2_4 k2_5 k2_6 k2_7 k2_8 k2_9 k2_10 k2_11 k2_12
              obtain ⟨k3_0, k3_1, k3_2, k3_3, k3_4, k3_5, k3_6, k3_7, k3_8, k3_9, k3_10, k3_11, k3_12⟩ := K3.all
              go_wp2_with fail
              refine (isZero_any _ _ _).mono ?_
              rintro e w4 ⟨rfl, hb4⟩
              rw [h3]
              have K4 := K3.step hb4
              clear k3_0 k3_1 k3_2 k3_3 k3_4 k3_5 k3_6 k3_7 k3_8 k3_9 k3_10 k3_11 k3_12
              obtain ⟨k4_0, k4_1, k4_2, k4_3, k4_4, k4_5, k4_6, k4_7, k4_8, k4_9, k4_10, k4_11, k4_12⟩ := K4.all
              go_wp2
              go_ret
              exact ⟨ret_bool (by simp [e2]), K4.2.2⟩
        · have q : (pc == nc) = false := by simp [e1]
          cases h3 : rootB fc fr
          · go_enter Try.func74, Try.ntmps74
            go_wp2_with fail
            refine (fieldsOf_any _ _).mono ?_
            rintro e w1 ⟨rfl, hb1⟩
            rw [hp]
            have K1 := K0.step hb1
            obtain ⟨k1_0, k1_1, k1_2, k1_3, k1_4, k1_5, k1_6, k1_7, k1_8, k1_9, k1_10, k1_11, k1_12⟩ := K1.all
            go_wp2_with fail
            refine (node_any _ _ _).mono ?_
            rintro e w2 ⟨rfl, hb2⟩
            rw [h1]
            have K2 := K1.step hb2
            clear k1_0 k1_1 k1_2 k1_3 k1_4 k1_5 k1_6 k1_7 k1_8 k1_9 k1_10 k1_11 k1_12
            obtain ⟨k2_0, k2_1, k2_2, k2_3, k2_4, k2_5, k2_6, k2_7, k2_8, k2_9, k2_10, k2_11, k2_12⟩ := K2.all
            go_wp2_with fail
            refine (less_any _ _ _ _ _).mono ?_
            rintro e w3 ⟨rfl, hb3⟩
            rw [h2]
            have K3 := K2.step hb3
            clear k2_0 k2_1 k2_2 k2_3 k2_4 k2_5 k2_6 k2_7 k2_8 k2_9 k2_10 k2_11 k2_12
            obtain ⟨k3_0, k3_1, k3_2, k3_3, k3_4, k3_5, k3_6, k3_7, k3_8, k3_9, k3_10, k3_11, k3_12⟩ := K3.all
            go_wp2_with fail
            refine (isZero_any _ _ _).mono ?_
            rintro e w4 ⟨rfl, hb4⟩
            rw [h3]
            have K4 := K3.step hb4
            clear k3_0 k3_1 k3_2 k3_3 k3_4 k3_5 k3_6 k3_7 k3_8 k3_9 k3_10 k3_11 k3_12
            obtain ⟨k4_0, k4_1, k4_2, k4_3, k4_4, k4_5, k4_6, k4_7, k4_8, k4_9, k4_10, k4_11, k4_12⟩ := K4.all
            go_wp2_with fail
            refine (isAhead_any _ _ ac ar sq dv kd nc nr pc pr fc fr nm vl _).mono ?_
            rintro e w5 ⟨rfl, hb5⟩
            have K5 := K4.step hb5
            clear k4_0 k4_1 k4_2 k4_3 k4_4 k4_5 k4_6 k4_7 k4_8 k4_9 k4_10 k4_11 k4_12
            obtain ⟨k5_0, k5_1, k5_2, k5_3, k5_4, k5_5, k5_6, k5_7, k5_8, k5_9, k5_10, k5_11, k5_12⟩ := K5.all
            go_wp2
            go_ret
            exact ⟨ret_bool (by simp [e1]), K5.2.2⟩
          · go_enter Try.func74, Try.ntmps74
            go_wp2_with fail
            refine (fieldsOf_any _ _).mono ?_
            rintro e w1 ⟨rfl, hb1⟩
            rw [hp]
            have K1 := K0.step hb1
            obtain ⟨k1_0, k1_1, k1_2, k1_3, k1_4, k1_5, k1_6, k1_7, k1_8, k1_9, k1_10, k1_11, k1_12⟩ := K1.all
            go_wp2_with fail
            refine (node_any _ _ _).mono ?_
            rintro e w2 ⟨rfl, hb2⟩
            rw [h1]
            have K2 := K1.step hb2
            clear k1_0 k1_1 k1_2 k1_3 k1_4 k1_5 k1_6 k1_7 k1_8 k1_9 k1_10 k1_11 k1_12
            obtain ⟨k2_0, k2_1, k2_2, k2_3, k2_4, k2_5, k2_6, k2_7, k2_8, k2_9, k2_10, k2_11, k2_12⟩ := K2.all
            go_wp2_with fail
            refine (less_any _ _ _ _ _).mono ?_
            rintro e w3 ⟨rfl, hb3⟩
            rw [h2]
            have K3 := K2.step hb3
            clear k2_0 k2_1 k2_2 k2_3 k2_4 k2_5 k2_6 k2_7 k2_8 k2_9 k2_10 k2_11 k2_12
            obtain ⟨k3_0, k3_1, k3_2, k3_3, k3_4, k3_5, k3_6, k3_7, k3_8, k3_9, k3_10, k3_11, k3_12⟩ := K3.all
            go_wp2_with fail
            refine (isZero_any _ _ _).mono ?_
            rintro e w4 ⟨rfl, hb4⟩
            rw [h3]
            have K4 := K3.step hb4
            clear k3_0 k3_1 k3_2 k3_3 k3_4 k3_5 k3_6 k3_7 k3_8 k3_9 k3_10 k3_11 k3_12
            obtain ⟨k4_0, k4_1, k4_2, k4_3, k4_4, k4_5, k4_6, k4_7, k4_8, k4_9, k4_10, k4_11, k4_12⟩ := K4.all
            go_wp2
            go_ret
            exact ⟨ret_bool (by simp [e1]), K4.2.2⟩


end Go.Proofs.Ythndgmnckpimmaa
