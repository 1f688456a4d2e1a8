/- What the document's placed does, of any change of one of the five kinds. -/
import Derived.Test.YthndgmnckpimmaaWdA
namespace Go.Proofs.Ythndgmnckpimmaa
open Go.RowKit
set_option linter.unusedVariables false
set_option linter.unusedSimpArgs false

theorem np1 (ac ar sq : Int) (ds : List Int) (nc nr pc pr fc fr : Int) (nm vl : ByteArray) : (nodeR ⟨ac, ar, sq, ds, 1, nc, nr, pc, pr, fc, fr, nm, vl⟩ && placeR ⟨ac, ar, sq, ds, 1, nc, nr, pc, pr, fc, fr, nm, vl⟩) = (decide (nc = ac ∧ nr = ar) && ((nodeB pc pr && (lessS pc pr ac ar && !decide (pc = nc ∧ pr = nr))) && (rootB fc fr || aheadB fc fr ac ar))) := rfl
theorem np2 (ac ar sq : Int) (ds : List Int) (nc nr pc pr fc fr : Int) (nm vl : ByteArray) : (nodeR ⟨ac, ar, sq, ds, 2, nc, nr, pc, pr, fc, fr, nm, vl⟩ && placeR ⟨ac, ar, sq, ds, 2, nc, nr, pc, pr, fc, fr, nm, vl⟩) = (aheadB nc nr ac ar && ((nodeB pc pr && (lessS pc pr ac ar && !decide (pc = nc ∧ pr = nr))) && (rootB fc fr || aheadB fc fr ac ar))) := rfl
theorem np3 (ac ar sq : Int) (ds : List Int) (kd nc nr pc pr fc fr : Int) (nm vl : ByteArray) (h : 2 < kd) : (nodeR ⟨ac, ar, sq, ds, kd, nc, nr, pc, pr, fc, fr, nm, vl⟩ && placeR ⟨ac, ar, sq, ds, kd, nc, nr, pc, pr, fc, fr, nm, vl⟩) = ((rootB nc nr || aheadB nc nr ac ar) && (rootB pc pr && rootB fc fr)) := by
  unfold nodeR placeR
  rw [if_neg (show ¬ kd = 1 by omega), if_neg (show ¬ kd = 2 by omega), if_neg (by simp [hasPlace]; omega)]

set_option maxRecDepth 100000 in
set_option maxHeartbeats 8000000 in
theorem refPlaced_one (ac ar sq : Int) (dv : Value) (nc nr pc pr fc fr : Int) (nm vl : ByteArray) (w : World) :
    Calls Try.prog 51 #[.agg #[.int .i64 ac, .int .i64 ar, .int .i64 sq, dv, .int .i64 1, .int .i64 nc, .int .i64 nr, .int .i64 pc, .int .i64 pr, .int .i64 fc, .int .i64 fr, .string nm, .string vl]] w fun e w' => e = .returned (.bool (decide (nc = ac ∧ nr = ar) && ((nodeB pc pr && (lessS pc pr ac ar && !decide (pc = nc ∧ pr = nr))) && (rootB fc fr || aheadB fc fr ac ar)))) ∧ Below w.heap.size w w' := by
  obtain ⟨BB, hBB⟩ : ∃ b : Bool, (decide (nc = ac ∧ nr = ar) && ((nodeB pc pr && (lessS pc pr ac ar && !decide (pc = nc ∧ pr = nr))) && (rootB fc fr || aheadB fc fr ac ar))) = b := ⟨_, rfl⟩
  rw [hBB]
  have HBB : Hid ((decide (nc = ac ∧ nr = ar) && ((nodeB pc pr && (lessS pc pr ac ar && !decide (pc = nc ∧ pr = nr))) && (rootB fc fr || aheadB fc fr ac ar))) = BB) := hBB
  clear hBB
  have Ka := KeptC.start w #[.int .i64 ac, .int .i64 ar, .int .i64 sq, dv, .int .i64 1, .int .i64 nc, .int .i64 nr, .int .i64 pc, .int .i64 pr, .int .i64 fc, .int .i64 fr, .string nm, .string vl].toList 35
  have Z0 := KeptC.start (w.alloc (.cells #[.int .i64 ac, .int .i64 ar, .int .i64 sq, dv, .int .i64 1, .int .i64 nc, .int .i64 nr, .int .i64 pc, .int .i64 pr, .int .i64 fc, .int .i64 fr, .string nm, .string vl] 35)) [.int .i64 0, .int .i64 0] 33
  rw [show (w.alloc (.cells #[.int .i64 ac, .int .i64 ar, .int .i64 sq, dv, .int .i64 1, .int .i64 nc, .int .i64 nr, .int .i64 pc, .int .i64 pr, .int .i64 fc, .int .i64 fr, .string nm, .string vl] 35)).heap.size = w.heap.size + 1 by simp] at Z0
  have K0 := Ka.step Z0.2.2
  by_cases dn1 : nc = ac
  · by_cases dn2 : nr = ar
    · have dn : decide (nc = ac ∧ nr = ar) = true := by simp [dn1, dn2]
      have dnq1 : (nc == ac) = true := by simp [dn1]
      have dnq2 : (nr == ar) = true := by simp [dn2]
      have dnr1 : (nc != ac) = false := by simp [dn1]
      have dnr2 : (nr != ar) = false := by simp [dn2]
      clear dn1 dn2
      cases p1 : nodeB pc pr
      · have HE : Hid ((decide (nc = ac ∧ nr = ar) && ((nodeB pc pr && (lessS pc pr ac ar && !decide (pc = nc ∧ pr = nr))) && (rootB fc fr || aheadB fc fr ac ar))) = false) := by show _ = _; simp only [dn, p1, Bool.and_true, Bool.true_and, Bool.and_false, Bool.false_and, Bool.or_true, Bool.true_or, Bool.or_false, Bool.false_or, Bool.not_true, Bool.not_false]
        go_enter Try.func51, Try.ntmps51
        go_wp2_with fail
        refine (refNode_any _ _ _).mono ?_
        rintro e w1 ⟨rfl, hb1⟩
        rw [p1]
        have K1 := K0.step hb1
        have Z1 := Z0.step hb1
        obtain ⟨k1_0, k1_1, k1_2, k1_3, k1_4, k1_5, k1_6, k1_7, k1_8, k1_9, k1_10, k1_11, k1_12⟩ := K1.all
        have z1_0 := Z1.1 0 _ rfl
        have z1_1 := Z1.1 1 _ rfl
        go_wp2
        go_ret
        exact ⟨ret_bool (HE.out.symm.trans HBB.out), K1.2.2⟩
      · cases p2 : lessS pc pr ac ar
        · have HE : Hid ((decide (nc = ac ∧ nr = ar) && ((nodeB pc pr && (lessS pc pr ac ar && !decide (pc = nc ∧ pr = nr))) && (rootB fc fr || aheadB fc fr ac ar))) = false) := by show _ = _; simp only [dn, p1, p2, Bool.and_true, Bool.true_and, Bool.and_false, Bool.false_and, Bool.or_true, Bool.true_or, Bool.or_false, Bool.false_or, Bool.not_true, Bool.not_false]
          go_enter Try.func51, Try.ntmps51
          go_wp2_with fail
          refine (refNode_any _ _ _).mono ?_
          rintro e w1 ⟨rfl, hb1⟩
          rw [p1]
          have K1 := K0.step hb1
          have Z1 := Z0.step hb1
          obtain ⟨k1_0, k1_1, k1_2, k1_3, k1_4, k1_5, k1_6, k1_7, k1_8, k1_9, k1_10, k1_11, k1_12⟩ := K1.all
          have z1_0 := Z1.1 0 _ rfl
          have z1_1 := Z1.1 1 _ rfl
          go_wp2_with fail
          refine (refLess_bel _ _ _ _ _).mono ?_
          rintro e w2 ⟨rfl, hb2⟩
          rw [p2]
          have K2 := K1.step hb2
          have Z2 := Z1.step hb2
          clear k1_0 k1_1 k1_2 k1_3 k1_4 k1_5 k1_6 k1_7 k1_8 k1_9 k1_10 k1_11 k1_12 z1_0 z1_1
          obtain ⟨k2_0, k2_1, k2_2, k2_3, k2_4, k2_5, k2_6, k2_7, k2_8, k2_9, k2_10, k2_11, k2_12⟩ := K2.all
          have z2_0 := Z2.1 0 _ rfl
          have z2_1 := Z2.1 1 _ rfl
          go_wp2
          go_ret
          exact ⟨ret_bool (HE.out.symm.trans HBB.out), K2.2.2⟩
        · by_cases dp1 : pc = nc
          · by_cases dp2 : pr = nr
            · have dp : decide (pc = nc ∧ pr = nr) = true := by simp [dp1, dp2]
              have dpq1 : (pc == nc) = true := by simp [dp1]
              have dpq2 : (pr == nr) = true := by simp [dp2]
              have dpr1 : (pc != nc) = false := by simp [dp1]
              have dpr2 : (pr != nr) = false := by simp [dp2]
              clear dp1 dp2
              have HE : Hid ((decide (nc = ac ∧ nr = ar) && ((nodeB pc pr && (lessS pc pr ac ar && !decide (pc = nc ∧ pr = nr))) && (rootB fc fr || aheadB fc fr ac ar))) = false) := by show _ = _; simp only [dn, p1, p2, dp, Bool.and_true, Bool.true_and, Bool.and_false, Bool.false_and, Bool.or_true, Bool.true_or, Bool.or_false, Bool.false_or, Bool.not_true, Bool.not_false]
              go_enter Try.func51, Try.ntmps51
              go_wp2_with fail
              refine (refNode_any _ _ _).mono ?_
              rintro e w1 ⟨rfl, hb1⟩
              rw [p1]
              have K1 := K0.step hb1
              have Z1 := Z0.step hb1
              obtain ⟨k1_0, k1_1, k1_2, k1_3, k1_4, k1_5, k1_6, k1_7, k1_8, k1_9, k1_10, k1_11, k1_12⟩ := K1.all
              have z1_0 := Z1.1 0 _ rfl
              have z1_1 := Z1.1 1 _ rfl
              go_wp2_with fail
              refine (refLess_bel _ _ _ _ _).mono ?_
              rintro e w2 ⟨rfl, hb2⟩
              rw [p2]
              have K2 := K1.step hb2
              have Z2 := Z1.step hb2
              clear k1_0 k1_1 k1_2 k1_3 k1_4 k1_5 k1_6 k1_7 k1_8 k1_9 k1_10 k1_11 k1_12 z1_0 z1_1
              obtain ⟨k2_0, k2_1, k2_2, k2_3, k2_4, k2_5, k2_6, k2_7, k2_8, k2_9, k2_10, k2_11, k2_12⟩ := K2.all
              have z2_0 := Z2.1 0 _ rfl
              have z2_1 := Z2.1 1 _ rfl
              go_wp2
              go_ret
              exact ⟨ret_bool (HE.out.symm.trans HBB.out), K2.2.2⟩
            · have dp : decide (pc = nc ∧ pr = nr) = false := by simp [dp2]
              have dpq1 : (pc == nc) = true := by simp [dp1]
              have dpq2 : (pr == nr) = false := by simp [dp2]
              have dpr2 : (pr != nr) = true := by simp [dp2]
              clear dp1 dp2
              by_cases p31 : fc = 0
              · by_cases p32 : fr = 0
                · have p3 : rootB fc fr = true := by simp [rootB, p31, p32]
                  have p3q1 : (fc == 0) = true := by simp [p31]
                  have p3q2 : (fr == 0) = true := by simp [p32]
                  have p3r1 : (fc != 0) = false := by simp [p31]
                  have p3r2 : (fr != 0) = false := by simp [p32]
                  clear p31 p32
                  have HE : Hid ((decide (nc = ac ∧ nr = ar) && ((nodeB pc pr && (lessS pc pr ac ar && !decide (pc = nc ∧ pr = nr))) && (rootB fc fr || aheadB fc fr ac ar))) = true) := by show _ = _; simp only [dn, p1, p2, dp, p3, Bool.and_true, Bool.true_and, Bool.and_false, Bool.false_and, Bool.or_true, Bool.true_or, Bool.or_false, Bool.false_or, Bool.not_true, Bool.not_false]
                  go_enter Try.func51, Try.ntmps51
                  go_wp2_with fail
                  refine (refNode_any _ _ _).mono ?_
                  rintro e w1 ⟨rfl, hb1⟩
                  rw [p1]
                  have K1 := K0.step hb1
                  have Z1 := Z0.step hb1
                  obtain ⟨k1_0, k1_1, k1_2, k1_3, k1_4, k1_5, k1_6, k1_7, k1_8, k1_9, k1_10, k1_11, k1_12⟩ := K1.all
                  have z1_0 := Z1.1 0 _ rfl
                  have z1_1 := Z1.1 1 _ rfl
                  go_wp2_with fail
                  refine (refLess_bel _ _ _ _ _).mono ?_
                  rintro e w2 ⟨rfl, hb2⟩
                  rw [p2]
                  have K2 := K1.step hb2
                  have Z2 := Z1.step hb2
                  clear k1_0 k1_1 k1_2 k1_3 k1_4 k1_5 k1_6 k1_7 k1_8 k1_9 k1_10 k1_11 k1_12 z1_0 z1_1
                  obtain ⟨k2_0, k2_1, k2_2, k2_3, k2_4, k2_5, k2_6, k2_7, k2_8, k2_9, k2_10, k2_11, k2_12⟩ := K2.all
                  have z2_0 := Z2.1 0 _ rfl
                  have z2_1 := Z2.1 1 _ rfl
                  go_wp2
                  go_ret
                  exact ⟨ret_bool (HE.out.symm.trans HBB.out), K2.2.2⟩
                · have p3 : rootB fc fr = false := by simp [rootB, p32]
                  have p3q1 : (fc == 0) = true := by simp [p31]
                  have p3q2 : (fr == 0) = false := by simp [p32]
                  have p3r2 : (fr != 0) = true := by simp [p32]
                  clear p31 p32
                  cases p4 : aheadB fc fr ac ar
                  · have HE : Hid ((decide (nc = ac ∧ nr = ar) && ((nodeB pc pr && (lessS pc pr ac ar && !decide (pc = nc ∧ pr = nr))) && (rootB fc fr || aheadB fc fr ac ar))) = false) := by show _ = _; simp only [dn, p1, p2, dp, p3, p4, Bool.and_true, Bool.true_and, Bool.and_false, Bool.false_and, Bool.or_true, Bool.true_or, Bool.or_false, Bool.false_or, Bool.not_true, Bool.not_false]
                    go_enter Try.func51, Try.ntmps51
                    go_wp2_with fail
                    refine (refNode_any _ _ _).mono ?_
                    rintro e w1 ⟨rfl, hb1⟩
                    rw [p1]
                    have K1 := K0.step hb1
                    have Z1 := Z0.step hb1
                    obtain ⟨k1_0, k1_1, k1_2, k1_3, k1_4, k1_5, k1_6, k1_7, k1_8, k1_9, k1_10, k1_11, k1_12⟩ := K1.all
                    have z1_0 := Z1.1 0 _ rfl
                    have z1_1 := Z1.1 1 _ rfl
                    go_wp2_with fail
                    refine (refLess_bel _ _ _ _ _).mono ?_
                    rintro e w2 ⟨rfl, hb2⟩
                    rw [p2]
                    have K2 := K1.step hb2
                    have Z2 := Z1.step hb2
                    clear k1_0 k1_1 k1_2 k1_3 k1_4 k1_5 k1_6 k1_7 k1_8 k1_9 k1_10 k1_11 k1_12 z1_0 z1_1
                    obtain ⟨k2_0, k2_1, k2_2, k2_3, k2_4, k2_5, k2_6, k2_7, k2_8, k2_9, k2_10, k2_11, k2_12⟩ := K2.all
                    have z2_0 := Z2.1 0 _ rfl
                    have z2_1 := Z2.1 1 _ rfl
                    go_wp2_with fail
                    refine (refAhead_any _ _ _ _ _).mono ?_
                    rintro e w3 ⟨rfl, hb3⟩
                    rw [p4]
                    have K3 := K2.step hb3
                    have Z3 := Z2.step hb3
                    clear k2_0 k2_1 k2_2 k2_3 k2_4 k2_5 k2_6 k2_7 k2_8 k2_9 k2_10 k2_11 k2_12 z2_0 z2_1
                    obtain ⟨k3_0, k3_1, k3_2, k3_3, k3_4, k3_5, k3_6, k3_7, k3_8, k3_9, k3_10, k3_11, k3_12⟩ := K3.all
                    have z3_0 := Z3.1 0 _ rfl
                    have z3_1 := Z3.1 1 _ rfl
                    go_wp2
                    go_ret
                    exact ⟨ret_bool (HE.out.symm.trans HBB.out), K3.2.2⟩
                  · have HE : Hid ((decide (nc = ac ∧ nr = ar) && ((nodeB pc pr && (lessS pc pr ac ar && !decide (pc = nc ∧ pr = nr))) && (rootB fc fr || aheadB fc fr ac ar))) = true) := by show _ = _; simp only [dn, p1, p2, dp, p3, p4, Bool.and_true, Bool.true_and, Bool.and_false, Bool.false_and, Bool.or_true, Bool.true_or, Bool.or_false, Bool.false_or, Bool.not_true, Bool.not_false]
                    go_enter Try.func51, Try.ntmps51
                    go_wp2_with fail
                    refine (refNode_any _ _ _).mono ?_
                    rintro e w1 ⟨rfl, hb1⟩
                    rw [p1]
                    have K1 := K0.step hb1
                    have Z1 := Z0.step hb1
                    obtain ⟨k1_0, k1_1, k1_2, k1_3, k1_4, k1_5, k1_6, k1_7, k1_8, k1_9, k1_10, k1_11, k1_12⟩ := K1.all
                    have z1_0 := Z1.1 0 _ rfl
                    have z1_1 := Z1.1 1 _ rfl
                    go_wp2_with fail
                    refine (refLess_bel _ _ _ _ _).mono ?_
                    rintro e w2 ⟨rfl, hb2⟩
                    rw [p2]
                    have K2 := K1.step hb2
                    have Z2 := Z1.step hb2
                    clear k1_0 k1_1 k1_2 k1_3 k1_4 k1_5 k1_6 k1_7 k1_8 k1_9 k1_10 k1_11 k1_12 z1_0 z1_1
                    obtain ⟨k2_0, k2_1, k2_2, k2_3, k2_4, k2_5, k2_6, k2_7, k2_8, k2_9, k2_10, k2_11, k2_12⟩ := K2.all
                    have z2_0 := Z2.1 0 _ rfl
                    have z2_1 := Z2.1 1 _ rfl
                    go_wp2_with fail
                    refine (refAhead_any _ _ _ _ _).mono ?_
                    rintro e w3 ⟨rfl, hb3⟩
                    rw [p4]
                    have K3 := K2.step hb3
                    have Z3 := Z2.step hb3
                    clear k2_0 k2_1 k2_2 k2_3 k2_4 k2_5 k2_6 k2_7 k2_8 k2_9 k2_10 k2_11 k2_12 z2_0 z2_1
                    obtain ⟨k3_0, k3_1, k3_2, k3_3, k3_4, k3_5, k3_6, k3_7, k3_8, k3_9, k3_10, k3_11, k3_12⟩ := K3.all
                    have z3_0 := Z3.1 0 _ rfl
                    have z3_1 := Z3.1 1 _ rfl
                    go_wp2
                    go_ret
                    exact ⟨ret_bool (HE.out.symm.trans HBB.out), K3.2.2⟩
              · have p3 : rootB fc fr = false := by simp [rootB, p31]
                have p3q1 : (fc == 0) = false := by simp [p31]
                have p3r1 : (fc != 0) = true := by simp [p31]
                clear p31
                cases p4 : aheadB fc fr ac ar
                · have HE : Hid ((decide (nc = ac ∧ nr = ar) && ((nodeB pc pr && (lessS pc pr ac ar && !decide (pc = nc ∧ pr = nr))) && (rootB fc fr || aheadB fc fr ac ar))) = false) := by show _ = _; simp only [dn, p1, p2, dp, p3, p4, Bool.and_true, Bool.true_and, Bool.and_false, Bool.false_and, Bool.or_true, Bool.true_or, Bool.or_false, Bool.false_or, Bool.not_true, Bool.not_false]
                  go_enter Try.func51, Try.ntmps51
                  go_wp2_with fail
                  refine (refNode_any _ _ _).mono ?_
                  rintro e w1 ⟨rfl, hb1⟩
                  rw [p1]
                  have K1 := K0.step hb1
                  have Z1 := Z0.step hb1
                  obtain ⟨k1_0, k1_1, k1_2, k1_3, k1_4, k1_5, k1_6, k1_7, k1_8, k1_9, k1_10, k1_11, k1_12⟩ := K1.all
                  have z1_0 := Z1.1 0 _ rfl
                  have z1_1 := Z1.1 1 _ rfl
                  go_wp2_with fail
                  refine (refLess_bel _ _ _ _ _).mono ?_
                  rintro e w2 ⟨rfl, hb2⟩
                  rw [p2]
                  have K2 := K1.step hb2
                  have Z2 := Z1.step hb2
                  clear k1_0 k1_1 k1_2 k1_3 k1_4 k1_5 k1_6 k1_7 k1_8 k1_9 k1_10 k1_11 k1_12 z1_0 z1_1
                  obtain ⟨k2_0, k2_1, k2_2, k2_3, k2_4, k2_5, k2_6, k2_7, k2_8, k2_9, k2_10, k2_11, k2_12⟩ := K2.all
                  have z2_0 := Z2.1 0 _ rfl
                  have z2_1 := Z2.1 1 _ rfl
                  go_wp2_with fail
                  refine (refAhead_any _ _ _ _ _).mono ?_
                  rintro e w3 ⟨rfl, hb3⟩
                  rw [p4]
                  have K3 := K2.step hb3
                  have Z3 := Z2.step hb3
                  clear k2_0 k2_1 k2_2 k2_3 k2_4 k2_5 k2_6 k2_7 k2_8 k2_9 k2_10 k2_11 k2_12 z2_0 z2_1
                  obtain ⟨k3_0, k3_1, k3_2, k3_3, k3_4, k3_5, k3_6, k3_7, k3_8, k3_9, k3_10, k3_11, k3_12⟩ := K3.all
                  have z3_0 := Z3.1 0 _ rfl
                  have z3_1 := Z3.1 1 _ rfl
                  go_wp2
                  go_ret
                  exact ⟨ret_bool (HE.out.symm.trans HBB.out), K3.2.2⟩
                · have HE : Hid ((decide (nc = ac ∧ nr = ar) && ((nodeB pc pr && (lessS pc pr ac ar && !decide (pc = nc ∧ pr = nr))) && (rootB fc fr || aheadB fc fr ac ar))) = true) := by show _ = _; simp only [dn, p1, p2, dp, p3, p4, Bool.and_true, Bool.true_and, Bool.and_false, Bool.false_and, Bool.or_true, Bool.true_or, Bool.or_false, Bool.false_or, Bool.not_true, Bool.not_false]
                  go_enter Try.func51, Try.ntmps51
                  go_wp2_with fail
                  refine (refNode_any _ _ _).mono ?_
                  rintro e w1 ⟨rfl, hb1⟩
                  rw [p1]
                  have K1 := K0.step hb1
                  have Z1 := Z0.step hb1
                  obtain ⟨k1_0, k1_1, k1_2, k1_3, k1_4, k1_5, k1_6, k1_7, k1_8, k1_9, k1_10, k1_11, k1_12⟩ := K1.all
                  have z1_0 := Z1.1 0 _ rfl
                  have z1_1 := Z1.1 1 _ rfl
                  go_wp2_with fail
                  refine (refLess_bel _ _ _ _ _).mono ?_
                  rintro e w2 ⟨rfl, hb2⟩
                  rw [p2]
                  have K2 := K1.step hb2
                  have Z2 := Z1.step hb2
                  clear k1_0 k1_1 k1_2 k1_3 k1_4 k1_5 k1_6 k1_7 k1_8 k1_9 k1_10 k1_11 k1_12 z1_0 z1_1
                  obtain ⟨k2_0, k2_1, k2_2, k2_3, k2_4, k2_5, k2_6, k2_7, k2_8, k2_9, k2_10, k2_11, k2_12⟩ := K2.all
                  have z2_0 := Z2.1 0 _ rfl
                  have z2_1 := Z2.1 1 _ rfl
                  go_wp2_with fail
                  refine (refAhead_any _ _ _ _ _).mono ?_
                  rintro e w3 ⟨rfl, hb3⟩
                  rw [p4]
                  have K3 := K2.step hb3
                  have Z3 := Z2.step hb3
                  clear k2_0 k2_1 k2_2 k2_3 k2_4 k2_5 k2_6 k2_7 k2_8 k2_9 k2_10 k2_11 k2_12 z2_0 z2_1
                  obtain ⟨k3_0, k3_1, k3_2, k3_3, k3_4, k3_5, k3_6, k3_7, k3_8, k3_9, k3_10, k3_11, k3_12⟩ := K3.all
                  have z3_0 := Z3.1 0 _ rfl
                  have z3_1 := Z3.1 1 _ rfl
                  go_wp2
                  go_ret
                  exact ⟨ret_bool (HE.out.symm.trans HBB.out), K3.2.2⟩
          · have dp : decide (pc = nc ∧ pr = nr) = false := by simp [dp1]
            have dpq1 : (pc == nc) = false := by simp [dp1]
            have dpr1 : (pc != nc) = true := by simp [dp1]
            clear dp1
            by_cases p31 : fc = 0
            · by_cases p32 : fr = 0
              · have p3 : rootB fc fr = true := by simp [rootB, p31, p32]
                have p3q1 : (fc == 0) = true := by simp [p31]
                have p3q2 : (fr == 0) = true := by simp [p32]
                have p3r1 : (fc != 0) = false := by simp [p31]
                have p3r2 : (fr != 0) = false := by simp [p32]
                clear p31 p32
                have HE : Hid ((decide (nc = ac ∧ nr = ar) && ((nodeB pc pr && (lessS pc pr ac ar && !decide (pc = nc ∧ pr = nr))) && (rootB fc fr || aheadB fc fr ac ar))) = true) := by show _ = _; simp only [dn, p1, p2, dp, p3, Bool.and_true, Bool.true_and, Bool.and_false, Bool.false_and, Bool.or_true, Bool.true_or, Bool.or_false, Bool.false_or, Bool.not_true, Bool.not_false]
                go_enter Try.func51, Try.ntmps51
                go_wp2_with fail
                refine (refNode_any _ _ _).mono ?_
                rintro e w1 ⟨rfl, hb1⟩
                rw [p1]
                have K1 := K0.step hb1
                have Z1 := Z0.step hb1
                obtain ⟨k1_0, k1_1, k1_2, k1_3, k1_4, k1_5, k1_6, k1_7, k1_8, k1_9, k1_10, k1_11, k1_12⟩ := K1.all
                have z1_0 := Z1.1 0 _ rfl
                have z1_1 := Z1.1 1 _ rfl
                go_wp2_with fail
                refine (refLess_bel _ _ _ _ _).mono ?_
                rintro e w2 ⟨rfl, hb2⟩
                rw [p2]
                have K2 := K1.step hb2
                have Z2 := Z1.step hb2
                clear k1_0 k1_1 k1_2 k1_3 k1_4 k1_5 k1_6 k1_7 k1_8 k1_9 k1_10 k1_11 k1_12 z1_0 z1_1
                obtain ⟨k2_0, k2_1, k2_2, k2_3, k2_4, k2_5, k2_6, k2_7, k2_8, k2_9, k2_10, k2_11, k2_12⟩ := K2.all
                have z2_0 := Z2.1 0 _ rfl
                have z2_1 := Z2.1 1 _ rfl
                go_wp2
                go_ret
                exact ⟨ret_bool (HE.out.symm.trans HBB.out), K2.2.2⟩
              · have p3 : rootB fc fr = false := by simp [rootB, p32]
                have p3q1 : (fc == 0) = true := by simp [p31]
                have p3q2 : (fr == 0) = false := by simp [p32]
                have p3r2 : (fr != 0) = true := by simp [p32]
                clear p31 p32
                cases p4 : aheadB fc fr ac ar
                · have HE : Hid ((decide (nc = ac ∧ nr = ar) && ((nodeB pc pr && (lessS pc pr ac ar && !decide (pc = nc ∧ pr = nr))) && (rootB fc fr || aheadB fc fr ac ar))) = false) := by show _ = _; simp only [dn, p1, p2, dp, p3, p4, Bool.and_true, Bool.true_and, Bool.and_false, Bool.false_and, Bool.or_true, Bool.true_or, Bool.or_false, Bool.false_or, Bool.not_true, Bool.not_false]
                  go_enter Try.func51, Try.ntmps51
                  go_wp2_with fail
                  refine (refNode_any _ _ _).mono ?_
                  rintro e w1 ⟨rfl, hb1⟩
                  rw [p1]
                  have K1 := K0.step hb1
                  have Z1 := Z0.step hb1
                  obtain ⟨k1_0, k1_1, k1_2, k1_3, k1_4, k1_5, k1_6, k1_7, k1_8, k1_9, k1_10, k1_11, k1_12⟩ := K1.all
                  have z1_0 := Z1.1 0 _ rfl
                  have z1_1 := Z1.1 1 _ rfl
                  go_wp2_with fail
                  refine (refLess_bel _ _ _ _ _).mono ?_
                  rintro e w2 ⟨rfl, hb2⟩
                  rw [p2]
                  have K2 := K1.step hb2
                  have Z2 := Z1.step hb2
                  clear k1_0 k1_1 k1_2 k1_3 k1_4 k1_5 k1_6 k1_7 k1_8 k1_9 k1_10 k1_11 k1_12 z1_0 z1_1
                  obtain ⟨k2_0, k2_1, k2_2, k2_3, k2_4, k2_5, k2_6, k2_7, k2_8, k2_9, k2_10, k2_11, k2_12⟩ := K2.all
                  have z2_0 := Z2.1 0 _ rfl
                  have z2_1 := Z2.1 1 _ rfl
                  go_wp2_with fail
                  refine (refAhead_any _ _ _ _ _).mono ?_
                  rintro e w3 ⟨rfl, hb3⟩
                  rw [p4]
                  have K3 := K2.step hb3
                  have Z3 := Z2.step hb3
                  clear k2_0 k2_1 k2_2 k2_3 k2_4 k2_5 k2_6 k2_7 k2_8 k2_9 k2_10 k2_11 k2_12 z2_0 z2_1
                  obtain ⟨k3_0, k3_1, k3_2, k3_3, k3_4, k3_5, k3_6, k3_7, k3_8, k3_9, k3_10, k3_11, k3_12⟩ := K3.all
                  have z3_0 := Z3.1 0 _ rfl
                  have z3_1 := Z3.1 1 _ rfl
                  go_wp2
                  go_ret
                  exact ⟨ret_bool (HE.out.symm.trans HBB.out), K3.2.2⟩
                · have HE : Hid ((decide (nc = ac ∧ nr = ar) && ((nodeB pc pr && (lessS pc pr ac ar && !decide (pc = nc ∧ pr = nr))) && (rootB fc fr || aheadB fc fr ac ar))) = true) := by show _ = _; simp only [dn, p1, p2, dp, p3, p4, Bool.and_true, Bool.true_and, Bool.and_false, Bool.false_and, Bool.or_true, Bool.true_or, Bool.or_false, Bool.false_or, Bool.not_true, Bool.not_false]
                  go_enter Try.func51, Try.ntmps51
                  go_wp2_with fail
                  refine (refNode_any _ _ _).mono ?_
                  rintro e w1 ⟨rfl, hb1⟩
                  rw [p1]
                  have K1 := K0.step hb1
                  have Z1 := Z0.step hb1
                  obtain ⟨k1_0, k1_1, k1_2, k1_3, k1_4, k1_5, k1_6, k1_7, k1_8, k1_9, k1_10, k1_11, k1_12⟩ := K1.all
                  have z1_0 := Z1.1 0 _ rfl
                  have z1_1 := Z1.1 1 _ rfl
                  go_wp2_with fail
                  refine (refLess_bel _ _ _ _ _).mono ?_
                  rintro e w2 ⟨rfl, hb2⟩
                  rw [p2]
                  have K2 := K1.step hb2
                  have Z2 := Z1.step hb2
                  clear k1_0 k1_1 k1_2 k1_3 k1_4 k1_5 k1_6 k1_7 k1_8 k1_9 k1_10 k1_11 k1_12 z1_0 z1_1
                  obtain ⟨k2_0, k2_1, k2_2, k2_3, k2_4, k2_5, k2_6, k2_7, k2_8, k2_9, k2_10, k2_11, k2_12⟩ := K2.all
                  have z2_0 := Z2.1 0 _ rfl
                  have z2_1 := Z2.1 1 _ rfl
                  go_wp2_with fail
                  refine (refAhead_any _ _ _ _ _).mono ?_
                  rintro e w3 ⟨rfl, hb3⟩
                  rw [p4]
                  have K3 := K2.step hb3
                  have Z3 := Z2.step hb3
                  clear k2_0 k2_1 k2_2 k2_3 k2_4 k2_5 k2_6 k2_7 k2_8 k2_9 k2_10 k2_11 k2_12 z2_0 z2_1
                  obtain ⟨k3_0, k3_1, k3_2, k3_3, k3_4, k3_5, k3_6, k3_7, k3_8, k3_9, k3_10, k3_11, k3_12⟩ := K3.all
                  have z3_0 := Z3.1 0 _ rfl
                  have z3_1 := Z3.1 1 _ rfl
                  go_wp2
                  go_ret
                  exact ⟨ret_bool (HE.out.symm.trans HBB.out), K3.2.2⟩
            · have p3 : rootB fc fr = false := by simp [rootB, p31]
              have p3q1 : (fc == 0) = false := by simp [p31]
              have p3r1 : (fc != 0) = true := by simp [p31]
              clear p31
              cases p4 : aheadB fc fr ac ar
              · have HE : Hid ((decide (nc = ac ∧ nr = ar) && ((nodeB pc pr && (lessS pc pr ac ar && !decide (pc = nc ∧ pr = nr))) && (rootB fc fr || aheadB fc fr ac ar))) = false) := by show _ = _; simp only [dn, p1, p2, dp, p3, p4, Bool.and_true, Bool.true_and, Bool.and_false, Bool.false_and, Bool.or_true, Bool.true_or, Bool.or_false, Bool.false_or, Bool.not_true, Bool.not_false]
                go_enter Try.func51, Try.ntmps51
                go_wp2_with fail
                refine (refNode_any _ _ _).mono ?_
                rintro e w1 ⟨rfl, hb1⟩
                rw [p1]
                have K1 := K0.step hb1
                have Z1 := Z0.step hb1
                obtain ⟨k1_0, k1_1, k1_2, k1_3, k1_4, k1_5, k1_6, k1_7, k1_8, k1_9, k1_10, k1_11, k1_12⟩ := K1.all
                have z1_0 := Z1.1 0 _ rfl
                have z1_1 := Z1.1 1 _ rfl
                go_wp2_with fail
                refine (refLess_bel _ _ _ _ _).mono ?_
                rintro e w2 ⟨rfl, hb2⟩
                rw [p2]
                have K2 := K1.step hb2
                have Z2 := Z1.step hb2
                clear k1_0 k1_1 k1_2 k1_3 k1_4 k1_5 k1_6 k1_7 k1_8 k1_9 k1_10 k1_11 k1_12 z1_0 z1_1
                obtain ⟨k2_0, k2_1, k2_2, k2_3, k2_4, k2_5, k2_6, k2_7, k2_8, k2_9, k2_10, k2_11, k2_12⟩ := K2.all
                have z2_0 := Z2.1 0 _ rfl
                have z2_1 := Z2.1 1 _ rfl
                go_wp2_with fail
                refine (refAhead_any _ _ _ _ _).mono ?_
                rintro e w3 ⟨rfl, hb3⟩
                rw [p4]
                have K3 := K2.step hb3
                have Z3 := Z2.step hb3
                clear k2_0 k2_1 k2_2 k2_3 k2_4 k2_5 k2_6 k2_7 k2_8 k2_9 k2_10 k2_11 k2_12 z2_0 z2_1
                obtain ⟨k3_0, k3_1, k3_2, k3_3, k3_4, k3_5, k3_6, k3_7, k3_8, k3_9, k3_10, k3_11, k3_12⟩ := K3.all
                have z3_0 := Z3.1 0 _ rfl
                have z3_1 := Z3.1 1 _ rfl
                go_wp2
                go_ret
                exact ⟨ret_bool (HE.out.symm.trans HBB.out), K3.2.2⟩
              · have HE : Hid ((decide (nc = ac ∧ nr = ar) && ((nodeB pc pr && (lessS pc pr ac ar && !decide (pc = nc ∧ pr = nr))) && (rootB fc fr || aheadB fc fr ac ar))) = true) := by show _ = _; simp only [dn, p1, p2, dp, p3, p4, Bool.and_true, Bool.true_and, Bool.and_false, Bool.false_and, Bool.or_true, Bool.true_or, Bool.or_false, Bool.false_or, Bool.not_true, Bool.not_false]
                go_enter Try.func51, Try.ntmps51
                go_wp2_with fail
                refine (refNode_any _ _ _).mono ?_
                rintro e w1 ⟨rfl, hb1⟩
                rw [p1]
                have K1 := K0.step hb1
                have Z1 := Z0.step hb1
                obtain ⟨k1_0, k1_1, k1_2, k1_3, k1_4, k1_5, k1_6, k1_7, k1_8, k1_9, k1_10, k1_11, k1_12⟩ := K1.all
                have z1_0 := Z1.1 0 _ rfl
                have z1_1 := Z1.1 1 _ rfl
                go_wp2_with fail
                refine (refLess_bel _ _ _ _ _).mono ?_
                rintro e w2 ⟨rfl, hb2⟩
                rw [p2]
                have K2 := K1.step hb2
                have Z2 := Z1.step hb2
                clear k1_0 k1_1 k1_2 k1_3 k1_4 k1_5 k1_6 k1_7 k1_8 k1_9 k1_10 k1_11 k1_12 z1_0 z1_1
                obtain ⟨k2_0, k2_1, k2_2, k2_3, k2_4, k2_5, k2_6, k2_7, k2_8, k2_9, k2_10, k2_11, k2_12⟩ := K2.all
                have z2_0 := Z2.1 0 _ rfl
                have z2_1 := Z2.1 1 _ rfl
                go_wp2_with fail
                refine (refAhead_any _ _ _ _ _).mono ?_
                rintro e w3 ⟨rfl, hb3⟩
                rw [p4]
                have K3 := K2.step hb3
                have Z3 := Z2.step hb3
                clear k2_0 k2_1 k2_2 k2_3 k2_4 k2_5 k2_6 k2_7 k2_8 k2_9 k2_10 k2_11 k2_12 z2_0 z2_1
                obtain ⟨k3_0, k3_1, k3_2, k3_3, k3_4, k3_5, k3_6, k3_7, k3_8, k3_9, k3_10, k3_11, k3_12⟩ := K3.all
                have z3_0 := Z3.1 0 _ rfl
                have z3_1 := Z3.1 1 _ rfl
                go_wp2
                go_ret
                exact ⟨ret_bool (HE.out.symm.trans HBB.out), K3.2.2⟩
    · have dn : decide (nc = ac ∧ nr = ar) = false := by simp [dn2]
      have dnq1 : (nc == ac) = true := by simp [dn1]
      have dnq2 : (nr == ar) = false := by simp [dn2]
      have dnr2 : (nr != ar) = true := by simp [dn2]
      clear dn1 dn2
      have HE : Hid ((decide (nc = ac ∧ nr = ar) && ((nodeB pc pr && (lessS pc pr ac ar && !decide (pc = nc ∧ pr = nr))) && (rootB fc fr || aheadB fc fr ac ar))) = false) := by show _ = _; simp only [dn, Bool.and_true, Bool.true_and, Bool.and_false, Bool.false_and, Bool.or_true, Bool.true_or, Bool.or_false, Bool.false_or, Bool.not_true, Bool.not_false]
      go_enter Try.func51, Try.ntmps51
      go_wp2
      go_ret
      exact ⟨ret_bool (HE.out.symm.trans HBB.out), K0.2.2⟩
  · have dn : decide (nc = ac ∧ nr = ar) = false := by simp [dn1]
    have dnq1 : (nc == ac) = false := by simp [dn1]
    have dnr1 : (nc != ac) = true := by simp [dn1]
    clear dn1
    have HE : Hid ((decide (nc = ac ∧ nr = ar) && ((nodeB pc pr && (lessS pc pr ac ar && !decide (pc = nc ∧ pr = nr))) && (rootB fc fr || aheadB fc fr ac ar))) = false) := by show _ = _; simp only [dn, Bool.and_true, Bool.true_and, Bool.and_false, Bool.false_and, Bool.or_true, Bool.true_or, Bool.or_false, Bool.false_or, Bool.not_true, Bool.not_false]
    go_enter Try.func51, Try.ntmps51
    go_wp2
    go_ret
    exact ⟨ret_bool (HE.out.symm.trans HBB.out), K0.2.2⟩

set_option maxRecDepth 100000 in
set_option maxHeartbeats 8000000 in
theorem refPlaced_two (ac ar sq : Int) (dv : Value) (nc nr pc pr fc fr : Int) (nm vl : ByteArray) (w : World) :
    Calls Try.prog 51 #[.agg #[.int .i64 ac, .int .i64 ar, .int .i64 sq, dv, .int .i64 2, .int .i64 nc, .int .i64 nr, .int .i64 pc, .int .i64 pr, .int .i64 fc, .int .i64 fr, .string nm, .string vl]] w fun e w' => e = .returned (.bool (aheadB nc nr ac ar && ((nodeB pc pr && (lessS pc pr ac ar && !decide (pc = nc ∧ pr = nr))) && (rootB fc fr || aheadB fc fr ac ar)))) ∧ Below w.heap.size w w' := by
  obtain ⟨BB, hBB⟩ : ∃ b : Bool, (aheadB nc nr ac ar && ((nodeB pc pr && (lessS pc pr ac ar && !decide (pc = nc ∧ pr = nr))) && (rootB fc fr || aheadB fc fr ac ar))) = b := ⟨_, rfl⟩
  rw [hBB]
  have HBB : Hid ((aheadB nc nr ac ar && ((nodeB pc pr && (lessS pc pr ac ar && !decide (pc = nc ∧ pr = nr))) && (rootB fc fr || aheadB fc fr ac ar))) = BB) := hBB
  clear hBB
  have Ka := KeptC.start w #[.int .i64 ac, .int .i64 ar, .int .i64 sq, dv, .int .i64 2, .int .i64 nc, .int .i64 nr, .int .i64 pc, .int .i64 pr, .int .i64 fc, .int .i64 fr, .string nm, .string vl].toList 35
  have Z0 := KeptC.start (w.alloc (.cells #[.int .i64 ac, .int .i64 ar, .int .i64 sq, dv, .int .i64 2, .int .i64 nc, .int .i64 nr, .int .i64 pc, .int .i64 pr, .int .i64 fc, .int .i64 fr, .string nm, .string vl] 35)) [.int .i64 0, .int .i64 0] 33
  rw [show (w.alloc (.cells #[.int .i64 ac, .int .i64 ar, .int .i64 sq, dv, .int .i64 2, .int .i64 nc, .int .i64 nr, .int .i64 pc, .int .i64 pr, .int .i64 fc, .int .i64 fr, .string nm, .string vl] 35)).heap.size = w.heap.size + 1 by simp] at Z0
  have K0 := Ka.step Z0.2.2
  cases n1 : aheadB nc nr ac ar
  · have HE : Hid ((aheadB nc nr ac ar && ((nodeB pc pr && (lessS pc pr ac ar && !decide (pc = nc ∧ pr = nr))) && (rootB fc fr || aheadB fc fr ac ar))) = false) := by show _ = _; simp only [n1, Bool.and_true, Bool.true_and, Bool.and_false, Bool.false_and, Bool.or_true, Bool.true_or, Bool.or_false, Bool.false_or, Bool.not_true, Bool.not_false]
    go_enter Try.func51, Try.ntmps51
    go_wp2_with fail
    refine (refAhead_any _ _ _ _ _).mono ?_
    rintro e w1 ⟨rfl, hb1⟩
    rw [n1]
    have K1 := K0.step hb1
    have Z1 := Z0.step hb1
    obtain ⟨k1_0, k1_1, k1_2, k1_3, k1_4, k1_5, k1_6, k1_7, k1_8, k1_9, k1_10, k1_11, k1_12⟩ := K1.all
    have z1_0 := Z1.1 0 _ rfl
    have z1_1 := Z1.1 1 _ rfl
    go_wp2
    go_ret
    exact ⟨ret_bool (HE.out.symm.trans HBB.out), K1.2.2⟩
  · cases p1 : nodeB pc pr
    · have HE : Hid ((aheadB nc nr ac ar && ((nodeB pc pr && (lessS pc pr ac ar && !decide (pc = nc ∧ pr = nr))) && (rootB fc fr || aheadB fc fr ac ar))) = false) := by show _ = _; simp only [n1, p1, Bool.and_true, Bool.true_and, Bool.and_false, Bool.false_and, Bool.or_true, Bool.true_or, Bool.or_false, Bool.false_or, Bool.not_true, Bool.not_false]
      go_enter Try.func51, Try.ntmps51
      go_wp2_with fail
      refine (refAhead_any _ _ _ _ _).mono ?_
      rintro e w1 ⟨rfl, hb1⟩
      rw [n1]
      have K1 := K0.step hb1
      have Z1 := Z0.step hb1
      obtain ⟨k1_0, k1_1, k1_2, k1_3, k1_4, k1_5, k1_6, k1_7, k1_8, k1_9, k1_10, k1_11, k1_12⟩ := K1.all
      have z1_0 := Z1.1 0 _ rfl
      have z1_1 := Z1.1 1 _ rfl
      go_wp2_with fail
      refine (refNode_any _ _ _).mono ?_
      rintro e w2 ⟨rfl, hb2⟩
      rw [p1]
      have K2 := K1.step hb2
      have Z2 := Z1.step hb2
      clear k1_0 k1_1 k1_2 k1_3 k1_4 k1_5 k1_6 k1_7 k1_8 k1_9 k1_10 k1_11 k1_12 z1_0 z1_1
      obtain ⟨k2_0, k2_1, k2_2, k2_3, k2_4, k2_5, k2_6, k2_7, k2_8, k2_9, k2_10, k2_11, k2_12⟩ := K2.all
      have z2_0 := Z2.1 0 _ rfl
      have z2_1 := Z2.1 1 _ rfl
      go_wp2
      go_ret
      exact ⟨ret_bool (HE.out.symm.trans HBB.out), K2.2.2⟩
    · cases p2 : lessS pc pr ac ar
      · have HE : Hid ((aheadB nc nr ac ar && ((nodeB pc pr && (lessS pc pr ac ar && !decide (pc = nc ∧ pr = nr))) && (rootB fc fr || aheadB fc fr ac ar))) = false) := by show _ = _; simp only [n1, p1, p2, Bool.and_true, Bool.true_and, Bool.and_false, Bool.false_and, Bool.or_true, Bool.true_or, Bool.or_false, Bool.false_or, Bool.not_true, Bool.not_false]
        go_enter Try.func51, Try.ntmps51
        go_wp2_with fail
        refine (refAhead_any _ _ _ _ _).mono ?_
        rintro e w1 ⟨rfl, hb1⟩
        rw [n1]
        have K1 := K0.step hb1
        have Z1 := Z0.step hb1
        obtain ⟨k1_0, k1_1, k1_2, k1_3, k1_4, k1_5, k1_6, k1_7, k1_8, k1_9, k1_10, k1_11, k1_12⟩ := K1.all
        have z1_0 := Z1.1 0 _ rfl
        have z1_1 := Z1.1 1 _ rfl
        go_wp2_with fail
        refine (refNode_any _ _ _).mono ?_
        rintro e w2 ⟨rfl, hb2⟩
        rw [p1]
        have K2 := K1.step hb2
        have Z2 := Z1.step hb2
        clear k1_0 k1_1 k1_2 k1_3 k1_4 k1_5 k1_6 k1_7 k1_8 k1_9 k1_10 k1_11 k1_12 z1_0 z1_1
        obtain ⟨k2_0, k2_1, k2_2, k2_3, k2_4, k2_5, k2_6, k2_7, k2_8, k2_9, k2_10, k2_11, k2_12⟩ := K2.all
        have z2_0 := Z2.1 0 _ rfl
        have z2_1 := Z2.1 1 _ rfl
        go_wp2_with fail
        refine (refLess_bel _ _ _ _ _).mono ?_
        rintro e w3 ⟨rfl, hb3⟩
        rw [p2]
        have K3 := K2.step hb3
        have Z3 := Z2.step hb3
        clear k2_0 k2_1 k2_2 k2_3 k2_4 k2_5 k2_6 k2_7 k2_8 k2_9 k2_10 k2_11 k2_12 z2_0 z2_1
        obtain ⟨k3_0, k3_1, k3_2, k3_3, k3_4, k3_5, k3_6, k3_7, k3_8, k3_9, k3_10, k3_11, k3_12⟩ := K3.all
        have z3_0 := Z3.1 0 _ rfl
        have z3_1 := Z3.1 1 _ rfl
        go_wp2
        go_ret
        exact ⟨ret_bool (HE.out.symm.trans HBB.out), K3.2.2⟩
      · by_cases dp1 : pc = nc
        · by_cases dp2 : pr = nr
          · have dp : decide (pc = nc ∧ pr = nr) = true := by simp [dp1, dp2]
            have dpq1 : (pc == nc) = true := by simp [dp1]
            have dpq2 : (pr == nr) = true := by simp [dp2]
            have dpr1 : (pc != nc) = false := by simp [dp1]
            have dpr2 : (pr != nr) = false := by simp [dp2]
            clear dp1 dp2
            have HE : Hid ((aheadB nc nr ac ar && ((nodeB pc pr && (lessS pc pr ac ar && !decide (pc = nc ∧ pr = nr))) && (rootB fc fr || aheadB fc fr ac ar))) = false) := by show _ = _; simp only [n1, p1, p2, dp, Bool.and_true, Bool.true_and, Bool.and_false, Bool.false_and, Bool.or_true, Bool.true_or, Bool.or_false, Bool.false_or, Bool.not_true, Bool.not_false]
            go_enter Try.func51, Try.ntmps51
            go_wp2_with fail
            refine (refAhead_any _ _ _ _ _).mono ?_
            rintro e w1 ⟨rfl, hb1⟩
            rw [n1]
            have K1 := K0.step hb1
            have Z1 := Z0.step hb1
            obtain ⟨k1_0, k1_1, k1_2, k1_3, k1_4, k1_5, k1_6, k1_7, k1_8, k1_9, k1_10, k1_11, k1_12⟩ := K1.all
            have z1_0 := Z1.1 0 _ rfl
            have z1_1 := Z1.1 1 _ rfl
            go_wp2_with fail
            refine (refNode_any _ _ _).mono ?_
            rintro e w2 ⟨rfl, hb2⟩
            rw [p1]
            have K2 := K1.step hb2
            have Z2 := Z1.step hb2
            clear k1_0 k1_1 k1_2 k1_3 k1_4 k1_5 k1_6 k1_7 k1_8 k1_9 k1_10 k1_11 k1_12 z1_0 z1_1
            obtain ⟨k2_0, k2_1, k2_2, k2_3, k2_4, k2_5, k2_6, k2_7, k2_8, k2_9, k2_10, k2_11, k2_12⟩ := K2.all
            have z2_0 := Z2.1 0 _ rfl
            have z2_1 := Z2.1 1 _ rfl
            go_wp2_with fail
            refine (refLess_bel _ _ _ _ _).mono ?_
            rintro e w3 ⟨rfl, hb3⟩
            rw [p2]
            have K3 := K2.step hb3
            have Z3 := Z2.step hb3
            clear k2_0 k2_1 k2_2 k2_3 k2_4 k2_5 k2_6 k2_7 k2_8 k2_9 k2_10 k2_11 k2_12 z2_0 z2_1
            obtain ⟨k3_0, k3_1, k3_2, k3_3, k3_4, k3_5, k3_6, k3_7, k3_8, k3_9, k3_10, k3_11, k3_12⟩ := K3.all
            have z3_0 := Z3.1 0 _ rfl
            have z3_1 := Z3.1 1 _ rfl
            go_wp2
            go_ret
            exact ⟨ret_bool (HE.out.symm.trans HBB.out), K3.2.2⟩
          · have dp : decide (pc = nc ∧ pr = nr) = false := by simp [dp2]
            have dpq1 : (pc == nc) = true := by simp [dp1]
            have dpq2 : (pr == nr) = false := by simp [dp2]
            have dpr2 : (pr != nr) = true := by simp [dp2]
            clear dp1 dp2
            by_cases p31 : fc = 0
            · by_cases p32 : fr = 0
              · have p3 : rootB fc fr = true := by simp [rootB, p31, p32]
                have p3q1 : (fc == 0) = true := by simp [p31]
                have p3q2 : (fr == 0) = true := by simp [p32]
                have p3r1 : (fc != 0) = false := by simp [p31]
                have p3r2 : (fr != 0) = false := by simp [p32]
                clear p31 p32
                have HE : Hid ((aheadB nc nr ac ar && ((nodeB pc pr && (lessS pc pr ac ar && !decide (pc = nc ∧ pr = nr))) && (rootB fc fr || aheadB fc fr ac ar))) = true) := by show _ = _; simp only [n1, p1, p2, dp, p3, Bool.and_true, Bool.true_and, Bool.and_false, Bool.false_and, Bool.or_true, Bool.true_or, Bool.or_false, Bool.false_or, Bool.not_true, Bool.not_false]
                go_enter Try.func51, Try.ntmps51
                go_wp2_with fail
                refine (refAhead_any _ _ _ _ _).mono ?_
                rintro e w1 ⟨rfl, hb1⟩
                rw [n1]
                have K1 := K0.step hb1
                have Z1 := Z0.step hb1
                obtain ⟨k1_0, k1_1, k1_2, k1_3, k1_4, k1_5, k1_6, k1_7, k1_8, k1_9, k1_10, k1_11, k1_12⟩ := K1.all
                have z1_0 := Z1.1 0 _ rfl
                have z1_1 := Z1.1 1 _ rfl
                go_wp2_with fail
                refine (refNode_any _ _ _).mono ?_
                rintro e w2 ⟨rfl, hb2⟩
                rw [p1]
                have K2 := K1.step hb2
                have Z2 := Z1.step hb2
                clear k1_0 k1_1 k1_2 k1_3 k1_4 k1_5 k1_6 k1_7 k1_8 k1_9 k1_10 k1_11 k1_12 z1_0 z1_1
                obtain ⟨k2_0, k2_1, k2_2, k2_3, k2_4, k2_5, k2_6, k2_7, k2_8, k2_9, k2_10, k2_11, k2_12⟩ := K2.all
                have z2_0 := Z2.1 0 _ rfl
                have z2_1 := Z2.1 1 _ rfl
                go_wp2_with fail
                refine (refLess_bel _ _ _ _ _).mono ?_
                rintro e w3 ⟨rfl, hb3⟩
                rw [p2]
                have K3 := K2.step hb3
                have Z3 := Z2.step hb3
                clear k2_0 k2_1 k2_2 k2_3 k2_4 k2_5 k2_6 k2_7 k2_8 k2_9 k2_10 k2_11 k2_12 z2_0 z2_1
                obtain ⟨k3_0, k3_1, k3_2, k3_3, k3_4, k3_5, k3_6, k3_7, k3_8, k3_9, k3_10, k3_11, k3_12⟩ := K3.all
                have z3_0 := Z3.1 0 _ rfl
                have z3_1 := Z3.1 1 _ rfl
                go_wp2
                go_ret
                exact ⟨ret_bool (HE.out.symm.trans HBB.out), K3.2.2⟩
              · have p3 : rootB fc fr = false := by simp [rootB, p32]
                have p3q1 : (fc == 0) = true := by simp [p31]
                have p3q2 : (fr == 0) = false := by simp [p32]
                have p3r2 : (fr != 0) = true := by simp [p32]
                clear p31 p32
                cases p4 : aheadB fc fr ac ar
                · have HE : Hid ((aheadB nc nr ac ar && ((nodeB pc pr && (lessS pc pr ac ar && !decide (pc = nc ∧ pr = nr))) && (rootB fc fr || aheadB fc fr ac ar))) = false) := by show _ = _; simp only [n1, p1, p2, dp, p3, p4, Bool.and_true, Bool.true_and, Bool.and_false, Bool.false_and, Bool.or_true, Bool.true_or, Bool.or_false, Bool.false_or, Bool.not_true, Bool.not_false]
                  go_enter Try.func51, Try.ntmps51
                  go_wp2_with fail
                  refine (refAhead_any _ _ _ _ _).mono ?_
                  rintro e w1 ⟨rfl, hb1⟩
                  rw [n1]
                  have K1 := K0.step hb1
                  have Z1 := Z0.step hb1
                  obtain ⟨k1_0, k1_1, k1_2, k1_3, k1_4, k1_5, k1_6, k1_7, k1_8, k1_9, k1_10, k1_11, k1_12⟩ := K1.all
                  have z1_0 := Z1.1 0 _ rfl
                  have z1_1 := Z1.1 1 _ rfl
                  go_wp2_with fail
                  refine (refNode_any _ _ _).mono ?_
                  rintro e w2 ⟨rfl, hb2⟩
                  rw [p1]
                  have K2 := K1.step hb2
                  have Z2 := Z1.step hb2
                  clear k1_0 k1_1 k1_2 k1_3 k1_4 k1_5 k1_6 k1_7 k1_8 k1_9 k1_10 k1_11 k1_12 z1_0 z1_1
                  obtain ⟨k2_0, k2_1, k2_2, k2_3, k2_4, k2_5, k2_6, k2_7, k2_8, k2_9, k2_10, k2_11, k2_12⟩ := K2.all
                  have z2_0 := Z2.1 0 _ rfl
                  have z2_1 := Z2.1 1 _ rfl
                  go_wp2_with fail
                  refine (refLess_bel _ _ _ _ _).mono ?_
                  rintro e w3 ⟨rfl, hb3⟩
                  rw [p2]
                  have K3 := K2.step hb3
                  have Z3 := Z2.step hb3
                  clear k2_0 k2_1 k2_2 k2_3 k2_4 k2_5 k2_6 k2_7 k2_8 k2_9 k2_10 k2_11 k2_12 z2_0 z2_1
                  obtain ⟨k3_0, k3_1, k3_2, k3_3, k3_4, k3_5, k3_6, k3_7, k3_8, k3_9, k3_10, k3_11, k3_12⟩ := K3.all
                  have z3_0 := Z3.1 0 _ rfl
                  have z3_1 := Z3.1 1 _ rfl
                  go_wp2_with fail
                  refine (refAhead_any _ _ _ _ _).mono ?_
                  rintro e w4 ⟨rfl, hb4⟩
                  rw [p4]
                  have K4 := K3.step hb4
                  have Z4 := Z3.step hb4
                  clear k3_0 k3_1 k3_2 k3_3 k3_4 k3_5 k3_6 k3_7 k3_8 k3_9 k3_10 k3_11 k3_12 z3_0 z3_1
                  obtain ⟨k4_0, k4_1, k4_2, k4_3, k4_4, k4_5, k4_6, k4_7, k4_8, k4_9, k4_10, k4_11, k4_12⟩ := K4.all
                  have z4_0 := Z4.1 0 _ rfl
                  have z4_1 := Z4.1 1 _ rfl
                  go_wp2
                  go_ret
                  exact ⟨ret_bool (HE.out.symm.trans HBB.out), K4.2.2⟩
                · have HE : Hid ((aheadB nc nr ac ar && ((nodeB pc pr && (lessS pc pr ac ar && !decide (pc = nc ∧ pr = nr))) && (rootB fc fr || aheadB fc fr ac ar))) = true) := by show _ = _; simp only [n1, p1, p2, dp, p3, p4, Bool.and_true, Bool.true_and, Bool.and_false, Bool.false_and, Bool.or_true, Bool.true_or, Bool.or_false, Bool.false_or, Bool.not_true, Bool.not_false]
                  go_enter Try.func51, Try.ntmps51
                  go_wp2_with fail
                  refine (refAhead_any _ _ _ _ _).mono ?_
                  rintro e w1 ⟨rfl, hb1⟩
                  rw [n1]
                  have K1 := K0.step hb1
                  have Z1 := Z0.step hb1
                  obtain ⟨k1_0, k1_1, k1_2, k1_3, k1_4, k1_5, k1_6, k1_7, k1_8, k1_9, k1_10, k1_11, k1_12⟩ := K1.all
                  have z1_0 := Z1.1 0 _ rfl
                  have z1_1 := Z1.1 1 _ rfl
                  go_wp2_with fail
                  refine (refNode_any _ _ _).mono ?_
                  rintro e w2 ⟨rfl, hb2⟩
                  rw [p1]
                  have K2 := K1.step hb2
                  have Z2 := Z1.step hb2
                  clear k1_0 k1_1 k1_2 k1_3 k1_4 k1_5 k1_6 k1_7 k1_8 k1_9 k1_10 k1_11 k1_12 z1_0 z1_1
                  obtain ⟨k2_0, k2_1, k2_2, k2_3, k2_4, k2_5, k2_6, k2_7, k2_8, k2_9, k2_10, k2_11, k2_12⟩ := K2.all
                  have z2_0 := Z2.1 0 _ rfl
                  have z2_1 := Z2.1 1 _ rfl
                  go_wp2_with fail
                  refine (refLess_bel _ _ _ _ _).mono ?_
                  rintro e w3 ⟨rfl, hb3⟩
                  rw [p2]
                  have K3 := K2.step hb3
                  have Z3 := Z2.step hb3
                  clear k2_0 k2_1 k2_2 k2_3 k2_4 k2_5 k2_6 k2_7 k2_8 k2_9 k2_10 k2_11 k2_12 z2_0 z2_1
                  obtain ⟨k3_0, k3_1, k3_2, k3_3, k3_4, k3_5, k3_6, k3_7, k3_8, k3_9, k3_10, k3_11, k3_12⟩ := K3.all
                  have z3_0 := Z3.1 0 _ rfl
                  have z3_1 := Z3.1 1 _ rfl
                  go_wp2_with fail
                  refine (refAhead_any _ _ _ _ _).mono ?_
                  rintro e w4 ⟨rfl, hb4⟩
                  rw [p4]
                  have K4 := K3.step hb4
                  have Z4 := Z3.step hb4
                  clear k3_0 k3_1 k3_2 k3_3 k3_4 k3_5 k3_6 k3_7 k3_8 k3_9 k3_10 k3_11 k3_12 z3_0 z3_1
                  obtain ⟨k4_0, k4_1, k4_2, k4_3, k4_4, k4_5, k4_6, k4_7, k4_8, k4_9, k4_10, k4_11, k4_12⟩ := K4.all
                  have z4_0 := Z4.1 0 _ rfl
                  have z4_1 := Z4.1 1 _ rfl
                  go_wp2
                  go_ret
                  exact ⟨ret_bool (HE.out.symm.trans HBB.out), K4.2.2⟩
            · have p3 : rootB fc fr = false := by simp [rootB, p31]
              have p3q1 : (fc == 0) = false := by simp [p31]
              have p3r1 : (fc != 0) = true := by simp [p31]
              clear p31
              cases p4 : aheadB fc fr ac ar
              · have HE : Hid ((aheadB nc nr ac ar && ((nodeB pc pr && (lessS pc pr ac ar && !decide (pc = nc ∧ pr = nr))) && (rootB fc fr || aheadB fc fr ac ar))) = false) := by show _ = _; simp only [n1, p1, p2, dp, p3, p4, Bool.and_true, Bool.true_and, Bool.and_false, Bool.false_and, Bool.or_true, Bool.true_or, Bool.or_false, Bool.false_or, Bool.not_true, Bool.not_false]
                go_enter Try.func51, Try.ntmps51
                go_wp2_with fail
                refine (refAhead_any _ _ _ _ _).mono ?_
                rintro e w1 ⟨rfl, hb1⟩
                rw [n1]
                have K1 := K0.step hb1
                have Z1 := Z0.step hb1
                obtain ⟨k1_0, k1_1, k1_2, k1_3, k1_4, k1_5, k1_6, k1_7, k1_8, k1_9, k1_10, k1_11, k1_12⟩ := K1.all
                have z1_0 := Z1.1 0 _ rfl
                have z1_1 := Z1.1 1 _ rfl
                go_wp2_with fail
                refine (refNode_any _ _ _).mono ?_
                rintro e w2 ⟨rfl, hb2⟩
                rw [p1]
                have K2 := K1.step hb2
                have Z2 := Z1.step hb2
                clear k1_0 k1_1 k1_2 k1_3 k1_4 k1_5 k1_6 k1_7 k1_8 k1_9 k1_10 k1_11 k1_12 z1_0 z1_1
                obtain ⟨k2_0, k2_1, k2_2, k2_3, k2_4, k2_5, k2_6, k2_7, k2_8, k2_9, k2_10, k2_11, k2_12⟩ := K2.all
                have z2_0 := Z2.1 0 _ rfl
                have z2_1 := Z2.1 1 _ rfl
                go_wp2_with fail
                refine (refLess_bel _ _ _ _ _).mono ?_
                rintro e w3 ⟨rfl, hb3⟩
                rw [p2]
                have K3 := K2.step hb3
                have Z3 := Z2.step hb3
                clear k2_0 k2_1 k2_2 k2_3 k2_4 k2_5 k2_6 k2_7 k2_8 k2_9 k2_10 k2_11 k2_12 z2_0 z2_1
                obtain ⟨k3_0, k3_1, k3_2, k3_3, k3_4, k3_5, k3_6, k3_7, k3_8, k3_9, k3_10, k3_11, k3_12⟩ := K3.all
                have z3_0 := Z3.1 0 _ rfl
                have z3_1 := Z3.1 1 _ rfl
                go_wp2_with fail
                refine (refAhead_any _ _ _ _ _).mono ?_
                rintro e w4 ⟨rfl, hb4⟩
                rw [p4]
                have K4 := K3.step hb4
                have Z4 := Z3.step hb4
                clear k3_0 k3_1 k3_2 k3_3 k3_4 k3_5 k3_6 k3_7 k3_8 k3_9 k3_10 k3_11 k3_12 z3_0 z3_1
                obtain ⟨k4_0, k4_1, k4_2, k4_3, k4_4, k4_5, k4_6, k4_7, k4_8, k4_9, k4_10, k4_11, k4_12⟩ := K4.all
                have z4_0 := Z4.1 0 _ rfl
                have z4_1 := Z4.1 1 _ rfl
                go_wp2
                go_ret
                exact ⟨ret_bool (HE.out.symm.trans HBB.out), K4.2.2⟩
              · have HE : Hid ((aheadB nc nr ac ar && ((nodeB pc pr && (lessS pc pr ac ar && !decide (pc = nc ∧ pr = nr))) && (rootB fc fr || aheadB fc fr ac ar))) = true) := by show _ = _; simp only [n1, p1, p2, dp, p3, p4, Bool.and_true, Bool.true_and, Bool.and_false, Bool.false_and, Bool.or_true, Bool.true_or, Bool.or_false, Bool.false_or, Bool.not_true, Bool.not_false]
                go_enter Try.func51, Try.ntmps51
                go_wp2_with fail
                refine (refAhead_any _ _ _ _ _).mono ?_
                rintro e w1 ⟨rfl, hb1⟩
                rw [n1]
                have K1 := K0.step hb1
                have Z1 := Z0.step hb1
                obtain ⟨k1_0, k1_1, k1_2, k1_3, k1_4, k1_5, k1_6, k1_7, k1_8, k1_9, k1_10, k1_11, k1_12⟩ := K1.all
                have z1_0 := Z1.1 0 _ rfl
                have z1_1 := Z1.1 1 _ rfl
                go_wp2_with fail
                refine (refNode_any _ _ _).mono ?_
                rintro e w2 ⟨rfl, hb2⟩
                rw [p1]
                have K2 := K1.step hb2
                have Z2 := Z1.step hb2
                clear k1_0 k1_1 k1_2 k1_3 k1_4 k1_5 k1_6 k1_7 k1_8 k1_9 k1_10 k1_11 k1_12 z1_0 z1_1
                obtain ⟨k2_0, k2_1, k2_2, k2_3, k2_4, k2_5, k2_6, k2_7, k2_8, k2_9, k2_10, k2_11, k2_12⟩ := K2.all
                have z2_0 := Z2.1 0 _ rfl
                have z2_1 := Z2.1 1 _ rfl
                go_wp2_with fail
                refine (refLess_bel _ _ _ _ _).mono ?_
                rintro e w3 ⟨rfl, hb3⟩
                rw [p2]
                have K3 := K2.step hb3
                have Z3 := Z2.step hb3
                clear k2_0 k2_1 k2_2 k2_3 k2_4 k2_5 k2_6 k2_7 k2_8 k2_9 k2_10 k2_11 k2_12 z2_0 z2_1
                obtain ⟨k3_0, k3_1, k3_2, k3_3, k3_4, k3_5, k3_6, k3_7, k3_8, k3_9, k3_10, k3_11, k3_12⟩ := K3.all
                have z3_0 := Z3.1 0 _ rfl
                have z3_1 := Z3.1 1 _ rfl
                go_wp2_with fail
                refine (refAhead_any _ _ _ _ _).mono ?_
                rintro e w4 ⟨rfl, hb4⟩
                rw [p4]
                have K4 := K3.step hb4
                have Z4 := Z3.step hb4
                clear k3_0 k3_1 k3_2 k3_3 k3_4 k3_5 k3_6 k3_7 k3_8 k3_9 k3_10 k3_11 k3_12 z3_0 z3_1
                obtain ⟨k4_0, k4_1, k4_2, k4_3, k4_4, k4_5, k4_6, k4_7, k4_8, k4_9, k4_10, k4_11, k4_12⟩ := K4.all
                have z4_0 := Z4.1 0 _ rfl
                have z4_1 := Z4.1 1 _ rfl
                go_wp2
                go_ret
                exact ⟨ret_bool (HE.out.symm.trans HBB.out), K4.2.2⟩
        · have dp : decide (pc = nc ∧ pr = nr) = false := by simp [dp1]
          have dpq1 : (pc == nc) = false := by simp [dp1]
          have dpr1 : (pc != nc) = true := by simp [dp1]
          clear dp1
          by_cases p31 : fc = 0
          · by_cases p32 : fr = 0
            · have p3 : rootB fc fr = true := by simp [rootB, p31, p32]
              have p3q1 : (fc == 0) = true := by simp [p31]
              have p3q2 : (fr == 0) = true := by simp [p32]
              have p3r1 : (fc != 0) = false := by simp [p31]
              have p3r2 : (fr != 0) = false := by simp [p32]
              clear p31 p32
              have HE : Hid ((aheadB nc nr ac ar && ((nodeB pc pr && (lessS pc pr ac ar && !decide (pc = nc ∧ pr = nr))) && (rootB fc fr || aheadB fc fr ac ar))) = true) := by show _ = _; simp only [n1, p1, p2, dp, p3, Bool.and_true, Bool.true_and, Bool.and_false, Bool.false_and, Bool.or_true, Bool.true_or, Bool.or_false, Bool.false_or, Bool.not_true, Bool.not_false]
              go_enter Try.func51, Try.ntmps51
              go_wp2_with fail
              refine (refAhead_any _ _ _ _ _).mono ?_
              rintro e w1 ⟨rfl, hb1⟩
              rw [n1]
              have K1 := K0.step hb1
              have Z1 := Z0.step hb1
              obtain ⟨k1_0, k1_1, k1_2, k1_3, k1_4, k1_5, k1_6, k1_7, k1_8, k1_9, k1_10, k1_11, k1_12⟩ := K1.all
              have z1_0 := Z1.1 0 _ rfl
              have z1_1 := Z1.1 1 _ rfl
              go_wp2_with fail
              refine (refNode_any _ _ _).mono ?_
              rintro e w2 ⟨rfl, hb2⟩
              rw [p1]
              have K2 := K1.step hb2
              have Z2 := Z1.step hb2
              clear k1_0 k1_1 k1_2 k1_3 k1_4 k1_5 k1_6 k1_7 k1_8 k1_9 k1_10 k1_11 k1_12 z1_0 z1_1
              obtain ⟨k2_0, k2_1, k2_2, k2_3, k2_4, k2_5, k2_6, k2_7, k2_8, k2_9, k2_10, k2_11, k2_12⟩ := K2.all
              have z2_0 := Z2.1 0 _ rfl
              have z2_1 := Z2.1 1 _ rfl
              go_wp2_with fail
              refine (refLess_bel _ _ _ _ _).mono ?_
              rintro e w3 ⟨rfl, hb3⟩
              rw [p2]
              have K3 := K2.step hb3
              have Z3 := Z2.step hb3
              clear k2_0 k2_1 k2_2 k2_3 k2_4 k2_5 k2_6 k2_7 k2_8 k2_9 k2_10 k2_11 k2_12 z2_0 z2_1
              obtain ⟨k3_0, k3_1, k3_2, k3_3, k3_4, k3_5, k3_6, k3_7, k3_8, k3_9, k3_10, k3_11, k3_12⟩ := K3.all
              have z3_0 := Z3.1 0 _ rfl
              have z3_1 := Z3.1 1 _ rfl
              go_wp2
              go_ret
              exact ⟨ret_bool (HE.out.symm.trans HBB.out), K3.2.2⟩
            · have p3 : rootB fc fr = false := by simp [rootB, p32]
              have p3q1 : (fc == 0) = true := by simp [p31]
              have p3q2 : (fr == 0) = false := by simp [p32]
              have p3r2 : (fr != 0) = true := by simp [p32]
              clear p31 p32
              cases p4 : aheadB fc fr ac ar
              · have HE : Hid ((aheadB nc nr ac ar && ((nodeB pc pr && (lessS pc pr ac ar && !decide (pc = nc ∧ pr = nr))) && (rootB fc fr || aheadB fc fr ac ar))) = false) := by show _ = _; simp only [n1, p1, p2, dp, p3, p4, Bool.and_true, Bool.true_and, Bool.and_false, Bool.false_and, Bool.or_true, Bool.true_or, Bool.or_false, Bool.false_or, Bool.not_true, Bool.not_false]
                go_enter Try.func51, Try.ntmps51
                go_wp2_with fail
                refine (refAhead_any _ _ _ _ _).mono ?_
                rintro e w1 ⟨rfl, hb1⟩
                rw [n1]
                have K1 := K0.step hb1
                have Z1 := Z0.step hb1
                obtain ⟨k1_0, k1_1, k1_2, k1_3, k1_4, k1_5, k1_6, k1_7, k1_8, k1_9, k1_10, k1_11, k1_12⟩ := K1.all
                have z1_0 := Z1.1 0 _ rfl
                have z1_1 := Z1.1 1 _ rfl
                go_wp2_with fail
                refine (refNode_any _ _ _).mono ?_
                rintro e w2 ⟨rfl, hb2⟩
                rw [p1]
                have K2 := K1.step hb2
                have Z2 := Z1.step hb2
                clear k1_0 k1_1 k1_2 k1_3 k1_4 k1_5 k1_6 k1_7 k1_8 k1_9 k1_10 k1_11 k1_12 z1_0 z1_1
                obtain ⟨k2_0, k2_1, k2_2, k2_3, k2_4, k2_5, k2_6, k2_7, k2_8, k2_9, k2_10, k2_11, k2_12⟩ := K2.all
                have z2_0 := Z2.1 0 _ rfl
                have z2_1 := Z2.1 1 _ rfl
                go_wp2_with fail
                refine (refLess_bel _ _ _ _ _).mono ?_
                rintro e w3 ⟨rfl, hb3⟩
                rw [p2]
                have K3 := K2.step hb3
                have Z3 := Z2.step hb3
                clear k2_0 k2_1 k2_2 k2_3 k2_4 k2_5 k2_6 k2_7 k2_8 k2_9 k2_10 k2_11 k2_12 z2_0 z2_1
                obtain ⟨k3_0, k3_1, k3_2, k3_3, k3_4, k3_5, k3_6, k3_7, k3_8, k3_9, k3_10, k3_11, k3_12⟩ := K3.all
                have z3_0 := Z3.1 0 _ rfl
                have z3_1 := Z3.1 1 _ rfl
                go_wp2_with fail
                refine (refAhead_any _ _ _ _ _).mono ?_
                rintro e w4 ⟨rfl, hb4⟩
                rw [p4]
                have K4 := K3.step hb4
                have Z4 := Z3.step hb4
                clear k3_0 k3_1 k3_2 k3_3 k3_4 k3_5 k3_6 k3_7 k3_8 k3_9 k3_10 k3_11 k3_12 z3_0 z3_1
                obtain ⟨k4_0, k4_1, k4_2, k4_3, k4_4, k4_5, k4_6, k4_7, k4_8, k4_9, k4_10, k4_11, k4_12⟩ := K4.all
                have z4_0 := Z4.1 0 _ rfl
                have z4_1 := Z4.1 1 _ rfl
                go_wp2
                go_ret
                exact ⟨ret_bool (HE.out.symm.trans HBB.out), K4.2.2⟩
              · have HE : Hid ((aheadB nc nr ac ar && ((nodeB pc pr && (lessS pc pr ac ar && !decide (pc = nc ∧ pr = nr))) && (rootB fc fr || aheadB fc fr ac ar))) = true) := by show _ = _; simp only [n1, p1, p2, dp, p3, p4, Bool.and_true, Bool.true_and, Bool.and_false, Bool.false_and, Bool.or_true, Bool.true_or, Bool.or_false, Bool.false_or, Bool.not_true, Bool.not_false]
                go_enter Try.func51, Try.ntmps51
                go_wp2_with fail
                refine (refAhead_any _ _ _ _ _).mono ?_
                rintro e w1 ⟨rfl, hb1⟩
                rw [n1]
                have K1 := K0.step hb1
                have Z1 := Z0.step hb1
                obtain ⟨k1_0, k1_1, k1_2, k1_3, k1_4, k1_5, k1_6, k1_7, k1_8, k1_9, k1_10, k1_11, k1_12⟩ := K1.all
                have z1_0 := Z1.1 0 _ rfl
                have z1_1 := Z1.1 1 _ rfl
                go_wp2_with fail
                refine (refNode_any _ _ _).mono ?_
                rintro e w2 ⟨rfl, hb2⟩
                rw [p1]
                have K2 := K1.step hb2
                have Z2 := Z1.step hb2
                clear k1_0 k1_1 k1_2 k1_3 k1_4 k1_5 k1_6 k1_7 k1_8 k1_9 k1_10 k1_11 k1_12 z1_0 z1_1
                obtain ⟨k2_0, k2_1, k2_2, k2_3, k2_4, k2_5, k2_6, k2_7, k2_8, k2_9, k2_10, k2_11, k2_12⟩ := K2.all
                have z2_0 := Z2.1 0 _ rfl
                have z2_1 := Z2.1 1 _ rfl
                go_wp2_with fail
                refine (refLess_bel _ _ _ _ _).mono ?_
                rintro e w3 ⟨rfl, hb3⟩
                rw [p2]
                have K3 := K2.step hb3
                have Z3 := Z2.step hb3
                clear k2_0 k2_1 k2_2 k2_3 k2_4 k2_5 k2_6 k2_7 k2_8 k2_9 k2_10 k2_11 k2_12 z2_0 z2_1
                obtain ⟨k3_0, k3_1, k3_2, k3_3, k3_4, k3_5, k3_6, k3_7, k3_8, k3_9, k3_10, k3_11, k3_12⟩ := K3.all
                have z3_0 := Z3.1 0 _ rfl
                have z3_1 := Z3.1 1 _ rfl
                go_wp2_with fail
                refine (refAhead_any _ _ _ _ _).mono ?_
                rintro e w4 ⟨rfl, hb4⟩
                rw [p4]
                have K4 := K3.step hb4
                have Z4 := Z3.step hb4
                clear k3_0 k3_1 k3_2 k3_3 k3_4 k3_5 k3_6 k3_7 k3_8 k3_9 k3_10 k3_11 k3_12 z3_0 z3_1
                obtain ⟨k4_0, k4_1, k4_2, k4_3, k4_4, k4_5, k4_6, k4_7, k4_8, k4_9, k4_10, k4_11, k4_12⟩ := K4.all
                have z4_0 := Z4.1 0 _ rfl
                have z4_1 := Z4.1 1 _ rfl
                go_wp2
                go_ret
                exact ⟨ret_bool (HE.out.symm.trans HBB.out), K4.2.2⟩
          · have p3 : rootB fc fr = false := by simp [rootB, p31]
            have p3q1 : (fc == 0) = false := by simp [p31]
            have p3r1 : (fc != 0) = true := by simp [p31]
            clear p31
            cases p4 : aheadB fc fr ac ar
            · have HE : Hid ((aheadB nc nr ac ar && ((nodeB pc pr && (lessS pc pr ac ar && !decide (pc = nc ∧ pr = nr))) && (rootB fc fr || aheadB fc fr ac ar))) = false) := by show _ = _; simp only [n1, p1, p2, dp, p3, p4, Bool.and_true, Bool.true_and, Bool.and_false, Bool.false_and, Bool.or_true, Bool.true_or, Bool.or_false, Bool.false_or, Bool.not_true, Bool.not_false]
              go_enter Try.func51, Try.ntmps51
              go_wp2_with fail
              refine (refAhead_any _ _ _ _ _).mono ?_
              rintro e w1 ⟨rfl, hb1⟩
              rw [n1]
              have K1 := K0.step hb1
              have Z1 := Z0.step hb1
              obtain ⟨k1_0, k1_1, k1_2, k1_3, k1_4, k1_5, k1_6, k1_7, k1_8, k1_9, k1_10, k1_11, k1_12⟩ := K1.all
              have z1_0 := Z1.1 0 _ rfl
              have z1_1 := Z1.1 1 _ rfl
              go_wp2_with fail
              refine (refNode_any _ _ _).mono ?_
              rintro e w2 ⟨rfl, hb2⟩
              rw [p1]
              have K2 := K1.step hb2
              have Z2 := Z1.step hb2
              clear k1_0 k1_1 k1_2 k1_3 k1_4 k1_5 k1_6 k1_7 k1_8 k1_9 k1_10 k1_11 k1_12 z1_0 z1_1
              obtain ⟨k2_0, k2_1, k2_2, k2_3, k2_4, k2_5, k2_6, k2_7, k2_8, k2_9, k2_10, k2_11, k2_12⟩ := K2.all
              have z2_0 := Z2.1 0 _ rfl
              have z2_1 := Z2.1 1 _ rfl
              go_wp2_with fail
              refine (refLess_bel _ _ _ _ _).mono ?_
              rintro e w3 ⟨rfl, hb3⟩
              rw [p2]
              have K3 := K2.step hb3
              have Z3 := Z2.step hb3
              clear k2_0 k2_1 k2_2 k2_3 k2_4 k2_5 k2_6 k2_7 k2_8 k2_9 k2_10 k2_11 k2_12 z2_0 z2_1
              obtain ⟨k3_0, k3_1, k3_2, k3_3, k3_4, k3_5, k3_6, k3_7, k3_8, k3_9, k3_10, k3_11, k3_12⟩ := K3.all
              have z3_0 := Z3.1 0 _ rfl
              have z3_1 := Z3.1 1 _ rfl
              go_wp2_with fail
              refine (refAhead_any _ _ _ _ _).mono ?_
              rintro e w4 ⟨rfl, hb4⟩
              rw [p4]
              have K4 := K3.step hb4
              have Z4 := Z3.step hb4
              clear k3_0 k3_1 k3_2 k3_3 k3_4 k3_5 k3_6 k3_7 k3_8 k3_9 k3_10 k3_11 k3_12 z3_0 z3_1
              obtain ⟨k4_0, k4_1, k4_2, k4_3, k4_4, k4_5, k4_6, k4_7, k4_8, k4_9, k4_10, k4_11, k4_12⟩ := K4.all
              have z4_0 := Z4.1 0 _ rfl
              have z4_1 := Z4.1 1 _ rfl
              go_wp2
              go_ret
              exact ⟨ret_bool (HE.out.symm.trans HBB.out), K4.2.2⟩
            · have HE : Hid ((aheadB nc nr ac ar && ((nodeB pc pr && (lessS pc pr ac ar && !decide (pc = nc ∧ pr = nr))) && (rootB fc fr || aheadB fc fr ac ar))) = true) := by show _ = _; simp only [n1, p1, p2, dp, p3, p4, Bool.and_true, Bool.true_and, Bool.and_false, Bool.false_and, Bool.or_true, Bool.true_or, Bool.or_false, Bool.false_or, Bool.not_true, Bool.not_false]
              go_enter Try.func51, Try.ntmps51
              go_wp2_with fail
              refine (refAhead_any _ _ _ _ _).mono ?_
              rintro e w1 ⟨rfl, hb1⟩
              rw [n1]
              have K1 := K0.step hb1
              have Z1 := Z0.step hb1
              obtain ⟨k1_0, k1_1, k1_2, k1_3, k1_4, k1_5, k1_6, k1_7, k1_8, k1_9, k1_10, k1_11, k1_12⟩ := K1.all
              have z1_0 := Z1.1 0 _ rfl
              have z1_1 := Z1.1 1 _ rfl
              go_wp2_with fail
              refine (refNode_any _ _ _).mono ?_
              rintro e w2 ⟨rfl, hb2⟩
              rw [p1]
              have K2 := K1.step hb2
              have Z2 := Z1.step hb2
              clear k1_0 k1_1 k1_2 k1_3 k1_4 k1_5 k1_6 k1_7 k1_8 k1_9 k1_10 k1_11 k1_12 z1_0 z1_1
              obtain ⟨k2_0, k2_1, k2_2, k2_3, k2_4, k2_5, k2_6, k2_7, k2_8, k2_9, k2_10, k2_11, k2_12⟩ := K2.all
              have z2_0 := Z2.1 0 _ rfl
              have z2_1 := Z2.1 1 _ rfl
              go_wp2_with fail
              refine (refLess_bel _ _ _ _ _).mono ?_
              rintro e w3 ⟨rfl, hb3⟩
              rw [p2]
              have K3 := K2.step hb3
              have Z3 := Z2.step hb3
              clear k2_0 k2_1 k2_2 k2_3 k2_4 k2_5 k2_6 k2_7 k2_8 k2_9 k2_10 k2_11 k2_12 z2_0 z2_1
              obtain ⟨k3_0, k3_1, k3_2, k3_3, k3_4, k3_5, k3_6, k3_7, k3_8, k3_9, k3_10, k3_11, k3_12⟩ := K3.all
              have z3_0 := Z3.1 0 _ rfl
              have z3_1 := Z3.1 1 _ rfl
              go_wp2_with fail
              refine (refAhead_any _ _ _ _ _).mono ?_
              rintro e w4 ⟨rfl, hb4⟩
              rw [p4]
              have K4 := K3.step hb4
              have Z4 := Z3.step hb4
              clear k3_0 k3_1 k3_2 k3_3 k3_4 k3_5 k3_6 k3_7 k3_8 k3_9 k3_10 k3_11 k3_12 z3_0 z3_1
              obtain ⟨k4_0, k4_1, k4_2, k4_3, k4_4, k4_5, k4_6, k4_7, k4_8, k4_9, k4_10, k4_11, k4_12⟩ := K4.all
              have z4_0 := Z4.1 0 _ rfl
              have z4_1 := Z4.1 1 _ rfl
              go_wp2
              go_ret
              exact ⟨ret_bool (HE.out.symm.trans HBB.out), K4.2.2⟩

set_option maxRecDepth 100000 in
set_option maxHeartbeats 8000000 in
theorem refPlaced_three (ac ar sq : Int) (dv : Value) (kd nc nr pc pr fc fr : Int) (nm vl : ByteArray) (w : World) (hk : 2 < kd) :
    Calls Try.prog 51 #[.agg #[.int .i64 ac, .int .i64 ar, .int .i64 sq, dv, .int .i64 kd, .int .i64 nc, .int .i64 nr, .int .i64 pc, .int .i64 pr, .int .i64 fc, .int .i64 fr, .string nm, .string vl]] w fun e w' => e = .returned (.bool ((rootB nc nr || aheadB nc nr ac ar) && (rootB pc pr && rootB fc fr))) ∧ Below w.heap.size w w' := by
  obtain ⟨BB, hBB⟩ : ∃ b : Bool, ((rootB nc nr || aheadB nc nr ac ar) && (rootB pc pr && rootB fc fr)) = b := ⟨_, rfl⟩
  rw [hBB]
  have HBB : Hid (((rootB nc nr || aheadB nc nr ac ar) && (rootB pc pr && rootB fc fr)) = BB) := hBB
  clear hBB
  have Ka := KeptC.start w #[.int .i64 ac, .int .i64 ar, .int .i64 sq, dv, .int .i64 kd, .int .i64 nc, .int .i64 nr, .int .i64 pc, .int .i64 pr, .int .i64 fc, .int .i64 fr, .string nm, .string vl].toList 35
  have Z0 := KeptC.start (w.alloc (.cells #[.int .i64 ac, .int .i64 ar, .int .i64 sq, dv, .int .i64 kd, .int .i64 nc, .int .i64 nr, .int .i64 pc, .int .i64 pr, .int .i64 fc, .int .i64 fr, .string nm, .string vl] 35)) [.int .i64 0, .int .i64 0] 33
  rw [show (w.alloc (.cells #[.int .i64 ac, .int .i64 ar, .int .i64 sq, dv, .int .i64 kd, .int .i64 nc, .int .i64 nr, .int .i64 pc, .int .i64 pr, .int .i64 fc, .int .i64 fr, .string nm, .string vl] 35)).heap.size = w.heap.size + 1 by simp] at Z0
  have K0 := Ka.step Z0.2.2
  have g1 : (kd == 1) = false := by simp; omega
  have g2 : (kd == 2) = false := by simp; omega
  by_cases n01 : nc = 0
  · by_cases n02 : nr = 0
    · have n0 : rootB nc nr = true := by simp [rootB, n01, n02]
      have n0q1 : (nc == 0) = true := by simp [n01]
      have n0q2 : (nr == 0) = true := by simp [n02]
      have n0r1 : (nc != 0) = false := by simp [n01]
      have n0r2 : (nr != 0) = false := by simp [n02]
      clear n01 n02
      by_cases p11 : pc = 0
      · by_cases p12 : pr = 0
        · have p1 : rootB pc pr = true := by simp [rootB, p11, p12]
          have p1q1 : (pc == 0) = true := by simp [p11]
          have p1q2 : (pr == 0) = true := by simp [p12]
          have p1r1 : (pc != 0) = false := by simp [p11]
          have p1r2 : (pr != 0) = false := by simp [p12]
          clear p11 p12
          by_cases p31 : fc = 0
          · by_cases p32 : fr = 0
            · have p3 : rootB fc fr = true := by simp [rootB, p31, p32]
              have p3q1 : (fc == 0) = true := by simp [p31]
              have p3q2 : (fr == 0) = true := by simp [p32]
              have p3r1 : (fc != 0) = false := by simp [p31]
              have p3r2 : (fr != 0) = false := by simp [p32]
              clear p31 p32
              have HE : Hid (((rootB nc nr || aheadB nc nr ac ar) && (rootB pc pr && rootB fc fr)) = true) := by show _ = _; simp only [n0, p1, p3, Bool.and_true, Bool.true_and, Bool.and_false, Bool.false_and, Bool.or_true, Bool.true_or, Bool.or_false, Bool.false_or, Bool.not_true, Bool.not_false]
              go_enter Try.func51, Try.ntmps51
              go_wp2
              go_ret
              exact ⟨ret_bool (HE.out.symm.trans HBB.out), K0.2.2⟩
            · have p3 : rootB fc fr = false := by simp [rootB, p32]
              have p3q1 : (fc == 0) = true := by simp [p31]
              have p3q2 : (fr == 0) = false := by simp [p32]
              have p3r2 : (fr != 0) = true := by simp [p32]
              clear p31 p32
              have HE : Hid (((rootB nc nr || aheadB nc nr ac ar) && (rootB pc pr && rootB fc fr)) = false) := by show _ = _; simp only [n0, p1, p3, Bool.and_true, Bool.true_and, Bool.and_false, Bool.false_and, Bool.or_true, Bool.true_or, Bool.or_false, Bool.false_or, Bool.not_true, Bool.not_false]
              go_enter Try.func51, Try.ntmps51
              go_wp2
              go_ret
              exact ⟨ret_bool (HE.out.symm.trans HBB.out), K0.2.2⟩
          · have p3 : rootB fc fr = false := by simp [rootB, p31]
            have p3q1 : (fc == 0) = false := by simp [p31]
            have p3r1 : (fc != 0) = true := by simp [p31]
            clear p31
            have HE : Hid (((rootB nc nr || aheadB nc nr ac ar) && (rootB pc pr && rootB fc fr)) = false) := by show _ = _; simp only [n0, p1, p3, Bool.and_true, Bool.true_and, Bool.and_false, Bool.false_and, Bool.or_true, Bool.true_or, Bool.or_false, Bool.false_or, Bool.not_true, Bool.not_false]
            go_enter Try.func51, Try.ntmps51
            go_wp2
            go_ret
            exact ⟨ret_bool (HE.out.symm.trans HBB.out), K0.2.2⟩
        · have p1 : rootB pc pr = false := by simp [rootB, p12]
          have p1q1 : (pc == 0) = true := by simp [p11]
          have p1q2 : (pr == 0) = false := by simp [p12]
          have p1r2 : (pr != 0) = true := by simp [p12]
          clear p11 p12
          have HE : Hid (((rootB nc nr || aheadB nc nr ac ar) && (rootB pc pr && rootB fc fr)) = false) := by show _ = _; simp only [n0, p1, Bool.and_true, Bool.true_and, Bool.and_false, Bool.false_and, Bool.or_true, Bool.true_or, Bool.or_false, Bool.false_or, Bool.not_true, Bool.not_false]
          go_enter Try.func51, Try.ntmps51
          go_wp2
          go_ret
          exact ⟨ret_bool (HE.out.symm.trans HBB.out), K0.2.2⟩
      · have p1 : rootB pc pr = false := by simp [rootB, p11]
        have p1q1 : (pc == 0) = false := by simp [p11]
        have p1r1 : (pc != 0) = true := by simp [p11]
        clear p11
        have HE : Hid (((rootB nc nr || aheadB nc nr ac ar) && (rootB pc pr && rootB fc fr)) = false) := by show _ = _; simp only [n0, p1, Bool.and_true, Bool.true_and, Bool.and_false, Bool.false_and, Bool.or_true, Bool.true_or, Bool.or_false, Bool.false_or, Bool.not_true, Bool.not_false]
        go_enter Try.func51, Try.ntmps51
        go_wp2
        go_ret
        exact ⟨ret_bool (HE.out.symm.trans HBB.out), K0.2.2⟩
    · have n0 : rootB nc nr = false := by simp [rootB, n02]
      have n0q1 : (nc == 0) = true := by simp [n01]
      have n0q2 : (nr == 0) = false := by simp [n02]
      have n0r2 : (nr != 0) = true := by simp [n02]
      clear n01 n02
      cases n1 : aheadB nc nr ac ar
      · have HE : Hid (((rootB nc nr || aheadB nc nr ac ar) && (rootB pc pr && rootB fc fr)) = false) := by show _ = _; simp only [n0, n1, Bool.and_true, Bool.true_and, Bool.and_false, Bool.false_and, Bool.or_true, Bool.true_or, Bool.or_false, Bool.false_or, Bool.not_true, Bool.not_false]
        go_enter Try.func51, Try.ntmps51
        go_wp2_with fail
        refine (refAhead_any _ _ _ _ _).mono ?_
        rintro e w1 ⟨rfl, hb1⟩
        rw [n1]
        have K1 := K0.step hb1
        have Z1 := Z0.step hb1
        obtain ⟨k1_0, k1_1, k1_2, k1_3, k1_4, k1_5, k1_6, k1_7, k1_8, k1_9, k1_10, k1_11, k1_12⟩ := K1.all
        have z1_0 := Z1.1 0 _ rfl
        have z1_1 := Z1.1 1 _ rfl
        go_wp2
        go_ret
        exact ⟨ret_bool (HE.out.symm.trans HBB.out), K1.2.2⟩
      · by_cases p11 : pc = 0
        · by_cases p12 : pr = 0
          · have p1 : rootB pc pr = true := by simp [rootB, p11, p12]
            have p1q1 : (pc == 0) = true := by simp [p11]
            have p1q2 : (pr == 0) = true := by simp [p12]
            have p1r1 : (pc != 0) = false := by simp [p11]
            have p1r2 : (pr != 0) = false := by simp [p12]
            clear p11 p12
            by_cases p31 : fc = 0
            · by_cases p32 : fr = 0
              · have p3 : rootB fc fr = true := by simp [rootB, p31, p32]
                have p3q1 : (fc == 0) = true := by simp [p31]
                have p3q2 : (fr == 0) = true := by simp [p32]
                have p3r1 : (fc != 0) = false := by simp [p31]
                have p3r2 : (fr != 0) = false := by simp [p32]
                clear p31 p32
                have HE : Hid (((rootB nc nr || aheadB nc nr ac ar) && (rootB pc pr && rootB fc fr)) = true) := by show _ = _; simp only [n0, n1, p1, p3, Bool.and_true, Bool.true_and, Bool.and_false, Bool.false_and, Bool.or_true, Bool.true_or, Bool.or_false, Bool.false_or, Bool.not_true, Bool.not_false]
                go_enter Try.func51, Try.ntmps51
                go_wp2_with fail
                refine (refAhead_any _ _ _ _ _).mono ?_
                rintro e w1 ⟨rfl, hb1⟩
                rw [n1]
                have K1 := K0.step hb1
                have Z1 := Z0.step hb1
                obtain ⟨k1_0, k1_1, k1_2, k1_3, k1_4, k1_5, k1_6, k1_7, k1_8, k1_9, k1_10, k1_11, k1_12⟩ := K1.all
                have z1_0 := Z1.1 0 _ rfl
                have z1_1 := Z1.1 1 _ rfl
                go_wp2
                go_ret
                exact ⟨ret_bool (HE.out.symm.trans HBB.out), K1.2.2⟩
              · have p3 : rootB fc fr = false := by simp [rootB, p32]
                have p3q1 : (fc == 0) = true := by simp [p31]
                have p3q2 : (fr == 0) = false := by simp [p32]
                have p3r2 : (fr != 0) = true := by simp [p32]
                clear p31 p32
                have HE : Hid (((rootB nc nr || aheadB nc nr ac ar) && (rootB pc pr && rootB fc fr)) = false) := by show _ = _; simp only [n0, n1, p1, p3, Bool.and_true, Bool.true_and, Bool.and_false, Bool.false_and, Bool.or_true, Bool.true_or, Bool.or_false, Bool.false_or, Bool.not_true, Bool.not_false]
                go_enter Try.func51, Try.ntmps51
                go_wp2_with fail
                refine (refAhead_any _ _ _ _ _).mono ?_
                rintro e w1 ⟨rfl, hb1⟩
                rw [n1]
                have K1 := K0.step hb1
                have Z1 := Z0.step hb1
                obtain ⟨k1_0, k1_1, k1_2, k1_3, k1_4, k1_5, k1_6, k1_7, k1_8, k1_9, k1_10, k1_11, k1_12⟩ := K1.all
                have z1_0 := Z1.1 0 _ rfl
                have z1_1 := Z1.1 1 _ rfl
                go_wp2
                go_ret
                exact ⟨ret_bool (HE.out.symm.trans HBB.out), K1.2.2⟩
            · have p3 : rootB fc fr = false := by simp [rootB, p31]
              have p3q1 : (fc == 0) = false := by simp [p31]
              have p3r1 : (fc != 0) = true := by simp [p31]
              clear p31
              have HE : Hid (((rootB nc nr || aheadB nc nr ac ar) && (rootB pc pr && rootB fc fr)) = false) := by show _ = _; simp only [n0, n1, p1, p3, Bool.and_true, Bool.true_and, Bool.and_false, Bool.false_and, Bool.or_true, Bool.true_or, Bool.or_false, Bool.false_or, Bool.not_true, Bool.not_false]
              go_enter Try.func51, Try.ntmps51
              go_wp2_with fail
              refine (refAhead_any _ _ _ _ _).mono ?_
              rintro e w1 ⟨rfl, hb1⟩
              rw [n1]
              have K1 := K0.step hb1
              have Z1 := Z0.step hb1
              obtain ⟨k1_0, k1_1, k1_2, k1_3, k1_4, k1_5, k1_6, k1_7, k1_8, k1_9, k1_10, k1_11, k1_12⟩ := K1.all
              have z1_0 := Z1.1 0 _ rfl
              have z1_1 := Z1.1 1 _ rfl
              go_wp2
              go_ret
              exact ⟨ret_bool (HE.out.symm.trans HBB.out), K1.2.2⟩
          · have p1 : rootB pc pr = false := by simp [rootB, p12]
            have p1q1 : (pc == 0) = true := by simp [p11]
            have p1q2 : (pr == 0) = false := by simp [p12]
            have p1r2 : (pr != 0) = true := by simp [p12]
            clear p11 p12
            have HE : Hid (((rootB nc nr || aheadB nc nr ac ar) && (rootB pc pr && rootB fc fr)) = false) := by show _ = _; simp only [n0, n1, p1, Bool.and_true, Bool.true_and, Bool.and_false, Bool.false_and, Bool.or_true, Bool.true_or, Bool.or_false, Bool.false_or, Bool.not_true, Bool.not_false]
            go_enter Try.func51, Try.ntmps51
            go_wp2_with fail
            refine (refAhead_any _ _ _ _ _).mono ?_
            rintro e w1 ⟨rfl, hb1⟩
            rw [n1]
            have K1 := K0.step hb1
            have Z1 := Z0.step hb1
            obtain ⟨k1_0, k1_1, k1_2, k1_3, k1_4, k1_5, k1_6, k1_7, k1_8, k1_9, k1_10, k1_11, k1_12⟩ := K1.all
            have z1_0 := Z1.1 0 _ rfl
            have z1_1 := Z1.1 1 _ rfl
            go_wp2
            go_ret
            exact ⟨ret_bool (HE.out.symm.trans HBB.out), K1.2.2⟩
        · have p1 : rootB pc pr = false := by simp [rootB, p11]
          have p1q1 : (pc == 0) = false := by simp [p11]
          have p1r1 : (pc != 0) = true := by simp [p11]
          clear p11
          have HE : Hid (((rootB nc nr || aheadB nc nr ac ar) && (rootB pc pr && rootB fc fr)) = false) := by show _ = _; simp only [n0, n1, p1, Bool.and_true, Bool.true_and, Bool.and_false, Bool.false_and, Bool.or_true, Bool.true_or, Bool.or_false, Bool.false_or, Bool.not_true, Bool.not_false]
          go_enter Try.func51, Try.ntmps51
          go_wp2_with fail
          refine (refAhead_any _ _ _ _ _).mono ?_
          rintro e w1 ⟨rfl, hb1⟩
          rw [n1]
          have K1 := K0.step hb1
          have Z1 := Z0.step hb1
          obtain ⟨k1_0, k1_1, k1_2, k1_3, k1_4, k1_5, k1_6, k1_7, k1_8, k1_9, k1_10, k1_11, k1_12⟩ := K1.all
          have z1_0 := Z1.1 0 _ rfl
          have z1_1 := Z1.1 1 _ rfl
          go_wp2
          go_ret
          exact ⟨ret_bool (HE.out.symm.trans HBB.out), K1.2.2⟩
  · have n0 : rootB nc nr = false := by simp [rootB, n01]
    have n0q1 : (nc == 0) = false := by simp [n01]
    have n0r1 : (nc != 0) = true := by simp [n01]
    clear n01
    cases n1 : aheadB nc nr ac ar
    · have HE : Hid (((rootB nc nr || aheadB nc nr ac ar) && (rootB pc pr && rootB fc fr)) = false) := by show _ = _; simp only [n0, n1, Bool.and_true, Bool.true_and, Bool.and_false, Bool.false_and, Bool.or_true, Bool.true_or, Bool.or_false, Bool.false_or, Bool.not_true, Bool.not_false]
      go_enter Try.func51, Try.ntmps51
      go_wp2_with fail
      refine (refAhead_any _ _ _ _ _).mono ?_
      rintro e w1 ⟨rfl, hb1⟩
      rw [n1]
      have K1 := K0.step hb1
      have Z1 := Z0.step hb1
      obtain ⟨k1_0, k1_1, k1_2, k1_3, k1_4, k1_5, k1_6, k1_7, k1_8, k1_9, k1_10, k1_11, k1_12⟩ := K1.all
      have z1_0 := Z1.1 0 _ rfl
      have z1_1 := Z1.1 1 _ rfl
      go_wp2
      go_ret
      exact ⟨ret_bool (HE.out.symm.trans HBB.out), K1.2.2⟩
    · by_cases p11 : pc = 0
      · by_cases p12 : pr = 0
        · have p1 : rootB pc pr = true := by simp [rootB, p11, p12]
          have p1q1 : (pc == 0) = true := by simp [p11]
          have p1q2 : (pr == 0) = true := by simp [p12]
          have p1r1 : (pc != 0) = false := by simp [p11]
          have p1r2 : (pr != 0) = false := by simp [p12]
          clear p11 p12
          by_cases p31 : fc = 0
          · by_cases p32 : fr = 0
            · have p3 : rootB fc fr = true := by simp [rootB, p31, p32]
              have p3q1 : (fc == 0) = true := by simp [p31]
              have p3q2 : (fr == 0) = true := by simp [p32]
              have p3r1 : (fc != 0) = false := by simp [p31]
              have p3r2 : (fr != 0) = false := by simp [p32]
              clear p31 p32
              have HE : Hid (((rootB nc nr || aheadB nc nr ac ar) && (rootB pc pr && rootB fc fr)) = true) := by show _ = _; simp only [n0, n1, p1, p3, Bool.and_true, Bool.true_and, Bool.and_false, Bool.false_and, Bool.or_true, Bool.true_or, Bool.or_false, Bool.false_or, Bool.not_true, Bool.not_false]
              go_enter Try.func51, Try.ntmps51
              go_wp2_with fail
              refine (refAhead_any _ _ _ _ _).mono ?_
              rintro e w1 ⟨rfl, hb1⟩
              rw [n1]
              have K1 := K0.step hb1
              have Z1 := Z0.step hb1
              obtain ⟨k1_0, k1_1, k1_2, k1_3, k1_4, k1_5, k1_6, k1_7, k1_8, k1_9, k1_10, k1_11, k1_12⟩ := K1.all
              have z1_0 := Z1.1 0 _ rfl
              have z1_1 := Z1.1 1 _ rfl
              go_wp2
              go_ret
              exact ⟨ret_bool (HE.out.symm.trans HBB.out), K1.2.2⟩
            · have p3 : rootB fc fr = false := by simp [rootB, p32]
              have p3q1 : (fc == 0) = true := by simp [p31]
              have p3q2 : (fr == 0) = false := by simp [p32]
              have p3r2 : (fr != 0) = true := by simp [p32]
              clear p31 p32
              have HE : Hid (((rootB nc nr || aheadB nc nr ac ar) && (rootB pc pr && rootB fc fr)) = false) := by show _ = _; simp only [n0, n1, p1, p3, Bool.and_true, Bool.true_and, Bool.and_false, Bool.false_and, Bool.or_true, Bool.true_or, Bool.or_false, Bool.false_or, Bool.not_true, Bool.not_false]
              go_enter Try.func51, Try.ntmps51
              go_wp2_with fail
              refine (refAhead_any _ _ _ _ _).mono ?_
              rintro e w1 ⟨rfl, hb1⟩
              rw [n1]
              have K1 := K0.step hb1
              have Z1 := Z0.step hb1
              obtain ⟨k1_0, k1_1, k1_2, k1_3, k1_4, k1_5, k1_6, k1_7, k1_8, k1_9, k1_10, k1_11, k1_12⟩ := K1.all
              have z1_0 := Z1.1 0 _ rfl
              have z1_1 := Z1.1 1 _ rfl
              go_wp2
              go_ret
              exact ⟨ret_bool (HE.out.symm.trans HBB.out), K1.2.2⟩
          · have p3 : rootB fc fr = false := by simp [rootB, p31]
            have p3q1 : (fc == 0) = false := by simp [p31]
            have p3r1 : (fc != 0) = true := by simp [p31]
            clear p31
            have HE : Hid (((rootB nc nr || aheadB nc nr ac ar) && (rootB pc pr && rootB fc fr)) = false) := by show _ = _; simp only [n0, n1, p1, p3, Bool.and_true, Bool.true_and, Bool.and_false, Bool.false_and, Bool.or_true, Bool.true_or, Bool.or_false, Bool.false_or, Bool.not_true, Bool.not_false]
            go_enter Try.func51, Try.ntmps51
            go_wp2_with fail
            refine (refAhead_any _ _ _ _ _).mono ?_
            rintro e w1 ⟨rfl, hb1⟩
            rw [n1]
            have K1 := K0.step hb1
            have Z1 := Z0.step hb1
            obtain ⟨k1_0, k1_1, k1_2, k1_3, k1_4, k1_5, k1_6, k1_7, k1_8, k1_9, k1_10, k1_11, k1_12⟩ := K1.all
            have z1_0 := Z1.1 0 _ rfl
            have z1_1 := Z1.1 1 _ rfl
            go_wp2
            go_ret
            exact ⟨ret_bool (HE.out.symm.trans HBB.out), K1.2.2⟩
        · have p1 : rootB pc pr = false := by simp [rootB, p12]
          have p1q1 : (pc == 0) = true := by simp [p11]
          have p1q2 : (pr == 0) = false := by simp [p12]
          have p1r2 : (pr != 0) = true := by simp [p12]
          clear p11 p12
          have HE : Hid (((rootB nc nr || aheadB nc nr ac ar) && (rootB pc pr && rootB fc fr)) = false) := by show _ = _; simp only [n0, n1, p1, Bool.and_true, Bool.true_and, Bool.and_false, Bool.false_and, Bool.or_true, Bool.true_or, Bool.or_false, Bool.false_or, Bool.not_true, Bool.not_false]
          go_enter Try.func51, Try.ntmps51
          go_wp2_with fail
          refine (refAhead_any _ _ _ _ _).mono ?_
          rintro e w1 ⟨rfl, hb1⟩
          rw [n1]
          have K1 := K0.step hb1
          have Z1 := Z0.step hb1
          obtain ⟨k1_0, k1_1, k1_2, k1_3, k1_4, k1_5, k1_6, k1_7, k1_8, k1_9, k1_10, k1_11, k1_12⟩ := K1.all
          have z1_0 := Z1.1 0 _ rfl
          have z1_1 := Z1.1 1 _ rfl
          go_wp2
          go_ret
          exact ⟨ret_bool (HE.out.symm.trans HBB.out), K1.2.2⟩
      · have p1 : rootB pc pr = false := by simp [rootB, p11]
        have p1q1 : (pc == 0) = false := by simp [p11]
        have p1r1 : (pc != 0) = true := by simp [p11]
        clear p11
        have HE : Hid (((rootB nc nr || aheadB nc nr ac ar) && (rootB pc pr && rootB fc fr)) = false) := by show _ = _; simp only [n0, n1, p1, Bool.and_true, Bool.true_and, Bool.and_false, Bool.false_and, Bool.or_true, Bool.true_or, Bool.or_false, Bool.false_or, Bool.not_true, Bool.not_false]
        go_enter Try.func51, Try.ntmps51
        go_wp2_with fail
        refine (refAhead_any _ _ _ _ _).mono ?_
        rintro e w1 ⟨rfl, hb1⟩
        rw [n1]
        have K1 := K0.step hb1
        have Z1 := Z0.step hb1
        obtain ⟨k1_0, k1_1, k1_2, k1_3, k1_4, k1_5, k1_6, k1_7, k1_8, k1_9, k1_10, k1_11, k1_12⟩ := K1.all
        have z1_0 := Z1.1 0 _ rfl
        have z1_1 := Z1.1 1 _ rfl
        go_wp2
        go_ret
        exact ⟨ret_bool (HE.out.symm.trans HBB.out), K1.2.2⟩

/-- The document's placed. -/
theorem refPlaced_any (ac ar sq : Int) (dv : Value) (kd nc nr pc pr fc fr : Int) (nm vl : ByteArray) (ds : List Int) (w : World) (hk : kd = 1 ∨ kd = 2 ∨ 2 < kd) :
    Calls Try.prog 51 #[.agg #[.int .i64 ac, .int .i64 ar, .int .i64 sq, dv, .int .i64 kd, .int .i64 nc, .int .i64 nr, .int .i64 pc, .int .i64 pr, .int .i64 fc, .int .i64 fr, .string nm, .string vl]] w fun e w' => e = .returned (.bool (nodeR ⟨ac, ar, sq, ds, kd, nc, nr, pc, pr, fc, fr, nm, vl⟩ && placeR ⟨ac, ar, sq, ds, kd, nc, nr, pc, pr, fc, fr, nm, vl⟩)) ∧ Below w.heap.size w w' := by
  rcases hk with rfl | rfl | hk
  · rw [np1]; exact refPlaced_one ac ar sq dv nc nr pc pr fc fr nm vl w
  · rw [np2]; exact refPlaced_two ac ar sq dv nc nr pc pr fc fr nm vl w
  · rw [np3 _ _ _ _ _ _ _ _ _ _ _ _ _ hk]; exact refPlaced_three ac ar sq dv kd nc nr pc pr fc fr nm vl w hk

end Go.Proofs.Ythndgmnckpimmaa
