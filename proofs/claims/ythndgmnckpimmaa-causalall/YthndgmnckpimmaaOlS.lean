/- slices.Equal of numbers; change.Same and the document's Same, of any two changes. -/
import Derived.Test.YthndgmnckpimmaaOlA
import Derived.Test.YthndgmnckpimmaaCkA
import Derived.Test.YthndgmnckpimmaaPlainL
namespace Go.Proofs.Ythndgmnckpimmaa
open Go.RowKit
set_option linter.unusedVariables false
set_option linter.unusedSimpArgs false

set_option maxRecDepth 100000 in
set_option maxHeartbeats 16000000 in
theorem refSameCh_any (ac ar sq : Int) (v1 : Value) (kd nc nr pc pr fc fr : Int) (nm vl : ByteArray) (ac2 ar2 sq2 : Int) (v2 : Value) (kd2 nc2 nr2 pc2 pr2 fc2 fr2 : Int) (nm2 vl2 : ByteArray) (ds ds2 : List Int) (w : World) (h1 : IsI w v1 ds) (h2 : IsI w v2 ds2) :
    Calls Try.prog 39 #[.agg #[.int .i64 ac, .int .i64 ar, .int .i64 sq, v1, .int .i64 kd, .int .i64 nc, .int .i64 nr, .int .i64 pc, .int .i64 pr, .int .i64 fc, .int .i64 fr, .string nm, .string vl], .agg #[.int .i64 ac2, .int .i64 ar2, .int .i64 sq2, v2, .int .i64 kd2, .int .i64 nc2, .int .i64 nr2, .int .i64 pc2, .int .i64 pr2, .int .i64 fc2, .int .i64 fr2, .string nm2, .string vl2]] w fun e w' => e = .returned (.bool (sameB ⟨ac, ar, sq, ds, kd, nc, nr, pc, pr, fc, fr, nm, vl⟩ ⟨ac2, ar2, sq2, ds2, kd2, nc2, nr2, pc2, pr2, fc2, fr2, nm2, vl2⟩)) ∧ Below w.heap.size w w' := by
  by_cases xac : ac = ac2
  · subst xac
    by_cases xar : ar = ar2
    · subst xar
      by_cases xsq : sq = sq2
      · subst xsq
        by_cases xds : ds = ds2
        · subst xds
          by_cases xkd : kd = kd2
          · subst xkd
            by_cases xnc : nc = nc2
            · subst xnc
              by_cases xnr : nr = nr2
              · subst xnr
                by_cases xpc : pc = pc2
                · subst xpc
                  by_cases xpr : pr = pr2
                  · subst xpr
                    by_cases xfc : fc = fc2
                    · subst xfc
                      by_cases xfr : fr = fr2
                      · subst xfr
                        cases qnm : (nm.toList == nm2.toList)
                        · obtain ⟨a1, c1, e1⟩ := h1.form
                          subst e1
                          obtain ⟨a2, c2, e2⟩ := h2.form
                          subst e2
                          have K0 := KeptC.start w [.int .i64 ac, .int .i64 ar, .int .i64 sq, .slice a1 ds.length c1, .int .i64 kd, .int .i64 nc, .int .i64 nr, .int .i64 pc, .int .i64 pr, .int .i64 fc, .int .i64 fr, .string nm, .string vl] 35
                          have M0 := KeptC.start (w.alloc (.cells #[.int .i64 ac, .int .i64 ar, .int .i64 sq, .slice a1 ds.length c1, .int .i64 kd, .int .i64 nc, .int .i64 nr, .int .i64 pc, .int .i64 pr, .int .i64 fc, .int .i64 fr, .string nm, .string vl] 35)) [.int .i64 ac, .int .i64 ar, .int .i64 sq, .slice a2 ds.length c2, .int .i64 kd, .int .i64 nc, .int .i64 nr, .int .i64 pc, .int .i64 pr, .int .i64 fc, .int .i64 fr, .string nm2, .string vl2] 35
                          rw [show (w.alloc (.cells #[.int .i64 ac, .int .i64 ar, .int .i64 sq, .slice a1 ds.length c1, .int .i64 kd, .int .i64 nc, .int .i64 nr, .int .i64 pc, .int .i64 pr, .int .i64 fc, .int .i64 fr, .string nm, .string vl] 35)).heap.size = w.heap.size + 1 by simp] at M0
                          have K1 := K0.step M0.2.2
                          have H1 : Hid (IsI _ (.slice a1 ds.length c1) ds) := h1.below K1.2.2
                          have H2 : Hid (IsI _ (.slice a2 ds.length c2) ds) := h2.below K1.2.2
                          clear h1 h2
                          go_enter Try.func39, Try.ntmps39
                          go_wp2_with fail
                          refine (sameI_any _ _ ds ds _ H1.out H2.out).mono ?_
                          rintro e w1 ⟨rfl, hb1⟩
                          have d0 : decide (ds = ds) = true := by simp
                          rw [d0]
                          have K2 := K1.step hb1
                          have M2 := M0.step hb1
                          obtain ⟨k_0, k_1, k_2, k_3, k_4, k_5, k_6, k_7, k_8, k_9, k_10, k_11, k_12⟩ := K2.all
                          obtain ⟨m_0, m_1, m_2, m_3, m_4, m_5, m_6, m_7, m_8, m_9, m_10, m_11, m_12⟩ := M2.all
                          go_wp2
                          go_ret
                          exact ⟨ret_bool (by simp [sameB, qnm]), K2.2.2⟩
                        · cases qvl : (vl.toList == vl2.toList)
                          · obtain ⟨a1, c1, e1⟩ := h1.form
                            subst e1
                            obtain ⟨a2, c2, e2⟩ := h2.form
                            subst e2
                            have K0 := KeptC.start w [.int .i64 ac, .int .i64 ar, .int .i64 sq, .slice a1 ds.length c1, .int .i64 kd, .int .i64 nc, .int .i64 nr, .int .i64 pc, .int .i64 pr, .int .i64 fc, .int .i64 fr, .string nm, .string vl] 35
                            have M0 := KeptC.start (w.alloc (.cells #[.int .i64 ac, .int .i64 ar, .int .i64 sq, .slice a1 ds.length c1, .int .i64 kd, .int .i64 nc, .int .i64 nr, .int .i64 pc, .int .i64 pr, .int .i64 fc, .int .i64 fr, .string nm, .string vl] 35)) [.int .i64 ac, .int .i64 ar, .int .i64 sq, .slice a2 ds.length c2, .int .i64 kd, .int .i64 nc, .int .i64 nr, .int .i64 pc, .int .i64 pr, .int .i64 fc, .int .i64 fr, .string nm2, .string vl2] 35
                            rw [show (w.alloc (.cells #[.int .i64 ac, .int .i64 ar, .int .i64 sq, .slice a1 ds.length c1, .int .i64 kd, .int .i64 nc, .int .i64 nr, .int .i64 pc, .int .i64 pr, .int .i64 fc, .int .i64 fr, .string nm, .string vl] 35)).heap.size = w.heap.size + 1 by simp] at M0
                            have K1 := K0.step M0.2.2
                            have H1 : Hid (IsI _ (.slice a1 ds.length c1) ds) := h1.below K1.2.2
                            have H2 : Hid (IsI _ (.slice a2 ds.length c2) ds) := h2.below K1.2.2
                            clear h1 h2
                            go_enter Try.func39, Try.ntmps39
                            go_wp2_with fail
                            refine (sameI_any _ _ ds ds _ H1.out H2.out).mono ?_
                            rintro e w1 ⟨rfl, hb1⟩
                            have d0 : decide (ds = ds) = true := by simp
                            rw [d0]
                            have K2 := K1.step hb1
                            have M2 := M0.step hb1
                            obtain ⟨k_0, k_1, k_2, k_3, k_4, k_5, k_6, k_7, k_8, k_9, k_10, k_11, k_12⟩ := K2.all
                            obtain ⟨m_0, m_1, m_2, m_3, m_4, m_5, m_6, m_7, m_8, m_9, m_10, m_11, m_12⟩ := M2.all
                            go_wp2
                            go_ret
                            exact ⟨ret_bool (by simp [sameB, qnm, qvl]), K2.2.2⟩
                          · obtain ⟨a1, c1, e1⟩ := h1.form
                            subst e1
                            obtain ⟨a2, c2, e2⟩ := h2.form
                            subst e2
                            have K0 := KeptC.start w [.int .i64 ac, .int .i64 ar, .int .i64 sq, .slice a1 ds.length c1, .int .i64 kd, .int .i64 nc, .int .i64 nr, .int .i64 pc, .int .i64 pr, .int .i64 fc, .int .i64 fr, .string nm, .string vl] 35
                            have M0 := KeptC.start (w.alloc (.cells #[.int .i64 ac, .int .i64 ar, .int .i64 sq, .slice a1 ds.length c1, .int .i64 kd, .int .i64 nc, .int .i64 nr, .int .i64 pc, .int .i64 pr, .int .i64 fc, .int .i64 fr, .string nm, .string vl] 35)) [.int .i64 ac, .int .i64 ar, .int .i64 sq, .slice a2 ds.length c2, .int .i64 kd, .int .i64 nc, .int .i64 nr, .int .i64 pc, .int .i64 pr, .int .i64 fc, .int .i64 fr, .string nm2, .string vl2] 35
                            rw [show (w.alloc (.cells #[.int .i64 ac, .int .i64 ar, .int .i64 sq, .slice a1 ds.length c1, .int .i64 kd, .int .i64 nc, .int .i64 nr, .int .i64 pc, .int .i64 pr, .int .i64 fc, .int .i64 fr, .string nm, .string vl] 35)).heap.size = w.heap.size + 1 by simp] at M0
                            have K1 := K0.step M0.2.2
                            have H1 : Hid (IsI _ (.slice a1 ds.length c1) ds) := h1.below K1.2.2
                            have H2 : Hid (IsI _ (.slice a2 ds.length c2) ds) := h2.below K1.2.2
                            clear h1 h2
                            go_enter Try.func39, Try.ntmps39
                            go_wp2_with fail
                            refine (sameI_any _ _ ds ds _ H1.out H2.out).mono ?_
                            rintro e w1 ⟨rfl, hb1⟩
                            have d0 : decide (ds = ds) = true := by simp
                            rw [d0]
                            have K2 := K1.step hb1
                            have M2 := M0.step hb1
                            obtain ⟨k_0, k_1, k_2, k_3, k_4, k_5, k_6, k_7, k_8, k_9, k_10, k_11, k_12⟩ := K2.all
                            obtain ⟨m_0, m_1, m_2, m_3, m_4, m_5, m_6, m_7, m_8, m_9, m_10, m_11, m_12⟩ := M2.all
                            go_wp2
                            go_ret
                            exact ⟨ret_bool (by simp [sameB, qnm, qvl]), K2.2.2⟩
                      · have q : (fr == fr2) = false := by simp [xfr]
                        obtain ⟨a1, c1, e1⟩ := h1.form
                        subst e1
                        obtain ⟨a2, c2, e2⟩ := h2.form
                        subst e2
                        have K0 := KeptC.start w [.int .i64 ac, .int .i64 ar, .int .i64 sq, .slice a1 ds.length c1, .int .i64 kd, .int .i64 nc, .int .i64 nr, .int .i64 pc, .int .i64 pr, .int .i64 fc, .int .i64 fr, .string nm, .string vl] 35
                        have M0 := KeptC.start (w.alloc (.cells #[.int .i64 ac, .int .i64 ar, .int .i64 sq, .slice a1 ds.length c1, .int .i64 kd, .int .i64 nc, .int .i64 nr, .int .i64 pc, .int .i64 pr, .int .i64 fc, .int .i64 fr, .string nm, .string vl] 35)) [.int .i64 ac, .int .i64 ar, .int .i64 sq, .slice a2 ds.length c2, .int .i64 kd, .int .i64 nc, .int .i64 nr, .int .i64 pc, .int .i64 pr, .int .i64 fc, .int .i64 fr2, .string nm2, .string vl2] 35
                        rw [show (w.alloc (.cells #[.int .i64 ac, .int .i64 ar, .int .i64 sq, .slice a1 ds.length c1, .int .i64 kd, .int .i64 nc, .int .i64 nr, .int .i64 pc, .int .i64 pr, .int .i64 fc, .int .i64 fr, .string nm, .string vl] 35)).heap.size = w.heap.size + 1 by simp] at M0
                        have K1 := K0.step M0.2.2
                        have H1 : Hid (IsI _ (.slice a1 ds.length c1) ds) := h1.below K1.2.2
                        have H2 : Hid (IsI _ (.slice a2 ds.length c2) ds) := h2.below K1.2.2
                        clear h1 h2
                        go_enter Try.func39, Try.ntmps39
                        go_wp2_with fail
                        refine (sameI_any _ _ ds ds _ H1.out H2.out).mono ?_
                        rintro e w1 ⟨rfl, hb1⟩
                        have d0 : decide (ds = ds) = true := by simp
                        rw [d0]
                        have K2 := K1.step hb1
                        have M2 := M0.step hb1
                        obtain ⟨k_0, k_1, k_2, k_3, k_4, k_5, k_6, k_7, k_8, k_9, k_10, k_11, k_12⟩ := K2.all
                        obtain ⟨m_0, m_1, m_2, m_3, m_4, m_5, m_6, m_7, m_8, m_9, m_10, m_11, m_12⟩ := M2.all
                        go_wp2
                        go_ret
                        exact ⟨ret_bool (by simp [sameB, xfr]), K2.2.2⟩
                    · have q : (fc == fc2) = false := by simp [xfc]
                      obtain ⟨a1, c1, e1⟩ := h1.form
                      subst e1
                      obtain ⟨a2, c2, e2⟩ := h2.form
                      subst e2
                      have K0 := KeptC.start w [.int .i64 ac, .int .i64 ar, .int .i64 sq, .slice a1 ds.length c1, .int .i64 kd, .int .i64 nc, .int .i64 nr, .int .i64 pc, .int .i64 pr, .int .i64 fc, .int .i64 fr, .string nm, .string vl] 35
                      have M0 := KeptC.start (w.alloc (.cells #[.int .i64 ac, .int .i64 ar, .int .i64 sq, .slice a1 ds.length c1, .int .i64 kd, .int .i64 nc, .int .i64 nr, .int .i64 pc, .int .i64 pr, .int .i64 fc, .int .i64 fr, .string nm, .string vl] 35)) [.int .i64 ac, .int .i64 ar, .int .i64 sq, .slice a2 ds.length c2, .int .i64 kd, .int .i64 nc, .int .i64 nr, .int .i64 pc, .int .i64 pr, .int .i64 fc2, .int .i64 fr2, .string nm2, .string vl2] 35
                      rw [show (w.alloc (.cells #[.int .i64 ac, .int .i64 ar, .int .i64 sq, .slice a1 ds.length c1, .int .i64 kd, .int .i64 nc, .int .i64 nr, .int .i64 pc, .int .i64 pr, .int .i64 fc, .int .i64 fr, .string nm, .string vl] 35)).heap.size = w.heap.size + 1 by simp] at M0
                      have K1 := K0.step M0.2.2
                      have H1 : Hid (IsI _ (.slice a1 ds.length c1) ds) := h1.below K1.2.2
                      have H2 : Hid (IsI _ (.slice a2 ds.length c2) ds) := h2.below K1.2.2
                      clear h1 h2
                      go_enter Try.func39, Try.ntmps39
                      go_wp2_with fail
                      refine (sameI_any _ _ ds ds _ H1.out H2.out).mono ?_
                      rintro e w1 ⟨rfl, hb1⟩
                      have d0 : decide (ds = ds) = true := by simp
                      rw [d0]
                      have K2 := K1.step hb1
                      have M2 := M0.step hb1
                      obtain ⟨k_0, k_1, k_2, k_3, k_4, k_5, k_6, k_7, k_8, k_9, k_10, k_11, k_12⟩ := K2.all
                      obtain ⟨m_0, m_1, m_2, m_3, m_4, m_5, m_6, m_7, m_8, m_9, m_10, m_11, m_12⟩ := M2.all
                      go_wp2
                      go_ret
                      exact ⟨ret_bool (by simp [sameB, xfc]), K2.2.2⟩
                  · have q : (pr == pr2) = false := by simp [xpr]
                    obtain ⟨a1, c1, e1⟩ := h1.form
                    subst e1
                    obtain ⟨a2, c2, e2⟩ := h2.form
                    subst e2
                    have K0 := KeptC.start w [.int .i64 ac, .int .i64 ar, .int .i64 sq, .slice a1 ds.length c1, .int .i64 kd, .int .i64 nc, .int .i64 nr, .int .i64 pc, .int .i64 pr, .int .i64 fc, .int .i64 fr, .string nm, .string vl] 35
                    have M0 := KeptC.start (w.alloc (.cells #[.int .i64 ac, .int .i64 ar, .int .i64 sq, .slice a1 ds.length c1, .int .i64 kd, .int .i64 nc, .int .i64 nr, .int .i64 pc, .int .i64 pr, .int .i64 fc, .int .i64 fr, .string nm, .string vl] 35)) [.int .i64 ac, .int .i64 ar, .int .i64 sq, .slice a2 ds.length c2, .int .i64 kd, .int .i64 nc, .int .i64 nr, .int .i64 pc, .int .i64 pr2, .int .i64 fc2, .int .i64 fr2, .string nm2, .string vl2] 35
                    rw [show (w.alloc (.cells #[.int .i64 ac, .int .i64 ar, .int .i64 sq, .slice a1 ds.length c1, .int .i64 kd, .int .i64 nc, .int .i64 nr, .int .i64 pc, .int .i64 pr, .int .i64 fc, .int .i64 fr, .string nm, .string vl] 35)).heap.size = w.heap.size + 1 by simp] at M0
                    have K1 := K0.step M0.2.2
                    have H1 : Hid (IsI _ (.slice a1 ds.length c1) ds) := h1.below K1.2.2
                    have H2 : Hid (IsI _ (.slice a2 ds.length c2) ds) := h2.below K1.2.2
                    clear h1 h2
                    go_enter Try.func39, Try.ntmps39
                    go_wp2_with fail
                    refine (sameI_any _ _ ds ds _ H1.out H2.out).mono ?_
                    rintro e w1 ⟨rfl, hb1⟩
                    have d0 : decide (ds = ds) = true := by simp
                    rw [d0]
                    have K2 := K1.step hb1
                    have M2 := M0.step hb1
                    obtain ⟨k_0, k_1, k_2, k_3, k_4, k_5, k_6, k_7, k_8, k_9, k_10, k_11, k_12⟩ := K2.all
                    obtain ⟨m_0, m_1, m_2, m_3, m_4, m_5, m_6, m_7, m_8, m_9, m_10, m_11, m_12⟩ := M2.all
                    go_wp2
                    go_ret
                    exact ⟨ret_bool (by simp [sameB, xpr]), K2.2.2⟩
                · have q : (pc == pc2) = false := by simp [xpc]
                  obtain ⟨a1, c1, e1⟩ := h1.form
                  subst e1
                  obtain ⟨a2, c2, e2⟩ := h2.form
                  subst e2
                  have K0 := KeptC.start w [.int .i64 ac, .int .i64 ar, .int .i64 sq, .slice a1 ds.length c1, .int .i64 kd, .int .i64 nc, .int .i64 nr, .int .i64 pc, .int .i64 pr, .int .i64 fc, .int .i64 fr, .string nm, .string vl] 35
                  have M0 := KeptC.start (w.alloc (.cells #[.int .i64 ac, .int .i64 ar, .int .i64 sq, .slice a1 ds.length c1, .int .i64 kd, .int .i64 nc, .int .i64 nr, .int .i64 pc, .int .i64 pr, .int .i64 fc, .int .i64 fr, .string nm, .string vl] 35)) [.int .i64 ac, .int .i64 ar, .int .i64 sq, .slice a2 ds.length c2, .int .i64 kd, .int .i64 nc, .int .i64 nr, .int .i64 pc2, .int .i64 pr2, .int .i64 fc2, .int .i64 fr2, .string nm2, .string vl2] 35
                  rw [show (w.alloc (.cells #[.int .i64 ac, .int .i64 ar, .int .i64 sq, .slice a1 ds.length c1, .int .i64 kd, .int .i64 nc, .int .i64 nr, .int .i64 pc, .int .i64 pr, .int .i64 fc, .int .i64 fr, .string nm, .string vl] 35)).heap.size = w.heap.size + 1 by simp] at M0
                  have K1 := K0.step M0.2.2
                  have H1 : Hid (IsI _ (.slice a1 ds.length c1) ds) := h1.below K1.2.2
                  have H2 : Hid (IsI _ (.slice a2 ds.length c2) ds) := h2.below K1.2.2
                  clear h1 h2
                  go_enter Try.func39, Try.ntmps39
                  go_wp2_with fail
                  refine (sameI_any _ _ ds ds _ H1.out H2.out).mono ?_
                  rintro e w1 ⟨rfl, hb1⟩
                  have d0 : decide (ds = ds) = true := by simp
                  rw [d0]
                  have K2 := K1.step hb1
                  have M2 := M0.step hb1
                  obtain ⟨k_0, k_1, k_2, k_3, k_4, k_5, k_6, k_7, k_8, k_9, k_10, k_11, k_12⟩ := K2.all
                  obtain ⟨m_0, m_1, m_2, m_3, m_4, m_5, m_6, m_7, m_8, m_9, m_10, m_11, m_12⟩ := M2.all
                  go_wp2
                  go_ret
                  exact ⟨ret_bool (by simp [sameB, xpc]), K2.2.2⟩
              · have q : (nr == nr2) = false := by simp [xnr]
                obtain ⟨a1, c1, e1⟩ := h1.form
                subst e1
                obtain ⟨a2, c2, e2⟩ := h2.form
                subst e2
                have K0 := KeptC.start w [.int .i64 ac, .int .i64 ar, .int .i64 sq, .slice a1 ds.length c1, .int .i64 kd, .int .i64 nc, .int .i64 nr, .int .i64 pc, .int .i64 pr, .int .i64 fc, .int .i64 fr, .string nm, .string vl] 35
                have M0 := KeptC.start (w.alloc (.cells #[.int .i64 ac, .int .i64 ar, .int .i64 sq, .slice a1 ds.length c1, .int .i64 kd, .int .i64 nc, .int .i64 nr, .int .i64 pc, .int .i64 pr, .int .i64 fc, .int .i64 fr, .string nm, .string vl] 35)) [.int .i64 ac, .int .i64 ar, .int .i64 sq, .slice a2 ds.length c2, .int .i64 kd, .int .i64 nc, .int .i64 nr2, .int .i64 pc2, .int .i64 pr2, .int .i64 fc2, .int .i64 fr2, .string nm2, .string vl2] 35
                rw [show (w.alloc (.cells #[.int .i64 ac, .int .i64 ar, .int .i64 sq, .slice a1 ds.length c1, .int .i64 kd, .int .i64 nc, .int .i64 nr, .int .i64 pc, .int .i64 pr, .int .i64 fc, .int .i64 fr, .string nm, .string vl] 35)).heap.size = w.heap.size + 1 by simp] at M0
                have K1 := K0.step M0.2.2
                have H1 : Hid (IsI _ (.slice a1 ds.length c1) ds) := h1.below K1.2.2
                have H2 : Hid (IsI _ (.slice a2 ds.length c2) ds) := h2.below K1.2.2
                clear h1 h2
                go_enter Try.func39, Try.ntmps39
                go_wp2_with fail
                refine (sameI_any _ _ ds ds _ H1.out H2.out).mono ?_
                rintro e w1 ⟨rfl, hb1⟩
                have d0 : decide (ds = ds) = true := by simp
                rw [d0]
                have K2 := K1.step hb1
                have M2 := M0.step hb1
                obtain ⟨k_0, k_1, k_2, k_3, k_4, k_5, k_6, k_7, k_8, k_9, k_10, k_11, k_12⟩ := K2.all
                obtain ⟨m_0, m_1, m_2, m_3, m_4, m_5, m_6, m_7, m_8, m_9, m_10, m_11, m_12⟩ := M2.all
                go_wp2
                go_ret
                exact ⟨ret_bool (by simp [sameB, xnr]), K2.2.2⟩
            · have q : (nc == nc2) = false := by simp [xnc]
              obtain ⟨a1, c1, e1⟩ := h1.form
              subst e1
              obtain ⟨a2, c2, e2⟩ := h2.form
              subst e2
              have K0 := KeptC.start w [.int .i64 ac, .int .i64 ar, .int .i64 sq, .slice a1 ds.length c1, .int .i64 kd, .int .i64 nc, .int .i64 nr, .int .i64 pc, .int .i64 pr, .int .i64 fc, .int .i64 fr, .string nm, .string vl] 35
              have M0 := KeptC.start (w.alloc (.cells #[.int .i64 ac, .int .i64 ar, .int .i64 sq, .slice a1 ds.length c1, .int .i64 kd, .int .i64 nc, .int .i64 nr, .int .i64 pc, .int .i64 pr, .int .i64 fc, .int .i64 fr, .string nm, .string vl] 35)) [.int .i64 ac, .int .i64 ar, .int .i64 sq, .slice a2 ds.length c2, .int .i64 kd, .int .i64 nc2, .int .i64 nr2, .int .i64 pc2, .int .i64 pr2, .int .i64 fc2, .int .i64 fr2, .string nm2, .string vl2] 35
              rw [show (w.alloc (.cells #[.int .i64 ac, .int .i64 ar, .int .i64 sq, .slice a1 ds.length c1, .int .i64 kd, .int .i64 nc, .int .i64 nr, .int .i64 pc, .int .i64 pr, .int .i64 fc, .int .i64 fr, .string nm, .string vl] 35)).heap.size = w.heap.size + 1 by simp] at M0
              have K1 := K0.step M0.2.2
              have H1 : Hid (IsI _ (.slice a1 ds.length c1) ds) := h1.below K1.2.2
              have H2 : Hid (IsI _ (.slice a2 ds.length c2) ds) := h2.below K1.2.2
              clear h1 h2
              go_enter Try.func39, Try.ntmps39
              go_wp2_with fail
              refine (sameI_any _ _ ds ds _ H1.out H2.out).mono ?_
              rintro e w1 ⟨rfl, hb1⟩
              have d0 : decide (ds = ds) = true := by simp
              rw [d0]
              have K2 := K1.step hb1
              have M2 := M0.step hb1
              obtain ⟨k_0, k_1, k_2, k_3, k_4, k_5, k_6, k_7, k_8, k_9, k_10, k_11, k_12⟩ := K2.all
              obtain ⟨m_0, m_1, m_2, m_3, m_4, m_5, m_6, m_7, m_8, m_9, m_10, m_11, m_12⟩ := M2.all
              go_wp2
              go_ret
              exact ⟨ret_bool (by simp [sameB, xnc]), K2.2.2⟩
          · have q : (kd == kd2) = false := by simp [xkd]
            obtain ⟨a1, c1, e1⟩ := h1.form
            subst e1
            obtain ⟨a2, c2, e2⟩ := h2.form
            subst e2
            have K0 := KeptC.start w [.int .i64 ac, .int .i64 ar, .int .i64 sq, .slice a1 ds.length c1, .int .i64 kd, .int .i64 nc, .int .i64 nr, .int .i64 pc, .int .i64 pr, .int .i64 fc, .int .i64 fr, .string nm, .string vl] 35
            have M0 := KeptC.start (w.alloc (.cells #[.int .i64 ac, .int .i64 ar, .int .i64 sq, .slice a1 ds.length c1, .int .i64 kd, .int .i64 nc, .int .i64 nr, .int .i64 pc, .int .i64 pr, .int .i64 fc, .int .i64 fr, .string nm, .string vl] 35)) [.int .i64 ac, .int .i64 ar, .int .i64 sq, .slice a2 ds.length c2, .int .i64 kd2, .int .i64 nc2, .int .i64 nr2, .int .i64 pc2, .int .i64 pr2, .int .i64 fc2, .int .i64 fr2, .string nm2, .string vl2] 35
            rw [show (w.alloc (.cells #[.int .i64 ac, .int .i64 ar, .int .i64 sq, .slice a1 ds.length c1, .int .i64 kd, .int .i64 nc, .int .i64 nr, .int .i64 pc, .int .i64 pr, .int .i64 fc, .int .i64 fr, .string nm, .string vl] 35)).heap.size = w.heap.size + 1 by simp] at M0
            have K1 := K0.step M0.2.2
            have H1 : Hid (IsI _ (.slice a1 ds.length c1) ds) := h1.below K1.2.2
            have H2 : Hid (IsI _ (.slice a2 ds.length c2) ds) := h2.below K1.2.2
            clear h1 h2
            go_enter Try.func39, Try.ntmps39
            go_wp2_with fail
            refine (sameI_any _ _ ds ds _ H1.out H2.out).mono ?_
            rintro e w1 ⟨rfl, hb1⟩
            have d0 : decide (ds = ds) = true := by simp
            rw [d0]
            have K2 := K1.step hb1
            have M2 := M0.step hb1
            obtain ⟨k_0, k_1, k_2, k_3, k_4, k_5, k_6, k_7, k_8, k_9, k_10, k_11, k_12⟩ := K2.all
            obtain ⟨m_0, m_1, m_2, m_3, m_4, m_5, m_6, m_7, m_8, m_9, m_10, m_11, m_12⟩ := M2.all
            go_wp2
            go_ret
            exact ⟨ret_bool (by simp [sameB, xkd]), K2.2.2⟩
        · obtain ⟨a1, c1, e1⟩ := h1.form
          subst e1
          obtain ⟨a2, c2, e2⟩ := h2.form
          subst e2
          have K0 := KeptC.start w [.int .i64 ac, .int .i64 ar, .int .i64 sq, .slice a1 ds.length c1, .int .i64 kd, .int .i64 nc, .int .i64 nr, .int .i64 pc, .int .i64 pr, .int .i64 fc, .int .i64 fr, .string nm, .string vl] 35
          have M0 := KeptC.start (w.alloc (.cells #[.int .i64 ac, .int .i64 ar, .int .i64 sq, .slice a1 ds.length c1, .int .i64 kd, .int .i64 nc, .int .i64 nr, .int .i64 pc, .int .i64 pr, .int .i64 fc, .int .i64 fr, .string nm, .string vl] 35)) [.int .i64 ac, .int .i64 ar, .int .i64 sq, .slice a2 ds2.length c2, .int .i64 kd2, .int .i64 nc2, .int .i64 nr2, .int .i64 pc2, .int .i64 pr2, .int .i64 fc2, .int .i64 fr2, .string nm2, .string vl2] 35
          rw [show (w.alloc (.cells #[.int .i64 ac, .int .i64 ar, .int .i64 sq, .slice a1 ds.length c1, .int .i64 kd, .int .i64 nc, .int .i64 nr, .int .i64 pc, .int .i64 pr, .int .i64 fc, .int .i64 fr, .string nm, .string vl] 35)).heap.size = w.heap.size + 1 by simp] at M0
          have K1 := K0.step M0.2.2
          have H1 : Hid (IsI _ (.slice a1 ds.length c1) ds) := h1.below K1.2.2
          have H2 : Hid (IsI _ (.slice a2 ds2.length c2) ds2) := h2.below K1.2.2
          clear h1 h2
          go_enter Try.func39, Try.ntmps39
          go_wp2_with fail
          refine (sameI_any _ _ ds ds2 _ H1.out H2.out).mono ?_
          rintro e w1 ⟨rfl, hb1⟩
          have d0 : decide (ds = ds2) = false := by simp [xds]
          rw [d0]
          have K2 := K1.step hb1
          have M2 := M0.step hb1
          obtain ⟨k_0, k_1, k_2, k_3, k_4, k_5, k_6, k_7, k_8, k_9, k_10, k_11, k_12⟩ := K2.all
          obtain ⟨m_0, m_1, m_2, m_3, m_4, m_5, m_6, m_7, m_8, m_9, m_10, m_11, m_12⟩ := M2.all
          go_wp2
          go_ret
          exact ⟨ret_bool (by simp [sameB, xds]), K2.2.2⟩
      · have q : (sq == sq2) = false := by simp [xsq]
        obtain ⟨a1, c1, e1⟩ := h1.form
        subst e1
        obtain ⟨a2, c2, e2⟩ := h2.form
        subst e2
        have K0 := KeptC.start w [.int .i64 ac, .int .i64 ar, .int .i64 sq, .slice a1 ds.length c1, .int .i64 kd, .int .i64 nc, .int .i64 nr, .int .i64 pc, .int .i64 pr, .int .i64 fc, .int .i64 fr, .string nm, .string vl] 35
        have M0 := KeptC.start (w.alloc (.cells #[.int .i64 ac, .int .i64 ar, .int .i64 sq, .slice a1 ds.length c1, .int .i64 kd, .int .i64 nc, .int .i64 nr, .int .i64 pc, .int .i64 pr, .int .i64 fc, .int .i64 fr, .string nm, .string vl] 35)) [.int .i64 ac, .int .i64 ar, .int .i64 sq2, .slice a2 ds2.length c2, .int .i64 kd2, .int .i64 nc2, .int .i64 nr2, .int .i64 pc2, .int .i64 pr2, .int .i64 fc2, .int .i64 fr2, .string nm2, .string vl2] 35
        rw [show (w.alloc (.cells #[.int .i64 ac, .int .i64 ar, .int .i64 sq, .slice a1 ds.length c1, .int .i64 kd, .int .i64 nc, .int .i64 nr, .int .i64 pc, .int .i64 pr, .int .i64 fc, .int .i64 fr, .string nm, .string vl] 35)).heap.size = w.heap.size + 1 by simp] at M0
        have K1 := K0.step M0.2.2
        have H1 : Hid (IsI _ (.slice a1 ds.length c1) ds) := h1.below K1.2.2
        have H2 : Hid (IsI _ (.slice a2 ds2.length c2) ds2) := h2.below K1.2.2
        clear h1 h2
        go_enter Try.func39, Try.ntmps39
        go_wp2
        go_ret
        exact ⟨ret_bool (by simp [sameB, xsq]), K1.2.2⟩
    · have q : (ar == ar2) = false := by simp [xar]
      obtain ⟨a1, c1, e1⟩ := h1.form
      subst e1
      obtain ⟨a2, c2, e2⟩ := h2.form
      subst e2
      have K0 := KeptC.start w [.int .i64 ac, .int .i64 ar, .int .i64 sq, .slice a1 ds.length c1, .int .i64 kd, .int .i64 nc, .int .i64 nr, .int .i64 pc, .int .i64 pr, .int .i64 fc, .int .i64 fr, .string nm, .string vl] 35
      have M0 := KeptC.start (w.alloc (.cells #[.int .i64 ac, .int .i64 ar, .int .i64 sq, .slice a1 ds.length c1, .int .i64 kd, .int .i64 nc, .int .i64 nr, .int .i64 pc, .int .i64 pr, .int .i64 fc, .int .i64 fr, .string nm, .string vl] 35)) [.int .i64 ac, .int .i64 ar2, .int .i64 sq2, .slice a2 ds2.length c2, .int .i64 kd2, .int .i64 nc2, .int .i64 nr2, .int .i64 pc2, .int .i64 pr2, .int .i64 fc2, .int .i64 fr2, .string nm2, .string vl2] 35
      rw [show (w.alloc (.cells #[.int .i64 ac, .int .i64 ar, .int .i64 sq, .slice a1 ds.length c1, .int .i64 kd, .int .i64 nc, .int .i64 nr, .int .i64 pc, .int .i64 pr, .int .i64 fc, .int .i64 fr, .string nm, .string vl] 35)).heap.size = w.heap.size + 1 by simp] at M0
      have K1 := K0.step M0.2.2
      have H1 : Hid (IsI _ (.slice a1 ds.length c1) ds) := h1.below K1.2.2
      have H2 : Hid (IsI _ (.slice a2 ds2.length c2) ds2) := h2.below K1.2.2
      clear h1 h2
      go_enter Try.func39, Try.ntmps39
      go_wp2
      go_ret
      exact ⟨ret_bool (by simp [sameB, xar]), K1.2.2⟩
  · have q : (ac == ac2) = false := by simp [xac]
    obtain ⟨a1, c1, e1⟩ := h1.form
    subst e1
    obtain ⟨a2, c2, e2⟩ := h2.form
    subst e2
    have K0 := KeptC.start w [.int .i64 ac, .int .i64 ar, .int .i64 sq, .slice a1 ds.length c1, .int .i64 kd, .int .i64 nc, .int .i64 nr, .int .i64 pc, .int .i64 pr, .int .i64 fc, .int .i64 fr, .string nm, .string vl] 35
    have M0 := KeptC.start (w.alloc (.cells #[.int .i64 ac, .int .i64 ar, .int .i64 sq, .slice a1 ds.length c1, .int .i64 kd, .int .i64 nc, .int .i64 nr, .int .i64 pc, .int .i64 pr, .int .i64 fc, .int .i64 fr, .string nm, .string vl] 35)) [.int .i64 ac2, .int .i64 ar2, .int .i64 sq2, .slice a2 ds2.length c2, .int .i64 kd2, .int .i64 nc2, .int .i64 nr2, .int .i64 pc2, .int .i64 pr2, .int .i64 fc2, .int .i64 fr2, .string nm2, .string vl2] 35
    rw [show (w.alloc (.cells #[.int .i64 ac, .int .i64 ar, .int .i64 sq, .slice a1 ds.length c1, .int .i64 kd, .int .i64 nc, .int .i64 nr, .int .i64 pc, .int .i64 pr, .int .i64 fc, .int .i64 fr, .string nm, .string vl] 35)).heap.size = w.heap.size + 1 by simp] at M0
    have K1 := K0.step M0.2.2
    have H1 : Hid (IsI _ (.slice a1 ds.length c1) ds) := h1.below K1.2.2
    have H2 : Hid (IsI _ (.slice a2 ds2.length c2) ds2) := h2.below K1.2.2
    clear h1 h2
    go_enter Try.func39, Try.ntmps39
    go_wp2
    go_ret
    exact ⟨ret_bool (by simp [sameB, xac]), K1.2.2⟩

end Go.Proofs.Ythndgmnckpimmaa
