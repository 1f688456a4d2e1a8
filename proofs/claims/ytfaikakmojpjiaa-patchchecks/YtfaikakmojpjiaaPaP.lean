/- The document's Check of a step. -/
import Derived.Test.YtfaikakmojpjiaaPaO
namespace Go.Proofs.Ytfaikakmojpjiaa
open Go.RowKit
set_option linter.unusedVariables false
set_option linter.unusedSimpArgs false

set_option maxRecDepth 100000 in
set_option maxHeartbeats 2000000 in
theorem refZero_any (s : St) (w : World) : Calls Try.prog 47 #[.agg #[.int .i64 s.1, .int .i64 s.2]] w fun e w' => e = .returned (.bool (decide (s = (0, 0)))) ∧ Below w.heap.size w w' := by
  have hbx : Below w.heap.size w (w.alloc (.cells #[.int .i64 s.1, .int .i64 s.2] 23)) := (Below.refl _ _).alloc (Nat.le_refl _) _
  have HB := hide9 hbx
  clear hbx
  rw [← eqSt0]
  by_cases h1 : s.1 = 0
  · by_cases h2 : s.2 = 0
    all_goals
      go_enter Try.func47, Try.ntmps47
      go_wp2
      go_ret
      exact ⟨ret_bool (by simp [h1, h2]), (Below.refl _ _).alloc (Nat.le_refl _) _⟩
  · go_enter Try.func47, Try.ntmps47
    go_wp2
    go_ret
    exact ⟨ret_bool (by simp [h1]), HB.out⟩
theorem refRight_bel (c r : Int) (w : World) : Calls Try.prog 27 #[.agg #[.int .i64 c, .int .i64 r]] w fun e w' => e = .returned (.bool (rightB c r)) ∧ Below w.heap.size w w' := (refRight_any c r w).mono fun e w' h => ⟨h.1, h.2 ▸ (Below.refl _ _).alloc (Nat.le_refl _) _⟩
theorem row9 {W : World} {b : Nat} {c0 c1 c2 c3 c4 c5 c6 c7 c8 : Value} {ty : TypeId} (h : W.heap[b]? = some (.cells #[c0, c1, c2, c3, c4, c5, c6, c7, c8] ty)) : W.cell? ⟨b, 0, none⟩ = some c0 ∧ W.cell? ⟨b, 1, none⟩ = some c1 ∧ W.cell? ⟨b, 2, none⟩ = some c2 ∧ W.cell? ⟨b, 3, none⟩ = some c3 ∧ W.cell? ⟨b, 4, none⟩ = some c4 ∧ W.cell? ⟨b, 5, none⟩ = some c5 ∧ W.cell? ⟨b, 6, none⟩ = some c6 ∧ W.cell? ⟨b, 7, none⟩ = some c7 ∧ W.cell? ⟨b, 8, none⟩ = some c8 := ⟨by rw [cell_of_row W b 0 _ _ _ h]; rfl, by rw [cell_of_row W b 1 _ _ _ h]; rfl, by rw [cell_of_row W b 2 _ _ _ h]; rfl, by rw [cell_of_row W b 3 _ _ _ h]; rfl, by rw [cell_of_row W b 4 _ _ _ h]; rfl, by rw [cell_of_row W b 5 _ _ _ h]; rfl, by rw [cell_of_row W b 6 _ _ _ h]; rfl, by rw [cell_of_row W b 7 _ _ _ h]; rfl, by rw [cell_of_row W b 8 _ _ _ h]; rfl⟩
theorem node_of_right {c r : Int} (h : rightB c r = true) : nodeB c r = true := decide_eq_true (.inl (of_decide_eq_true h))

theorem stEqV (a b : St) (v : Bool) (h : decide (a = b) = v) (w : World) : (binOp .eql 23 (.agg #[.int .i64 a.1, .int .i64 a.2]) (.agg #[.int .i64 b.1, .int .i64 b.2])).run Try.prog w = .ok (.bool v) w := by rw [eqlSt, ← h]
theorem stNeV (a b : St) (v : Bool) (h : decide (a = b) = v) (w : World) : (binOp .neq 23 (.agg #[.int .i64 a.1, .int .i64 a.2]) (.agg #[.int .i64 b.1, .int .i64 b.2])).run Try.prog w = .ok (.bool (!v)) w := by rw [neqSt, ← h]
set_option maxRecDepth 100000 in
set_option maxHeartbeats 4000000 in
theorem places_4 (p : Pa) (w : World) (hkd : p.kd = 4) : Calls Try.prog 29 #[paV p] w fun e w' => e = .returned (.bool (parP p && aftP p)) ∧ Below w.heap.size w w' := by
  have HK : Hid ((w.alloc (.cells #[.int .i64 p.kd, .int .i64 p.k.1, .int .i64 p.k.2, .int .i64 p.pa.1, .int .i64 p.pa.2, .int .i64 p.af.1, .int .i64 p.af.2, .string p.nm, .string p.vl] 25)).heap[w.heap.size]? = some (.cells #[.int .i64 p.kd, .int .i64 p.k.1, .int .i64 p.k.2, .int .i64 p.pa.1, .int .i64 p.pa.2, .int .i64 p.af.1, .int .i64 p.af.2, .string p.nm, .string p.vl] 25)) := heap_alloc_new _ _
  have HB : Hid (Below w.heap.size w (w.alloc (.cells #[.int .i64 p.kd, .int .i64 p.k.1, .int .i64 p.k.2, .int .i64 p.pa.1, .int .i64 p.pa.2, .int .i64 p.af.1, .int .i64 p.af.2, .string p.nm, .string p.vl] 25))) := (Below.refl _ _).alloc (Nat.le_refl _) _
  have hfp : fP p.kd = true := by unfold fP; simp [hkd]
  have hfa : fA p.kd = true := by unfold fA; simp [hkd]
  have e4 : (p.kd == 4) = true := by simp [hkd]
  have n4 : (p.kd != 4) = false := by simp [hkd]
  clear hkd
  cases hn : nodeB p.pa.1 p.pa.2 with
  | false =>
    have HN := hide9 hn
    have hv1 : parP p = false := by unfold parP; rw [hfp]; simp [hn]
    rw [hv1, Bool.false_and]
    clear hv1 hn hfp hfa
    show Calls Try.prog 29 #[.agg #[.int .i64 p.kd, .int .i64 p.k.1, .int .i64 p.k.2, .int .i64 p.pa.1, .int .i64 p.pa.2, .int .i64 p.af.1, .int .i64 p.af.2, .string p.nm, .string p.vl]] w _
    obtain ⟨b0, b1, b2, b3, b4, b5, b6, b7, b8⟩ := row9 HK.out
    go_enter Try.func29, Try.ntmps29
    go_wp2_with (first | (go_at_call 28; refine (refNode_any _ _ _).mono ?_; rintro e w1 ⟨rfl, hb⟩; rw [HN.out]; replace HB : Hid (Below w.heap.size w w1) := HB.out.trans (hb.mono HB.out.size); replace HK : Hid (w1.heap[w.heap.size]? = some (.cells #[.int .i64 p.kd, .int .i64 p.k.1, .int .i64 p.k.2, .int .i64 p.pa.1, .int .i64 p.pa.2, .int .i64 p.af.1, .int .i64 p.af.2, .string p.nm, .string p.vl] 25)) := (hb.block _ (row_lt HK.out)).trans HK.out; clear hb b0 b1 b2 b3 b4 b5 b6 b7 b8; obtain ⟨b0, b1, b2, b3, b4, b5, b6, b7, b8⟩ := row9 HK.out))
    (try rw [Exit.noGoto_ret])
    go_ret
    exact ⟨rfl, HB.out⟩
  | true =>
    have HN := hide9 hn
    cases hq : decide (p.pa = p.k) with
    | true =>
      have hst1 := stEqV p.pa p.k _ hq
      have hv1 : parP p = false := by unfold parP; rw [hfp]; simp [hn, of_decide_eq_true hq]
      rw [hv1, Bool.false_and]
      clear hv1 hn hfp hfa hq
      show Calls Try.prog 29 #[.agg #[.int .i64 p.kd, .int .i64 p.k.1, .int .i64 p.k.2, .int .i64 p.pa.1, .int .i64 p.pa.2, .int .i64 p.af.1, .int .i64 p.af.2, .string p.nm, .string p.vl]] w _
      obtain ⟨b0, b1, b2, b3, b4, b5, b6, b7, b8⟩ := row9 HK.out
      go_enter Try.func29, Try.ntmps29
      go_wp2_with (first | (go_at_call 28; refine (refNode_any _ _ _).mono ?_; rintro e w1 ⟨rfl, hb⟩; rw [HN.out]; replace HB : Hid (Below w.heap.size w w1) := HB.out.trans (hb.mono HB.out.size); replace HK : Hid (w1.heap[w.heap.size]? = some (.cells #[.int .i64 p.kd, .int .i64 p.k.1, .int .i64 p.k.2, .int .i64 p.pa.1, .int .i64 p.pa.2, .int .i64 p.af.1, .int .i64 p.af.2, .string p.nm, .string p.vl] 25)) := (hb.block _ (row_lt HK.out)).trans HK.out; clear hb b0 b1 b2 b3 b4 b5 b6 b7 b8; obtain ⟨b0, b1, b2, b3, b4, b5, b6, b7, b8⟩ := row9 HK.out))
      (try rw [Exit.noGoto_ret])
      go_ret
      exact ⟨rfl, HB.out⟩
    | false =>
      have hst1 := stEqV p.pa p.k _ hq
      have hv1 : parP p = true := by unfold parP; rw [hfp]; simp [hn, of_decide_eq_false hq]
      rw [hv1, Bool.true_and]
      clear hv1 hn hfp hq
      by_cases hz : p.af = (0, 0)
      · have HZ : Hid (decide (p.af = (0, 0)) = true) := decide_eq_true hz
        have hv2 : aftP p = true := by unfold aftP; rw [hfa]; simp [hz]
        rw [hv2]
        clear hv2 hz hfa
        show Calls Try.prog 29 #[.agg #[.int .i64 p.kd, .int .i64 p.k.1, .int .i64 p.k.2, .int .i64 p.pa.1, .int .i64 p.pa.2, .int .i64 p.af.1, .int .i64 p.af.2, .string p.nm, .string p.vl]] w _
        obtain ⟨b0, b1, b2, b3, b4, b5, b6, b7, b8⟩ := row9 HK.out
        go_enter Try.func29, Try.ntmps29
        go_wp2_with (first | (go_at_call 28; refine (refNode_any _ _ _).mono ?_; rintro e w1 ⟨rfl, hb⟩; rw [HN.out]; replace HB : Hid (Below w.heap.size w w1) := HB.out.trans (hb.mono HB.out.size); replace HK : Hid (w1.heap[w.heap.size]? = some (.cells #[.int .i64 p.kd, .int .i64 p.k.1, .int .i64 p.k.2, .int .i64 p.pa.1, .int .i64 p.pa.2, .int .i64 p.af.1, .int .i64 p.af.2, .string p.nm, .string p.vl] 25)) := (hb.block _ (row_lt HK.out)).trans HK.out; clear hb b0 b1 b2 b3 b4 b5 b6 b7 b8; obtain ⟨b0, b1, b2, b3, b4, b5, b6, b7, b8⟩ := row9 HK.out) | (go_at_call 47; refine (refZero_any _ _).mono ?_; rintro e w2 ⟨rfl, hb⟩; (first | rw [HZ.out] | rw [HY.out]); replace HB : Hid (Below w.heap.size w w2) := HB.out.trans (hb.mono HB.out.size); replace HK : Hid (w2.heap[w.heap.size]? = some (.cells #[.int .i64 p.kd, .int .i64 p.k.1, .int .i64 p.k.2, .int .i64 p.pa.1, .int .i64 p.pa.2, .int .i64 p.af.1, .int .i64 p.af.2, .string p.nm, .string p.vl] 25)) := (hb.block _ (row_lt HK.out)).trans HK.out; clear hb b0 b1 b2 b3 b4 b5 b6 b7 b8; obtain ⟨b0, b1, b2, b3, b4, b5, b6, b7, b8⟩ := row9 HK.out))
        (try rw [Exit.noGoto_ret])
        go_ret
        exact ⟨rfl, HB.out⟩
      · have HZ : Hid (decide (p.af = (0, 0)) = false) := decide_eq_false hz
        cases hr : rightB p.af.1 p.af.2 with
        | false =>
          have HR := hide9 hr
          have hv2 : aftP p = false := by unfold aftP; rw [hfa]; simp [hz, hr]
          rw [hv2]
          clear hv2 hz hfa hr
          show Calls Try.prog 29 #[.agg #[.int .i64 p.kd, .int .i64 p.k.1, .int .i64 p.k.2, .int .i64 p.pa.1, .int .i64 p.pa.2, .int .i64 p.af.1, .int .i64 p.af.2, .string p.nm, .string p.vl]] w _
          obtain ⟨b0, b1, b2, b3, b4, b5, b6, b7, b8⟩ := row9 HK.out
          go_enter Try.func29, Try.ntmps29
          go_wp2_with (first | (go_at_call 28; refine (refNode_any _ _ _).mono ?_; rintro e w1 ⟨rfl, hb⟩; rw [HN.out]; replace HB : Hid (Below w.heap.size w w1) := HB.out.trans (hb.mono HB.out.size); replace HK : Hid (w1.heap[w.heap.size]? = some (.cells #[.int .i64 p.kd, .int .i64 p.k.1, .int .i64 p.k.2, .int .i64 p.pa.1, .int .i64 p.pa.2, .int .i64 p.af.1, .int .i64 p.af.2, .string p.nm, .string p.vl] 25)) := (hb.block _ (row_lt HK.out)).trans HK.out; clear hb b0 b1 b2 b3 b4 b5 b6 b7 b8; obtain ⟨b0, b1, b2, b3, b4, b5, b6, b7, b8⟩ := row9 HK.out) | (go_at_call 47; refine (refZero_any _ _).mono ?_; rintro e w2 ⟨rfl, hb⟩; (first | rw [HZ.out] | rw [HY.out]); replace HB : Hid (Below w.heap.size w w2) := HB.out.trans (hb.mono HB.out.size); replace HK : Hid (w2.heap[w.heap.size]? = some (.cells #[.int .i64 p.kd, .int .i64 p.k.1, .int .i64 p.k.2, .int .i64 p.pa.1, .int .i64 p.pa.2, .int .i64 p.af.1, .int .i64 p.af.2, .string p.nm, .string p.vl] 25)) := (hb.block _ (row_lt HK.out)).trans HK.out; clear hb b0 b1 b2 b3 b4 b5 b6 b7 b8; obtain ⟨b0, b1, b2, b3, b4, b5, b6, b7, b8⟩ := row9 HK.out) | (go_at_call 27; refine (refRight_bel _ _ _).mono ?_; rintro e w3 ⟨rfl, hb⟩; rw [HR.out]; replace HB : Hid (Below w.heap.size w w3) := HB.out.trans (hb.mono HB.out.size); replace HK : Hid (w3.heap[w.heap.size]? = some (.cells #[.int .i64 p.kd, .int .i64 p.k.1, .int .i64 p.k.2, .int .i64 p.pa.1, .int .i64 p.pa.2, .int .i64 p.af.1, .int .i64 p.af.2, .string p.nm, .string p.vl] 25)) := (hb.block _ (row_lt HK.out)).trans HK.out; clear hb b0 b1 b2 b3 b4 b5 b6 b7 b8; obtain ⟨b0, b1, b2, b3, b4, b5, b6, b7, b8⟩ := row9 HK.out))
          (try rw [Exit.noGoto_ret])
          go_ret
          exact ⟨rfl, HB.out⟩
        | true =>
          have HR := hide9 hr
          cases he : decide (p.af = p.k) with
          | false =>
            have hst2 := stNeV p.af p.k _ he
            have hv2 : aftP p = true := by unfold aftP; rw [hfa]; simp [hz, hr, of_decide_eq_false he]
            rw [hv2]
            clear hv2 hz hfa hr he
            show Calls Try.prog 29 #[.agg #[.int .i64 p.kd, .int .i64 p.k.1, .int .i64 p.k.2, .int .i64 p.pa.1, .int .i64 p.pa.2, .int .i64 p.af.1, .int .i64 p.af.2, .string p.nm, .string p.vl]] w _
            obtain ⟨b0, b1, b2, b3, b4, b5, b6, b7, b8⟩ := row9 HK.out
            go_enter Try.func29, Try.ntmps29
            go_wp2_with (first | (go_at_call 28; refine (refNode_any _ _ _).mono ?_; rintro e w1 ⟨rfl, hb⟩; rw [HN.out]; replace HB : Hid (Below w.heap.size w w1) := HB.out.trans (hb.mono HB.out.size); replace HK : Hid (w1.heap[w.heap.size]? = some (.cells #[.int .i64 p.kd, .int .i64 p.k.1, .int .i64 p.k.2, .int .i64 p.pa.1, .int .i64 p.pa.2, .int .i64 p.af.1, .int .i64 p.af.2, .string p.nm, .string p.vl] 25)) := (hb.block _ (row_lt HK.out)).trans HK.out; clear hb b0 b1 b2 b3 b4 b5 b6 b7 b8; obtain ⟨b0, b1, b2, b3, b4, b5, b6, b7, b8⟩ := row9 HK.out) | (go_at_call 47; refine (refZero_any _ _).mono ?_; rintro e w2 ⟨rfl, hb⟩; (first | rw [HZ.out] | rw [HY.out]); replace HB : Hid (Below w.heap.size w w2) := HB.out.trans (hb.mono HB.out.size); replace HK : Hid (w2.heap[w.heap.size]? = some (.cells #[.int .i64 p.kd, .int .i64 p.k.1, .int .i64 p.k.2, .int .i64 p.pa.1, .int .i64 p.pa.2, .int .i64 p.af.1, .int .i64 p.af.2, .string p.nm, .string p.vl] 25)) := (hb.block _ (row_lt HK.out)).trans HK.out; clear hb b0 b1 b2 b3 b4 b5 b6 b7 b8; obtain ⟨b0, b1, b2, b3, b4, b5, b6, b7, b8⟩ := row9 HK.out) | (go_at_call 27; refine (refRight_bel _ _ _).mono ?_; rintro e w3 ⟨rfl, hb⟩; rw [HR.out]; replace HB : Hid (Below w.heap.size w w3) := HB.out.trans (hb.mono HB.out.size); replace HK : Hid (w3.heap[w.heap.size]? = some (.cells #[.int .i64 p.kd, .int .i64 p.k.1, .int .i64 p.k.2, .int .i64 p.pa.1, .int .i64 p.pa.2, .int .i64 p.af.1, .int .i64 p.af.2, .string p.nm, .string p.vl] 25)) := (hb.block _ (row_lt HK.out)).trans HK.out; clear hb b0 b1 b2 b3 b4 b5 b6 b7 b8; obtain ⟨b0, b1, b2, b3, b4, b5, b6, b7, b8⟩ := row9 HK.out))
            (try rw [Exit.noGoto_ret])
            go_ret
            exact ⟨rfl, HB.out⟩
          | true =>
            have hst2 := stNeV p.af p.k _ he
            have hv2 : aftP p = false := by unfold aftP; rw [hfa, of_decide_eq_true he]; rw [of_decide_eq_true he] at hz hr; simp [hz, hr]
            rw [hv2]
            clear hv2 hz hfa hr he
            show Calls Try.prog 29 #[.agg #[.int .i64 p.kd, .int .i64 p.k.1, .int .i64 p.k.2, .int .i64 p.pa.1, .int .i64 p.pa.2, .int .i64 p.af.1, .int .i64 p.af.2, .string p.nm, .string p.vl]] w _
            obtain ⟨b0, b1, b2, b3, b4, b5, b6, b7, b8⟩ := row9 HK.out
            go_enter Try.func29, Try.ntmps29
            go_wp2_with (first | (go_at_call 28; refine (refNode_any _ _ _).mono ?_; rintro e w1 ⟨rfl, hb⟩; rw [HN.out]; replace HB : Hid (Below w.heap.size w w1) := HB.out.trans (hb.mono HB.out.size); replace HK : Hid (w1.heap[w.heap.size]? = some (.cells #[.int .i64 p.kd, .int .i64 p.k.1, .int .i64 p.k.2, .int .i64 p.pa.1, .int .i64 p.pa.2, .int .i64 p.af.1, .int .i64 p.af.2, .string p.nm, .string p.vl] 25)) := (hb.block _ (row_lt HK.out)).trans HK.out; clear hb b0 b1 b2 b3 b4 b5 b6 b7 b8; obtain ⟨b0, b1, b2, b3, b4, b5, b6, b7, b8⟩ := row9 HK.out) | (go_at_call 47; refine (refZero_any _ _).mono ?_; rintro e w2 ⟨rfl, hb⟩; (first | rw [HZ.out] | rw [HY.out]); replace HB : Hid (Below w.heap.size w w2) := HB.out.trans (hb.mono HB.out.size); replace HK : Hid (w2.heap[w.heap.size]? = some (.cells #[.int .i64 p.kd, .int .i64 p.k.1, .int .i64 p.k.2, .int .i64 p.pa.1, .int .i64 p.pa.2, .int .i64 p.af.1, .int .i64 p.af.2, .string p.nm, .string p.vl] 25)) := (hb.block _ (row_lt HK.out)).trans HK.out; clear hb b0 b1 b2 b3 b4 b5 b6 b7 b8; obtain ⟨b0, b1, b2, b3, b4, b5, b6, b7, b8⟩ := row9 HK.out) | (go_at_call 27; refine (refRight_bel _ _ _).mono ?_; rintro e w3 ⟨rfl, hb⟩; rw [HR.out]; replace HB : Hid (Below w.heap.size w w3) := HB.out.trans (hb.mono HB.out.size); replace HK : Hid (w3.heap[w.heap.size]? = some (.cells #[.int .i64 p.kd, .int .i64 p.k.1, .int .i64 p.k.2, .int .i64 p.pa.1, .int .i64 p.pa.2, .int .i64 p.af.1, .int .i64 p.af.2, .string p.nm, .string p.vl] 25)) := (hb.block _ (row_lt HK.out)).trans HK.out; clear hb b0 b1 b2 b3 b4 b5 b6 b7 b8; obtain ⟨b0, b1, b2, b3, b4, b5, b6, b7, b8⟩ := row9 HK.out))
            (try rw [Exit.noGoto_ret])
            go_ret
            exact ⟨rfl, HB.out⟩
set_option maxRecDepth 100000 in
set_option maxHeartbeats 4000000 in
theorem places_5 (p : Pa) (w : World) (hkd : p.kd = 5) : Calls Try.prog 29 #[paV p] w fun e w' => e = .returned (.bool (parP p && aftP p)) ∧ Below w.heap.size w w' := by
  have HK : Hid ((w.alloc (.cells #[.int .i64 p.kd, .int .i64 p.k.1, .int .i64 p.k.2, .int .i64 p.pa.1, .int .i64 p.pa.2, .int .i64 p.af.1, .int .i64 p.af.2, .string p.nm, .string p.vl] 25)).heap[w.heap.size]? = some (.cells #[.int .i64 p.kd, .int .i64 p.k.1, .int .i64 p.k.2, .int .i64 p.pa.1, .int .i64 p.pa.2, .int .i64 p.af.1, .int .i64 p.af.2, .string p.nm, .string p.vl] 25)) := heap_alloc_new _ _
  have HB : Hid (Below w.heap.size w (w.alloc (.cells #[.int .i64 p.kd, .int .i64 p.k.1, .int .i64 p.k.2, .int .i64 p.pa.1, .int .i64 p.pa.2, .int .i64 p.af.1, .int .i64 p.af.2, .string p.nm, .string p.vl] 25))) := (Below.refl _ _).alloc (Nat.le_refl _) _
  have hfp : fP p.kd = false := by unfold fP; simp [hkd]
  have hfa : fA p.kd = true := by unfold fA; simp [hkd]
  have e4 : (p.kd == 4) = false := by simp [hkd]
  have n4 : (p.kd != 4) = true := by simp [hkd]
  have e5 : (p.kd == 5) = true := by simp [hkd]
  clear hkd
  have hv1 : parP p = decide (p.pa = (0, 0)) := by unfold parP; rw [hfp]; simp
  rw [hv1]
  cases hy : decide (p.pa = (0, 0)) with
  | false =>
    have HY := hide9 hy
    rw [Bool.false_and]
    clear hv1 hy hfp hfa
    show Calls Try.prog 29 #[.agg #[.int .i64 p.kd, .int .i64 p.k.1, .int .i64 p.k.2, .int .i64 p.pa.1, .int .i64 p.pa.2, .int .i64 p.af.1, .int .i64 p.af.2, .string p.nm, .string p.vl]] w _
    obtain ⟨b0, b1, b2, b3, b4, b5, b6, b7, b8⟩ := row9 HK.out
    go_enter Try.func29, Try.ntmps29
    go_wp2_with (first | (go_at_call 47; refine (refZero_any _ _).mono ?_; rintro e w1 ⟨rfl, hb⟩; rw [HY.out]; replace HB : Hid (Below w.heap.size w w1) := HB.out.trans (hb.mono HB.out.size); replace HK : Hid (w1.heap[w.heap.size]? = some (.cells #[.int .i64 p.kd, .int .i64 p.k.1, .int .i64 p.k.2, .int .i64 p.pa.1, .int .i64 p.pa.2, .int .i64 p.af.1, .int .i64 p.af.2, .string p.nm, .string p.vl] 25)) := (hb.block _ (row_lt HK.out)).trans HK.out; clear hb b0 b1 b2 b3 b4 b5 b6 b7 b8; obtain ⟨b0, b1, b2, b3, b4, b5, b6, b7, b8⟩ := row9 HK.out))
    (try rw [Exit.noGoto_ret])
    go_ret
    exact ⟨rfl, HB.out⟩
  | true =>
    have HY := hide9 hy
    rw [Bool.true_and]
    clear hv1 hy hfp
    by_cases hz : p.af = (0, 0)
    · have HZ : Hid (decide (p.af = (0, 0)) = true) := decide_eq_true hz
      have hv2 : aftP p = true := by unfold aftP; rw [hfa]; simp [hz]
      rw [hv2]
      clear hv2 hz hfa
      show Calls Try.prog 29 #[.agg #[.int .i64 p.kd, .int .i64 p.k.1, .int .i64 p.k.2, .int .i64 p.pa.1, .int .i64 p.pa.2, .int .i64 p.af.1, .int .i64 p.af.2, .string p.nm, .string p.vl]] w _
      obtain ⟨b0, b1, b2, b3, b4, b5, b6, b7, b8⟩ := row9 HK.out
      go_enter Try.func29, Try.ntmps29
      go_wp2_with (first | (go_at_call 47; refine (refZero_any _ _).mono ?_; rintro e w2 ⟨rfl, hb⟩; (first | rw [HZ.out] | rw [HY.out]); replace HB : Hid (Below w.heap.size w w2) := HB.out.trans (hb.mono HB.out.size); replace HK : Hid (w2.heap[w.heap.size]? = some (.cells #[.int .i64 p.kd, .int .i64 p.k.1, .int .i64 p.k.2, .int .i64 p.pa.1, .int .i64 p.pa.2, .int .i64 p.af.1, .int .i64 p.af.2, .string p.nm, .string p.vl] 25)) := (hb.block _ (row_lt HK.out)).trans HK.out; clear hb b0 b1 b2 b3 b4 b5 b6 b7 b8; obtain ⟨b0, b1, b2, b3, b4, b5, b6, b7, b8⟩ := row9 HK.out))
      (try rw [Exit.noGoto_ret])
      go_ret
      exact ⟨rfl, HB.out⟩
    · have HZ : Hid (decide (p.af = (0, 0)) = false) := decide_eq_false hz
      cases hr : rightB p.af.1 p.af.2 with
      | false =>
        have HR := hide9 hr
        have hv2 : aftP p = false := by unfold aftP; rw [hfa]; simp [hz, hr]
        rw [hv2]
        clear hv2 hz hfa hr
        show Calls Try.prog 29 #[.agg #[.int .i64 p.kd, .int .i64 p.k.1, .int .i64 p.k.2, .int .i64 p.pa.1, .int .i64 p.pa.2, .int .i64 p.af.1, .int .i64 p.af.2, .string p.nm, .string p.vl]] w _
        obtain ⟨b0, b1, b2, b3, b4, b5, b6, b7, b8⟩ := row9 HK.out
        go_enter Try.func29, Try.ntmps29
        go_wp2_with (first | (go_at_call 47; refine (refZero_any _ _).mono ?_; rintro e w2 ⟨rfl, hb⟩; (first | rw [HZ.out] | rw [HY.out]); replace HB : Hid (Below w.heap.size w w2) := HB.out.trans (hb.mono HB.out.size); replace HK : Hid (w2.heap[w.heap.size]? = some (.cells #[.int .i64 p.kd, .int .i64 p.k.1, .int .i64 p.k.2, .int .i64 p.pa.1, .int .i64 p.pa.2, .int .i64 p.af.1, .int .i64 p.af.2, .string p.nm, .string p.vl] 25)) := (hb.block _ (row_lt HK.out)).trans HK.out; clear hb b0 b1 b2 b3 b4 b5 b6 b7 b8; obtain ⟨b0, b1, b2, b3, b4, b5, b6, b7, b8⟩ := row9 HK.out) | (go_at_call 27; refine (refRight_bel _ _ _).mono ?_; rintro e w3 ⟨rfl, hb⟩; rw [HR.out]; replace HB : Hid (Below w.heap.size w w3) := HB.out.trans (hb.mono HB.out.size); replace HK : Hid (w3.heap[w.heap.size]? = some (.cells #[.int .i64 p.kd, .int .i64 p.k.1, .int .i64 p.k.2, .int .i64 p.pa.1, .int .i64 p.pa.2, .int .i64 p.af.1, .int .i64 p.af.2, .string p.nm, .string p.vl] 25)) := (hb.block _ (row_lt HK.out)).trans HK.out; clear hb b0 b1 b2 b3 b4 b5 b6 b7 b8; obtain ⟨b0, b1, b2, b3, b4, b5, b6, b7, b8⟩ := row9 HK.out))
        (try rw [Exit.noGoto_ret])
        go_ret
        exact ⟨rfl, HB.out⟩
      | true =>
        have HR := hide9 hr
        cases he : decide (p.af = p.k) with
        | false =>
          have hst2 := stNeV p.af p.k _ he
          have hv2 : aftP p = true := by unfold aftP; rw [hfa]; simp [hz, hr, of_decide_eq_false he]
          rw [hv2]
          clear hv2 hz hfa hr he
          show Calls Try.prog 29 #[.agg #[.int .i64 p.kd, .int .i64 p.k.1, .int .i64 p.k.2, .int .i64 p.pa.1, .int .i64 p.pa.2, .int .i64 p.af.1, .int .i64 p.af.2, .string p.nm, .string p.vl]] w _
          obtain ⟨b0, b1, b2, b3, b4, b5, b6, b7, b8⟩ := row9 HK.out
          go_enter Try.func29, Try.ntmps29
          go_wp2_with (first | (go_at_call 47; refine (refZero_any _ _).mono ?_; rintro e w2 ⟨rfl, hb⟩; (first | rw [HZ.out] | rw [HY.out]); replace HB : Hid (Below w.heap.size w w2) := HB.out.trans (hb.mono HB.out.size); replace HK : Hid (w2.heap[w.heap.size]? = some (.cells #[.int .i64 p.kd, .int .i64 p.k.1, .int .i64 p.k.2, .int .i64 p.pa.1, .int .i64 p.pa.2, .int .i64 p.af.1, .int .i64 p.af.2, .string p.nm, .string p.vl] 25)) := (hb.block _ (row_lt HK.out)).trans HK.out; clear hb b0 b1 b2 b3 b4 b5 b6 b7 b8; obtain ⟨b0, b1, b2, b3, b4, b5, b6, b7, b8⟩ := row9 HK.out) | (go_at_call 27; refine (refRight_bel _ _ _).mono ?_; rintro e w3 ⟨rfl, hb⟩; rw [HR.out]; replace HB : Hid (Below w.heap.size w w3) := HB.out.trans (hb.mono HB.out.size); replace HK : Hid (w3.heap[w.heap.size]? = some (.cells #[.int .i64 p.kd, .int .i64 p.k.1, .int .i64 p.k.2, .int .i64 p.pa.1, .int .i64 p.pa.2, .int .i64 p.af.1, .int .i64 p.af.2, .string p.nm, .string p.vl] 25)) := (hb.block _ (row_lt HK.out)).trans HK.out; clear hb b0 b1 b2 b3 b4 b5 b6 b7 b8; obtain ⟨b0, b1, b2, b3, b4, b5, b6, b7, b8⟩ := row9 HK.out))
          (try rw [Exit.noGoto_ret])
          go_ret
          exact ⟨rfl, HB.out⟩
        | true =>
          have hst2 := stNeV p.af p.k _ he
          have hv2 : aftP p = false := by unfold aftP; rw [hfa, of_decide_eq_true he]; rw [of_decide_eq_true he] at hz hr; simp [hz, hr]
          rw [hv2]
          clear hv2 hz hfa hr he
          show Calls Try.prog 29 #[.agg #[.int .i64 p.kd, .int .i64 p.k.1, .int .i64 p.k.2, .int .i64 p.pa.1, .int .i64 p.pa.2, .int .i64 p.af.1, .int .i64 p.af.2, .string p.nm, .string p.vl]] w _
          obtain ⟨b0, b1, b2, b3, b4, b5, b6, b7, b8⟩ := row9 HK.out
          go_enter Try.func29, Try.ntmps29
          go_wp2_with (first | (go_at_call 47; refine (refZero_any _ _).mono ?_; rintro e w2 ⟨rfl, hb⟩; (first | rw [HZ.out] | rw [HY.out]); replace HB : Hid (Below w.heap.size w w2) := HB.out.trans (hb.mono HB.out.size); replace HK : Hid (w2.heap[w.heap.size]? = some (.cells #[.int .i64 p.kd, .int .i64 p.k.1, .int .i64 p.k.2, .int .i64 p.pa.1, .int .i64 p.pa.2, .int .i64 p.af.1, .int .i64 p.af.2, .string p.nm, .string p.vl] 25)) := (hb.block _ (row_lt HK.out)).trans HK.out; clear hb b0 b1 b2 b3 b4 b5 b6 b7 b8; obtain ⟨b0, b1, b2, b3, b4, b5, b6, b7, b8⟩ := row9 HK.out) | (go_at_call 27; refine (refRight_bel _ _ _).mono ?_; rintro e w3 ⟨rfl, hb⟩; rw [HR.out]; replace HB : Hid (Below w.heap.size w w3) := HB.out.trans (hb.mono HB.out.size); replace HK : Hid (w3.heap[w.heap.size]? = some (.cells #[.int .i64 p.kd, .int .i64 p.k.1, .int .i64 p.k.2, .int .i64 p.pa.1, .int .i64 p.pa.2, .int .i64 p.af.1, .int .i64 p.af.2, .string p.nm, .string p.vl] 25)) := (hb.block _ (row_lt HK.out)).trans HK.out; clear hb b0 b1 b2 b3 b4 b5 b6 b7 b8; obtain ⟨b0, b1, b2, b3, b4, b5, b6, b7, b8⟩ := row9 HK.out))
          (try rw [Exit.noGoto_ret])
          go_ret
          exact ⟨rfl, HB.out⟩
set_option maxRecDepth 100000 in
set_option maxHeartbeats 4000000 in
theorem places_n (p : Pa) (w : World) (h4 : p.kd ≠ 4) (h5 : p.kd ≠ 5) : Calls Try.prog 29 #[paV p] w fun e w' => e = .returned (.bool (parP p && aftP p)) ∧ Below w.heap.size w w' := by
  have HK : Hid ((w.alloc (.cells #[.int .i64 p.kd, .int .i64 p.k.1, .int .i64 p.k.2, .int .i64 p.pa.1, .int .i64 p.pa.2, .int .i64 p.af.1, .int .i64 p.af.2, .string p.nm, .string p.vl] 25)).heap[w.heap.size]? = some (.cells #[.int .i64 p.kd, .int .i64 p.k.1, .int .i64 p.k.2, .int .i64 p.pa.1, .int .i64 p.pa.2, .int .i64 p.af.1, .int .i64 p.af.2, .string p.nm, .string p.vl] 25)) := heap_alloc_new _ _
  have HB : Hid (Below w.heap.size w (w.alloc (.cells #[.int .i64 p.kd, .int .i64 p.k.1, .int .i64 p.k.2, .int .i64 p.pa.1, .int .i64 p.pa.2, .int .i64 p.af.1, .int .i64 p.af.2, .string p.nm, .string p.vl] 25))) := (Below.refl _ _).alloc (Nat.le_refl _) _
  have hfp : fP p.kd = false := by unfold fP; simp [h4]
  have hfa : fA p.kd = false := by unfold fA; simp [h4, h5]
  have e4 : (p.kd == 4) = false := by simp [h4]
  have n4 : (p.kd != 4) = true := by simp [h4]
  have e5 : (p.kd == 5) = false := by simp [h5]
  clear h4 h5
  have hv1 : parP p = decide (p.pa = (0, 0)) := by unfold parP; rw [hfp]; simp
  rw [hv1]
  cases hy : decide (p.pa = (0, 0)) with
  | false =>
    have HY := hide9 hy
    rw [Bool.false_and]
    clear hv1 hy hfp hfa
    show Calls Try.prog 29 #[.agg #[.int .i64 p.kd, .int .i64 p.k.1, .int .i64 p.k.2, .int .i64 p.pa.1, .int .i64 p.pa.2, .int .i64 p.af.1, .int .i64 p.af.2, .string p.nm, .string p.vl]] w _
    obtain ⟨b0, b1, b2, b3, b4, b5, b6, b7, b8⟩ := row9 HK.out
    go_enter Try.func29, Try.ntmps29
    go_wp2_with (first | (go_at_call 47; refine (refZero_any _ _).mono ?_; rintro e w1 ⟨rfl, hb⟩; rw [HY.out]; replace HB : Hid (Below w.heap.size w w1) := HB.out.trans (hb.mono HB.out.size); replace HK : Hid (w1.heap[w.heap.size]? = some (.cells #[.int .i64 p.kd, .int .i64 p.k.1, .int .i64 p.k.2, .int .i64 p.pa.1, .int .i64 p.pa.2, .int .i64 p.af.1, .int .i64 p.af.2, .string p.nm, .string p.vl] 25)) := (hb.block _ (row_lt HK.out)).trans HK.out; clear hb b0 b1 b2 b3 b4 b5 b6 b7 b8; obtain ⟨b0, b1, b2, b3, b4, b5, b6, b7, b8⟩ := row9 HK.out))
    (try rw [Exit.noGoto_ret])
    go_ret
    exact ⟨rfl, HB.out⟩
  | true =>
    have HY := hide9 hy
    rw [Bool.true_and]
    clear hv1 hy hfp
    have hv2 : aftP p = decide (p.af = (0, 0)) := by unfold aftP; rw [hfa]; simp
    rw [hv2]
    cases hz : decide (p.af = (0, 0)) with
    | false =>
      have HZ := hide9 hz
      clear hv2 hz hfa
      show Calls Try.prog 29 #[.agg #[.int .i64 p.kd, .int .i64 p.k.1, .int .i64 p.k.2, .int .i64 p.pa.1, .int .i64 p.pa.2, .int .i64 p.af.1, .int .i64 p.af.2, .string p.nm, .string p.vl]] w _
      obtain ⟨b0, b1, b2, b3, b4, b5, b6, b7, b8⟩ := row9 HK.out
      go_enter Try.func29, Try.ntmps29
      go_wp2_with (first | (go_at_call 47; refine (refZero_any _ _).mono ?_; rintro e w2 ⟨rfl, hb⟩; (first | rw [HZ.out] | rw [HY.out]); replace HB : Hid (Below w.heap.size w w2) := HB.out.trans (hb.mono HB.out.size); replace HK : Hid (w2.heap[w.heap.size]? = some (.cells #[.int .i64 p.kd, .int .i64 p.k.1, .int .i64 p.k.2, .int .i64 p.pa.1, .int .i64 p.pa.2, .int .i64 p.af.1, .int .i64 p.af.2, .string p.nm, .string p.vl] 25)) := (hb.block _ (row_lt HK.out)).trans HK.out; clear hb b0 b1 b2 b3 b4 b5 b6 b7 b8; obtain ⟨b0, b1, b2, b3, b4, b5, b6, b7, b8⟩ := row9 HK.out))
      (try rw [Exit.noGoto_ret])
      go_ret
      exact ⟨rfl, HB.out⟩
    | true =>
      have HZ := hide9 hz
      clear hv2 hz hfa
      show Calls Try.prog 29 #[.agg #[.int .i64 p.kd, .int .i64 p.k.1, .int .i64 p.k.2, .int .i64 p.pa.1, .int .i64 p.pa.2, .int .i64 p.af.1, .int .i64 p.af.2, .string p.nm, .string p.vl]] w _
      obtain ⟨b0, b1, b2, b3, b4, b5, b6, b7, b8⟩ := row9 HK.out
      go_enter Try.func29, Try.ntmps29
      go_wp2_with (first | (go_at_call 47; refine (refZero_any _ _).mono ?_; rintro e w2 ⟨rfl, hb⟩; (first | rw [HZ.out] | rw [HY.out]); replace HB : Hid (Below w.heap.size w w2) := HB.out.trans (hb.mono HB.out.size); replace HK : Hid (w2.heap[w.heap.size]? = some (.cells #[.int .i64 p.kd, .int .i64 p.k.1, .int .i64 p.k.2, .int .i64 p.pa.1, .int .i64 p.pa.2, .int .i64 p.af.1, .int .i64 p.af.2, .string p.nm, .string p.vl] 25)) := (hb.block _ (row_lt HK.out)).trans HK.out; clear hb b0 b1 b2 b3 b4 b5 b6 b7 b8; obtain ⟨b0, b1, b2, b3, b4, b5, b6, b7, b8⟩ := row9 HK.out))
      (try rw [Exit.noGoto_ret])
      go_ret
      exact ⟨rfl, HB.out⟩
theorem places_any (p : Pa) (w : World) : Calls Try.prog 29 #[paV p] w fun e w' => e = .returned (.bool (parP p && aftP p)) ∧ Below w.heap.size w w' := by
  by_cases h4 : p.kd = 4
  · exact places_4 p w h4
  · by_cases h5 : p.kd = 5
    · exact places_5 p w h5
    · exact places_n p w h4 h5

end Go.Proofs.Ytfaikakmojpjiaa
