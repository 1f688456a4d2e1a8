/- The document's Check of a step: kinds [1, 2, 3, 4]. -/
import Derived.Test.YtfaikakmojpjiaaPaP
namespace Go.Proofs.Ytfaikakmojpjiaa
open Go.RowKit
set_option linter.unusedVariables false
set_option linter.unusedSimpArgs false

set_option maxRecDepth 100000 in
set_option maxHeartbeats 8000000 in
theorem refCheck_k1 (k pa af : St) (nm vl : ByteArray) (w : World) (hs : nm.size ≤ 281474976710656) : Calls Try.prog 9 #[.agg #[.int .i64 1, .int .i64 k.1, .int .i64 k.2, .int .i64 pa.1, .int .i64 pa.2, .int .i64 af.1, .int .i64 af.2, .string nm, .string vl]] w fun e w' => e = .returned (.int .i64 (chkP (⟨1, k, pa, af, nm, vl⟩ : Pa))) ∧ Below w.heap.size w w' := by
  have Hs := hide9 hs
  clear hs
  have HK : Hid ((w.alloc (.cells #[.int .i64 1, .int .i64 k.1, .int .i64 k.2, .int .i64 pa.1, .int .i64 pa.2, .int .i64 af.1, .int .i64 af.2, .string nm, .string vl] 25)).heap[w.heap.size]? = some (.cells #[.int .i64 1, .int .i64 k.1, .int .i64 k.2, .int .i64 pa.1, .int .i64 pa.2, .int .i64 af.1, .int .i64 af.2, .string nm, .string vl] 25)) := heap_alloc_new _ _
  have HB : Hid (Below w.heap.size w (w.alloc (.cells #[.int .i64 1, .int .i64 k.1, .int .i64 k.2, .int .i64 pa.1, .int .i64 pa.2, .int .i64 af.1, .int .i64 af.2, .string nm, .string vl] 25))) := (Below.refl _ _).alloc (Nat.le_refl _) _
  have hk : 1 ≤ (⟨1, k, pa, af, nm, vl⟩ : Pa).kd ∧ (⟨1, k, pa, af, nm, vl⟩ : Pa).kd ≤ 9 := ⟨by show (1 : Int) ≤ 1; decide, by show (1 : Int) ≤ 9; decide⟩
  have ek : keyP (⟨1, k, pa, af, nm, vl⟩ : Pa) = rightB k.1 k.2 := by unfold keyP; rw [if_neg (by show ¬ (6 : Int) ≤ 1; decide)]
  cases hky : rightB k.1 k.2 with
  | false =>
    have HR := hide9 hky
    have hv : chkP (⟨1, k, pa, af, nm, vl⟩ : Pa) = 2 := by unfold chkP; rw [if_neg (fun e => e hk), if_pos (.inl (ek.trans hky))]
    rw [hv]
    clear hv
    show Calls Try.prog 9 #[.agg #[.int .i64 1, .int .i64 k.1, .int .i64 k.2, .int .i64 pa.1, .int .i64 pa.2, .int .i64 af.1, .int .i64 af.2, .string nm, .string vl]] w _
    obtain ⟨b0, b1, b2, b3, b4, b5, b6, b7, b8⟩ := row9 HK.out
    go_enter Try.func9, Try.ntmps9
    go_wp2_with (first | (go_at_call 27; refine (refRight_bel _ _ _).mono ?_; rintro e w1 ⟨rfl, hb⟩; rw [HR.out]; replace HB : Hid (Below w.heap.size w w1) := HB.out.trans (hb.mono HB.out.size); replace HK : Hid (w1.heap[w.heap.size]? = some (.cells #[.int .i64 1, .int .i64 k.1, .int .i64 k.2, .int .i64 pa.1, .int .i64 pa.2, .int .i64 af.1, .int .i64 af.2, .string nm, .string vl] 25)) := (hb.block _ (row_lt HK.out)).trans HK.out; clear hb b0 b1 b2 b3 b4 b5 b6 b7 b8; obtain ⟨b0, b1, b2, b3, b4, b5, b6, b7, b8⟩ := row9 HK.out))
    (try rw [Exit.noGoto_ret])
    go_ret
    exact ⟨rfl, HB.out⟩
  | true =>
    have HR := hide9 hky
    have HN := hide9 (node_of_right hky)
    have ek2 := ek.trans hky
    clear hky ek
    cases hpl : parP (⟨1, k, pa, af, nm, vl⟩ : Pa) && aftP (⟨1, k, pa, af, nm, vl⟩ : Pa) with
    | false =>
      have HPl := hide9 hpl
      have hv : chkP (⟨1, k, pa, af, nm, vl⟩ : Pa) = 2 := by unfold chkP; rw [if_neg (fun e => e hk), if_pos (.inr (by simpa only [Bool.and_eq_false_iff] using hpl))]
      rw [hv]
      clear hv
      show Calls Try.prog 9 #[.agg #[.int .i64 1, .int .i64 k.1, .int .i64 k.2, .int .i64 pa.1, .int .i64 pa.2, .int .i64 af.1, .int .i64 af.2, .string nm, .string vl]] w _
      obtain ⟨b0, b1, b2, b3, b4, b5, b6, b7, b8⟩ := row9 HK.out
      go_enter Try.func9, Try.ntmps9
      go_wp2_with (first | (go_at_call 27; refine (refRight_bel _ _ _).mono ?_; rintro e w1 ⟨rfl, hb⟩; rw [HR.out]; replace HB : Hid (Below w.heap.size w w1) := HB.out.trans (hb.mono HB.out.size); replace HK : Hid (w1.heap[w.heap.size]? = some (.cells #[.int .i64 1, .int .i64 k.1, .int .i64 k.2, .int .i64 pa.1, .int .i64 pa.2, .int .i64 af.1, .int .i64 af.2, .string nm, .string vl] 25)) := (hb.block _ (row_lt HK.out)).trans HK.out; clear hb b0 b1 b2 b3 b4 b5 b6 b7 b8; obtain ⟨b0, b1, b2, b3, b4, b5, b6, b7, b8⟩ := row9 HK.out) | (go_at_call 28; refine (refNode_any _ _ _).mono ?_; rintro e w2 ⟨rfl, hb⟩; rw [HN.out]; replace HB : Hid (Below w.heap.size w w2) := HB.out.trans (hb.mono HB.out.size); replace HK : Hid (w2.heap[w.heap.size]? = some (.cells #[.int .i64 1, .int .i64 k.1, .int .i64 k.2, .int .i64 pa.1, .int .i64 pa.2, .int .i64 af.1, .int .i64 af.2, .string nm, .string vl] 25)) := (hb.block _ (row_lt HK.out)).trans HK.out; clear hb b0 b1 b2 b3 b4 b5 b6 b7 b8; obtain ⟨b0, b1, b2, b3, b4, b5, b6, b7, b8⟩ := row9 HK.out) | (go_at_call 29; refine (places_any (⟨1, k, pa, af, nm, vl⟩ : Pa) _).mono ?_; rintro e w3 ⟨rfl, hb⟩; rw [HPl.out]; replace HB : Hid (Below w.heap.size w w3) := HB.out.trans (hb.mono HB.out.size); replace HK : Hid (w3.heap[w.heap.size]? = some (.cells #[.int .i64 1, .int .i64 k.1, .int .i64 k.2, .int .i64 pa.1, .int .i64 pa.2, .int .i64 af.1, .int .i64 af.2, .string nm, .string vl] 25)) := (hb.block _ (row_lt HK.out)).trans HK.out; clear hb b0 b1 b2 b3 b4 b5 b6 b7 b8; obtain ⟨b0, b1, b2, b3, b4, b5, b6, b7, b8⟩ := row9 HK.out))
      (try rw [Exit.noGoto_ret])
      go_ret
      exact ⟨rfl, HB.out⟩
    | true =>
      have HPl := hide9 hpl
      obtain ⟨hpr, har⟩ : parP (⟨1, k, pa, af, nm, vl⟩ : Pa) = true ∧ aftP (⟨1, k, pa, af, nm, vl⟩ : Pa) = true := by simpa only [Bool.and_eq_true] using hpl
      clear hpl
      have en : namP (⟨1, k, pa, af, nm, vl⟩ : Pa) = noT nm := by unfold namP; rw [show fN (⟨1, k, pa, af, nm, vl⟩ : Pa).kd = false from (by decide : fN 1 = false)]; simp
      cases hnm : noT nm with
      | false =>
        have hq3 : (nm.toList == []) = false := hnm
        have hq4 : (!(nm.toList == [])) = true := by rw [hq3]; rfl
        have hv : chkP (⟨1, k, pa, af, nm, vl⟩ : Pa) = 8 := by unfold chkP; rw [if_neg (fun e => e hk), if_neg (by rw [ek2, hpr, har]; simp), if_pos (en.trans hnm)]
        rw [hv]
        clear hv
        show Calls Try.prog 9 #[.agg #[.int .i64 1, .int .i64 k.1, .int .i64 k.2, .int .i64 pa.1, .int .i64 pa.2, .int .i64 af.1, .int .i64 af.2, .string nm, .string vl]] w _
        obtain ⟨b0, b1, b2, b3, b4, b5, b6, b7, b8⟩ := row9 HK.out
        go_enter Try.func9, Try.ntmps9
        go_wp2_with (first | (go_at_call 27; refine (refRight_bel _ _ _).mono ?_; rintro e w1 ⟨rfl, hb⟩; rw [HR.out]; replace HB : Hid (Below w.heap.size w w1) := HB.out.trans (hb.mono HB.out.size); replace HK : Hid (w1.heap[w.heap.size]? = some (.cells #[.int .i64 1, .int .i64 k.1, .int .i64 k.2, .int .i64 pa.1, .int .i64 pa.2, .int .i64 af.1, .int .i64 af.2, .string nm, .string vl] 25)) := (hb.block _ (row_lt HK.out)).trans HK.out; clear hb b0 b1 b2 b3 b4 b5 b6 b7 b8; obtain ⟨b0, b1, b2, b3, b4, b5, b6, b7, b8⟩ := row9 HK.out) | (go_at_call 28; refine (refNode_any _ _ _).mono ?_; rintro e w2 ⟨rfl, hb⟩; rw [HN.out]; replace HB : Hid (Below w.heap.size w w2) := HB.out.trans (hb.mono HB.out.size); replace HK : Hid (w2.heap[w.heap.size]? = some (.cells #[.int .i64 1, .int .i64 k.1, .int .i64 k.2, .int .i64 pa.1, .int .i64 pa.2, .int .i64 af.1, .int .i64 af.2, .string nm, .string vl] 25)) := (hb.block _ (row_lt HK.out)).trans HK.out; clear hb b0 b1 b2 b3 b4 b5 b6 b7 b8; obtain ⟨b0, b1, b2, b3, b4, b5, b6, b7, b8⟩ := row9 HK.out) | (go_at_call 29; refine (places_any (⟨1, k, pa, af, nm, vl⟩ : Pa) _).mono ?_; rintro e w3 ⟨rfl, hb⟩; rw [HPl.out]; replace HB : Hid (Below w.heap.size w w3) := HB.out.trans (hb.mono HB.out.size); replace HK : Hid (w3.heap[w.heap.size]? = some (.cells #[.int .i64 1, .int .i64 k.1, .int .i64 k.2, .int .i64 pa.1, .int .i64 pa.2, .int .i64 af.1, .int .i64 af.2, .string nm, .string vl] 25)) := (hb.block _ (row_lt HK.out)).trans HK.out; clear hb b0 b1 b2 b3 b4 b5 b6 b7 b8; obtain ⟨b0, b1, b2, b3, b4, b5, b6, b7, b8⟩ := row9 HK.out))
        (try rw [Exit.noGoto_ret])
        go_ret
        exact ⟨rfl, HB.out⟩
      | true =>
        have hq3 : (nm.toList == []) = true := hnm
        have hq4 : (!(nm.toList == [])) = false := by rw [hq3]; rfl
        have en2 := en.trans hnm
        clear hnm en
        by_cases h0 : 256 < vl.size
        · have h1 : (256 : Int) < (vl.size : Int) := by omega
          have hv : chkP (⟨1, k, pa, af, nm, vl⟩ : Pa) = 3 := by unfold chkP; rw [if_neg (fun e => e hk), if_neg (by rw [ek2, hpr, har]; simp), if_neg (by rw [en2]; simp)]; unfold valP; exact if_pos h0
          rw [hv]
          clear hv
          show Calls Try.prog 9 #[.agg #[.int .i64 1, .int .i64 k.1, .int .i64 k.2, .int .i64 pa.1, .int .i64 pa.2, .int .i64 af.1, .int .i64 af.2, .string nm, .string vl]] w _
          obtain ⟨b0, b1, b2, b3, b4, b5, b6, b7, b8⟩ := row9 HK.out
          go_enter Try.func9, Try.ntmps9
          go_wp2_with (first | (go_at_call 27; refine (refRight_bel _ _ _).mono ?_; rintro e w1 ⟨rfl, hb⟩; rw [HR.out]; replace HB : Hid (Below w.heap.size w w1) := HB.out.trans (hb.mono HB.out.size); replace HK : Hid (w1.heap[w.heap.size]? = some (.cells #[.int .i64 1, .int .i64 k.1, .int .i64 k.2, .int .i64 pa.1, .int .i64 pa.2, .int .i64 af.1, .int .i64 af.2, .string nm, .string vl] 25)) := (hb.block _ (row_lt HK.out)).trans HK.out; clear hb b0 b1 b2 b3 b4 b5 b6 b7 b8; obtain ⟨b0, b1, b2, b3, b4, b5, b6, b7, b8⟩ := row9 HK.out) | (go_at_call 28; refine (refNode_any _ _ _).mono ?_; rintro e w2 ⟨rfl, hb⟩; rw [HN.out]; replace HB : Hid (Below w.heap.size w w2) := HB.out.trans (hb.mono HB.out.size); replace HK : Hid (w2.heap[w.heap.size]? = some (.cells #[.int .i64 1, .int .i64 k.1, .int .i64 k.2, .int .i64 pa.1, .int .i64 pa.2, .int .i64 af.1, .int .i64 af.2, .string nm, .string vl] 25)) := (hb.block _ (row_lt HK.out)).trans HK.out; clear hb b0 b1 b2 b3 b4 b5 b6 b7 b8; obtain ⟨b0, b1, b2, b3, b4, b5, b6, b7, b8⟩ := row9 HK.out) | (go_at_call 29; refine (places_any (⟨1, k, pa, af, nm, vl⟩ : Pa) _).mono ?_; rintro e w3 ⟨rfl, hb⟩; rw [HPl.out]; replace HB : Hid (Below w.heap.size w w3) := HB.out.trans (hb.mono HB.out.size); replace HK : Hid (w3.heap[w.heap.size]? = some (.cells #[.int .i64 1, .int .i64 k.1, .int .i64 k.2, .int .i64 pa.1, .int .i64 pa.2, .int .i64 af.1, .int .i64 af.2, .string nm, .string vl] 25)) := (hb.block _ (row_lt HK.out)).trans HK.out; clear hb b0 b1 b2 b3 b4 b5 b6 b7 b8; obtain ⟨b0, b1, b2, b3, b4, b5, b6, b7, b8⟩ := row9 HK.out))
          (try rw [Exit.noGoto_ret])
          go_ret
          exact ⟨rfl, HB.out⟩
        · have h1 : ¬ (256 : Int) < (vl.size : Int) := by omega
          cases hn : noT vl with
          | false =>
            have hq : (vl.toList == []) = false := hn
            have hq2 : (!(vl.toList == [])) = true := by rw [hq]; rfl
            have hv : chkP (⟨1, k, pa, af, nm, vl⟩ : Pa) = 2 := by unfold chkP; rw [if_neg (fun e => e hk), if_neg (by rw [ek2, hpr, har]; simp), if_neg (by rw [en2]; simp)]; unfold valP; exact (if_neg h0).trans (if_pos ⟨(by decide : fV 1 = false), hn⟩)
            rw [hv]
            clear hv
            show Calls Try.prog 9 #[.agg #[.int .i64 1, .int .i64 k.1, .int .i64 k.2, .int .i64 pa.1, .int .i64 pa.2, .int .i64 af.1, .int .i64 af.2, .string nm, .string vl]] w _
            obtain ⟨b0, b1, b2, b3, b4, b5, b6, b7, b8⟩ := row9 HK.out
            go_enter Try.func9, Try.ntmps9
            go_wp2_with (first | (go_at_call 27; refine (refRight_bel _ _ _).mono ?_; rintro e w1 ⟨rfl, hb⟩; rw [HR.out]; replace HB : Hid (Below w.heap.size w w1) := HB.out.trans (hb.mono HB.out.size); replace HK : Hid (w1.heap[w.heap.size]? = some (.cells #[.int .i64 1, .int .i64 k.1, .int .i64 k.2, .int .i64 pa.1, .int .i64 pa.2, .int .i64 af.1, .int .i64 af.2, .string nm, .string vl] 25)) := (hb.block _ (row_lt HK.out)).trans HK.out; clear hb b0 b1 b2 b3 b4 b5 b6 b7 b8; obtain ⟨b0, b1, b2, b3, b4, b5, b6, b7, b8⟩ := row9 HK.out) | (go_at_call 28; refine (refNode_any _ _ _).mono ?_; rintro e w2 ⟨rfl, hb⟩; rw [HN.out]; replace HB : Hid (Below w.heap.size w w2) := HB.out.trans (hb.mono HB.out.size); replace HK : Hid (w2.heap[w.heap.size]? = some (.cells #[.int .i64 1, .int .i64 k.1, .int .i64 k.2, .int .i64 pa.1, .int .i64 pa.2, .int .i64 af.1, .int .i64 af.2, .string nm, .string vl] 25)) := (hb.block _ (row_lt HK.out)).trans HK.out; clear hb b0 b1 b2 b3 b4 b5 b6 b7 b8; obtain ⟨b0, b1, b2, b3, b4, b5, b6, b7, b8⟩ := row9 HK.out) | (go_at_call 29; refine (places_any (⟨1, k, pa, af, nm, vl⟩ : Pa) _).mono ?_; rintro e w3 ⟨rfl, hb⟩; rw [HPl.out]; replace HB : Hid (Below w.heap.size w w3) := HB.out.trans (hb.mono HB.out.size); replace HK : Hid (w3.heap[w.heap.size]? = some (.cells #[.int .i64 1, .int .i64 k.1, .int .i64 k.2, .int .i64 pa.1, .int .i64 pa.2, .int .i64 af.1, .int .i64 af.2, .string nm, .string vl] 25)) := (hb.block _ (row_lt HK.out)).trans HK.out; clear hb b0 b1 b2 b3 b4 b5 b6 b7 b8; obtain ⟨b0, b1, b2, b3, b4, b5, b6, b7, b8⟩ := row9 HK.out))
            (try rw [Exit.noGoto_ret])
            go_ret
            exact ⟨rfl, HB.out⟩
          | true =>
            have hq : (vl.toList == []) = true := hn
            have hq2 : (!(vl.toList == [])) = false := by rw [hq]; rfl
            have hv : chkP (⟨1, k, pa, af, nm, vl⟩ : Pa) = 0 := by unfold chkP; rw [if_neg (fun e => e hk), if_neg (by rw [ek2, hpr, har]; simp), if_neg (by rw [en2]; simp)]; unfold valP; exact (if_neg h0).trans (if_neg (by rw [show noT (⟨1, k, pa, af, nm, vl⟩ : Pa).vl = true from hn]; simp))
            rw [hv]
            clear hv
            show Calls Try.prog 9 #[.agg #[.int .i64 1, .int .i64 k.1, .int .i64 k.2, .int .i64 pa.1, .int .i64 pa.2, .int .i64 af.1, .int .i64 af.2, .string nm, .string vl]] w _
            obtain ⟨b0, b1, b2, b3, b4, b5, b6, b7, b8⟩ := row9 HK.out
            go_enter Try.func9, Try.ntmps9
            go_wp2_with (first | (go_at_call 27; refine (refRight_bel _ _ _).mono ?_; rintro e w1 ⟨rfl, hb⟩; rw [HR.out]; replace HB : Hid (Below w.heap.size w w1) := HB.out.trans (hb.mono HB.out.size); replace HK : Hid (w1.heap[w.heap.size]? = some (.cells #[.int .i64 1, .int .i64 k.1, .int .i64 k.2, .int .i64 pa.1, .int .i64 pa.2, .int .i64 af.1, .int .i64 af.2, .string nm, .string vl] 25)) := (hb.block _ (row_lt HK.out)).trans HK.out; clear hb b0 b1 b2 b3 b4 b5 b6 b7 b8; obtain ⟨b0, b1, b2, b3, b4, b5, b6, b7, b8⟩ := row9 HK.out) | (go_at_call 28; refine (refNode_any _ _ _).mono ?_; rintro e w2 ⟨rfl, hb⟩; rw [HN.out]; replace HB : Hid (Below w.heap.size w w2) := HB.out.trans (hb.mono HB.out.size); replace HK : Hid (w2.heap[w.heap.size]? = some (.cells #[.int .i64 1, .int .i64 k.1, .int .i64 k.2, .int .i64 pa.1, .int .i64 pa.2, .int .i64 af.1, .int .i64 af.2, .string nm, .string vl] 25)) := (hb.block _ (row_lt HK.out)).trans HK.out; clear hb b0 b1 b2 b3 b4 b5 b6 b7 b8; obtain ⟨b0, b1, b2, b3, b4, b5, b6, b7, b8⟩ := row9 HK.out) | (go_at_call 29; refine (places_any (⟨1, k, pa, af, nm, vl⟩ : Pa) _).mono ?_; rintro e w3 ⟨rfl, hb⟩; rw [HPl.out]; replace HB : Hid (Below w.heap.size w w3) := HB.out.trans (hb.mono HB.out.size); replace HK : Hid (w3.heap[w.heap.size]? = some (.cells #[.int .i64 1, .int .i64 k.1, .int .i64 k.2, .int .i64 pa.1, .int .i64 pa.2, .int .i64 af.1, .int .i64 af.2, .string nm, .string vl] 25)) := (hb.block _ (row_lt HK.out)).trans HK.out; clear hb b0 b1 b2 b3 b4 b5 b6 b7 b8; obtain ⟨b0, b1, b2, b3, b4, b5, b6, b7, b8⟩ := row9 HK.out))
            (try rw [Exit.noGoto_ret])
            go_ret
            exact ⟨rfl, HB.out⟩

set_option maxRecDepth 100000 in
set_option maxHeartbeats 8000000 in
theorem refCheck_k2 (k pa af : St) (nm vl : ByteArray) (w : World) (hs : nm.size ≤ 281474976710656) : Calls Try.prog 9 #[.agg #[.int .i64 2, .int .i64 k.1, .int .i64 k.2, .int .i64 pa.1, .int .i64 pa.2, .int .i64 af.1, .int .i64 af.2, .string nm, .string vl]] w fun e w' => e = .returned (.int .i64 (chkP (⟨2, k, pa, af, nm, vl⟩ : Pa))) ∧ Below w.heap.size w w' := by
  have Hs := hide9 hs
  clear hs
  have HK : Hid ((w.alloc (.cells #[.int .i64 2, .int .i64 k.1, .int .i64 k.2, .int .i64 pa.1, .int .i64 pa.2, .int .i64 af.1, .int .i64 af.2, .string nm, .string vl] 25)).heap[w.heap.size]? = some (.cells #[.int .i64 2, .int .i64 k.1, .int .i64 k.2, .int .i64 pa.1, .int .i64 pa.2, .int .i64 af.1, .int .i64 af.2, .string nm, .string vl] 25)) := heap_alloc_new _ _
  have HB : Hid (Below w.heap.size w (w.alloc (.cells #[.int .i64 2, .int .i64 k.1, .int .i64 k.2, .int .i64 pa.1, .int .i64 pa.2, .int .i64 af.1, .int .i64 af.2, .string nm, .string vl] 25))) := (Below.refl _ _).alloc (Nat.le_refl _) _
  have hk : 1 ≤ (⟨2, k, pa, af, nm, vl⟩ : Pa).kd ∧ (⟨2, k, pa, af, nm, vl⟩ : Pa).kd ≤ 9 := ⟨by show (1 : Int) ≤ 2; decide, by show (2 : Int) ≤ 9; decide⟩
  have ek : keyP (⟨2, k, pa, af, nm, vl⟩ : Pa) = rightB k.1 k.2 := by unfold keyP; rw [if_neg (by show ¬ (6 : Int) ≤ 2; decide)]
  cases hky : rightB k.1 k.2 with
  | false =>
    have HR := hide9 hky
    have hv : chkP (⟨2, k, pa, af, nm, vl⟩ : Pa) = 2 := by unfold chkP; rw [if_neg (fun e => e hk), if_pos (.inl (ek.trans hky))]
    rw [hv]
    clear hv
    show Calls Try.prog 9 #[.agg #[.int .i64 2, .int .i64 k.1, .int .i64 k.2, .int .i64 pa.1, .int .i64 pa.2, .int .i64 af.1, .int .i64 af.2, .string nm, .string vl]] w _
    obtain ⟨b0, b1, b2, b3, b4, b5, b6, b7, b8⟩ := row9 HK.out
    go_enter Try.func9, Try.ntmps9
    go_wp2_with (first | (go_at_call 27; refine (refRight_bel _ _ _).mono ?_; rintro e w1 ⟨rfl, hb⟩; rw [HR.out]; replace HB : Hid (Below w.heap.size w w1) := HB.out.trans (hb.mono HB.out.size); replace HK : Hid (w1.heap[w.heap.size]? = some (.cells #[.int .i64 2, .int .i64 k.1, .int .i64 k.2, .int .i64 pa.1, .int .i64 pa.2, .int .i64 af.1, .int .i64 af.2, .string nm, .string vl] 25)) := (hb.block _ (row_lt HK.out)).trans HK.out; clear hb b0 b1 b2 b3 b4 b5 b6 b7 b8; obtain ⟨b0, b1, b2, b3, b4, b5, b6, b7, b8⟩ := row9 HK.out))
    (try rw [Exit.noGoto_ret])
    go_ret
    exact ⟨rfl, HB.out⟩
  | true =>
    have HR := hide9 hky
    have HN := hide9 (node_of_right hky)
    have ek2 := ek.trans hky
    clear hky ek
    cases hpl : parP (⟨2, k, pa, af, nm, vl⟩ : Pa) && aftP (⟨2, k, pa, af, nm, vl⟩ : Pa) with
    | false =>
      have HPl := hide9 hpl
      have hv : chkP (⟨2, k, pa, af, nm, vl⟩ : Pa) = 2 := by unfold chkP; rw [if_neg (fun e => e hk), if_pos (.inr (by simpa only [Bool.and_eq_false_iff] using hpl))]
      rw [hv]
      clear hv
      show Calls Try.prog 9 #[.agg #[.int .i64 2, .int .i64 k.1, .int .i64 k.2, .int .i64 pa.1, .int .i64 pa.2, .int .i64 af.1, .int .i64 af.2, .string nm, .string vl]] w _
      obtain ⟨b0, b1, b2, b3, b4, b5, b6, b7, b8⟩ := row9 HK.out
      go_enter Try.func9, Try.ntmps9
      go_wp2_with (first | (go_at_call 27; refine (refRight_bel _ _ _).mono ?_; rintro e w1 ⟨rfl, hb⟩; rw [HR.out]; replace HB : Hid (Below w.heap.size w w1) := HB.out.trans (hb.mono HB.out.size); replace HK : Hid (w1.heap[w.heap.size]? = some (.cells #[.int .i64 2, .int .i64 k.1, .int .i64 k.2, .int .i64 pa.1, .int .i64 pa.2, .int .i64 af.1, .int .i64 af.2, .string nm, .string vl] 25)) := (hb.block _ (row_lt HK.out)).trans HK.out; clear hb b0 b1 b2 b3 b4 b5 b6 b7 b8; obtain ⟨b0, b1, b2, b3, b4, b5, b6, b7, b8⟩ := row9 HK.out) | (go_at_call 28; refine (refNode_any _ _ _).mono ?_; rintro e w2 ⟨rfl, hb⟩; rw [HN.out]; replace HB : Hid (Below w.heap.size w w2) := HB.out.trans (hb.mono HB.out.size); replace HK : Hid (w2.heap[w.heap.size]? = some (.cells #[.int .i64 2, .int .i64 k.1, .int .i64 k.2, .int .i64 pa.1, .int .i64 pa.2, .int .i64 af.1, .int .i64 af.2, .string nm, .string vl] 25)) := (hb.block _ (row_lt HK.out)).trans HK.out; clear hb b0 b1 b2 b3 b4 b5 b6 b7 b8; obtain ⟨b0, b1, b2, b3, b4, b5, b6, b7, b8⟩ := row9 HK.out) | (go_at_call 29; refine (places_any (⟨2, k, pa, af, nm, vl⟩ : Pa) _).mono ?_; rintro e w3 ⟨rfl, hb⟩; rw [HPl.out]; replace HB : Hid (Below w.heap.size w w3) := HB.out.trans (hb.mono HB.out.size); replace HK : Hid (w3.heap[w.heap.size]? = some (.cells #[.int .i64 2, .int .i64 k.1, .int .i64 k.2, .int .i64 pa.1, .int .i64 pa.2, .int .i64 af.1, .int .i64 af.2, .string nm, .string vl] 25)) := (hb.block _ (row_lt HK.out)).trans HK.out; clear hb b0 b1 b2 b3 b4 b5 b6 b7 b8; obtain ⟨b0, b1, b2, b3, b4, b5, b6, b7, b8⟩ := row9 HK.out))
      (try rw [Exit.noGoto_ret])
      go_ret
      exact ⟨rfl, HB.out⟩
    | true =>
      have HPl := hide9 hpl
      obtain ⟨hpr, har⟩ : parP (⟨2, k, pa, af, nm, vl⟩ : Pa) = true ∧ aftP (⟨2, k, pa, af, nm, vl⟩ : Pa) = true := by simpa only [Bool.and_eq_true] using hpl
      clear hpl
      have en : namP (⟨2, k, pa, af, nm, vl⟩ : Pa) = noT nm := by unfold namP; rw [show fN (⟨2, k, pa, af, nm, vl⟩ : Pa).kd = false from (by decide : fN 2 = false)]; simp
      cases hnm : noT nm with
      | false =>
        have hq3 : (nm.toList == []) = false := hnm
        have hq4 : (!(nm.toList == [])) = true := by rw [hq3]; rfl
        have hv : chkP (⟨2, k, pa, af, nm, vl⟩ : Pa) = 8 := by unfold chkP; rw [if_neg (fun e => e hk), if_neg (by rw [ek2, hpr, har]; simp), if_pos (en.trans hnm)]
        rw [hv]
        clear hv
        show Calls Try.prog 9 #[.agg #[.int .i64 2, .int .i64 k.1, .int .i64 k.2, .int .i64 pa.1, .int .i64 pa.2, .int .i64 af.1, .int .i64 af.2, .string nm, .string vl]] w _
        obtain ⟨b0, b1, b2, b3, b4, b5, b6, b7, b8⟩ := row9 HK.out
        go_enter Try.func9, Try.ntmps9
        go_wp2_with (first | (go_at_call 27; refine (refRight_bel _ _ _).mono ?_; rintro e w1 ⟨rfl, hb⟩; rw [HR.out]; replace HB : Hid (Below w.heap.size w w1) := HB.out.trans (hb.mono HB.out.size); replace HK : Hid (w1.heap[w.heap.size]? = some (.cells #[.int .i64 2, .int .i64 k.1, .int .i64 k.2, .int .i64 pa.1, .int .i64 pa.2, .int .i64 af.1, .int .i64 af.2, .string nm, .string vl] 25)) := (hb.block _ (row_lt HK.out)).trans HK.out; clear hb b0 b1 b2 b3 b4 b5 b6 b7 b8; obtain ⟨b0, b1, b2, b3, b4, b5, b6, b7, b8⟩ := row9 HK.out) | (go_at_call 28; refine (refNode_any _ _ _).mono ?_; rintro e w2 ⟨rfl, hb⟩; rw [HN.out]; replace HB : Hid (Below w.heap.size w w2) := HB.out.trans (hb.mono HB.out.size); replace HK : Hid (w2.heap[w.heap.size]? = some (.cells #[.int .i64 2, .int .i64 k.1, .int .i64 k.2, .int .i64 pa.1, .int .i64 pa.2, .int .i64 af.1, .int .i64 af.2, .string nm, .string vl] 25)) := (hb.block _ (row_lt HK.out)).trans HK.out; clear hb b0 b1 b2 b3 b4 b5 b6 b7 b8; obtain ⟨b0, b1, b2, b3, b4, b5, b6, b7, b8⟩ := row9 HK.out) | (go_at_call 29; refine (places_any (⟨2, k, pa, af, nm, vl⟩ : Pa) _).mono ?_; rintro e w3 ⟨rfl, hb⟩; rw [HPl.out]; replace HB : Hid (Below w.heap.size w w3) := HB.out.trans (hb.mono HB.out.size); replace HK : Hid (w3.heap[w.heap.size]? = some (.cells #[.int .i64 2, .int .i64 k.1, .int .i64 k.2, .int .i64 pa.1, .int .i64 pa.2, .int .i64 af.1, .int .i64 af.2, .string nm, .string vl] 25)) := (hb.block _ (row_lt HK.out)).trans HK.out; clear hb b0 b1 b2 b3 b4 b5 b6 b7 b8; obtain ⟨b0, b1, b2, b3, b4, b5, b6, b7, b8⟩ := row9 HK.out))
        (try rw [Exit.noGoto_ret])
        go_ret
        exact ⟨rfl, HB.out⟩
      | true =>
        have hq3 : (nm.toList == []) = true := hnm
        have hq4 : (!(nm.toList == [])) = false := by rw [hq3]; rfl
        have en2 := en.trans hnm
        clear hnm en
        by_cases h0 : 256 < vl.size
        · have h1 : (256 : Int) < (vl.size : Int) := by omega
          have hv : chkP (⟨2, k, pa, af, nm, vl⟩ : Pa) = 3 := by unfold chkP; rw [if_neg (fun e => e hk), if_neg (by rw [ek2, hpr, har]; simp), if_neg (by rw [en2]; simp)]; unfold valP; exact if_pos h0
          rw [hv]
          clear hv
          show Calls Try.prog 9 #[.agg #[.int .i64 2, .int .i64 k.1, .int .i64 k.2, .int .i64 pa.1, .int .i64 pa.2, .int .i64 af.1, .int .i64 af.2, .string nm, .string vl]] w _
          obtain ⟨b0, b1, b2, b3, b4, b5, b6, b7, b8⟩ := row9 HK.out
          go_enter Try.func9, Try.ntmps9
          go_wp2_with (first | (go_at_call 27; refine (refRight_bel _ _ _).mono ?_; rintro e w1 ⟨rfl, hb⟩; rw [HR.out]; replace HB : Hid (Below w.heap.size w w1) := HB.out.trans (hb.mono HB.out.size); replace HK : Hid (w1.heap[w.heap.size]? = some (.cells #[.int .i64 2, .int .i64 k.1, .int .i64 k.2, .int .i64 pa.1, .int .i64 pa.2, .int .i64 af.1, .int .i64 af.2, .string nm, .string vl] 25)) := (hb.block _ (row_lt HK.out)).trans HK.out; clear hb b0 b1 b2 b3 b4 b5 b6 b7 b8; obtain ⟨b0, b1, b2, b3, b4, b5, b6, b7, b8⟩ := row9 HK.out) | (go_at_call 28; refine (refNode_any _ _ _).mono ?_; rintro e w2 ⟨rfl, hb⟩; rw [HN.out]; replace HB : Hid (Below w.heap.size w w2) := HB.out.trans (hb.mono HB.out.size); replace HK : Hid (w2.heap[w.heap.size]? = some (.cells #[.int .i64 2, .int .i64 k.1, .int .i64 k.2, .int .i64 pa.1, .int .i64 pa.2, .int .i64 af.1, .int .i64 af.2, .string nm, .string vl] 25)) := (hb.block _ (row_lt HK.out)).trans HK.out; clear hb b0 b1 b2 b3 b4 b5 b6 b7 b8; obtain ⟨b0, b1, b2, b3, b4, b5, b6, b7, b8⟩ := row9 HK.out) | (go_at_call 29; refine (places_any (⟨2, k, pa, af, nm, vl⟩ : Pa) _).mono ?_; rintro e w3 ⟨rfl, hb⟩; rw [HPl.out]; replace HB : Hid (Below w.heap.size w w3) := HB.out.trans (hb.mono HB.out.size); replace HK : Hid (w3.heap[w.heap.size]? = some (.cells #[.int .i64 2, .int .i64 k.1, .int .i64 k.2, .int .i64 pa.1, .int .i64 pa.2, .int .i64 af.1, .int .i64 af.2, .string nm, .string vl] 25)) := (hb.block _ (row_lt HK.out)).trans HK.out; clear hb b0 b1 b2 b3 b4 b5 b6 b7 b8; obtain ⟨b0, b1, b2, b3, b4, b5, b6, b7, b8⟩ := row9 HK.out))
          (try rw [Exit.noGoto_ret])
          go_ret
          exact ⟨rfl, HB.out⟩
        · have h1 : ¬ (256 : Int) < (vl.size : Int) := by omega
          cases hn : noT vl with
          | false =>
            have hq : (vl.toList == []) = false := hn
            have hq2 : (!(vl.toList == [])) = true := by rw [hq]; rfl
            have hv : chkP (⟨2, k, pa, af, nm, vl⟩ : Pa) = 2 := by unfold chkP; rw [if_neg (fun e => e hk), if_neg (by rw [ek2, hpr, har]; simp), if_neg (by rw [en2]; simp)]; unfold valP; exact (if_neg h0).trans (if_pos ⟨(by decide : fV 2 = false), hn⟩)
            rw [hv]
            clear hv
            show Calls Try.prog 9 #[.agg #[.int .i64 2, .int .i64 k.1, .int .i64 k.2, .int .i64 pa.1, .int .i64 pa.2, .int .i64 af.1, .int .i64 af.2, .string nm, .string vl]] w _
            obtain ⟨b0, b1, b2, b3, b4, b5, b6, b7, b8⟩ := row9 HK.out
            go_enter Try.func9, Try.ntmps9
            go_wp2_with (first | (go_at_call 27; refine (refRight_bel _ _ _).mono ?_; rintro e w1 ⟨rfl, hb⟩; rw [HR.out]; replace HB : Hid (Below w.heap.size w w1) := HB.out.trans (hb.mono HB.out.size); replace HK : Hid (w1.heap[w.heap.size]? = some (.cells #[.int .i64 2, .int .i64 k.1, .int .i64 k.2, .int .i64 pa.1, .int .i64 pa.2, .int .i64 af.1, .int .i64 af.2, .string nm, .string vl] 25)) := (hb.block _ (row_lt HK.out)).trans HK.out; clear hb b0 b1 b2 b3 b4 b5 b6 b7 b8; obtain ⟨b0, b1, b2, b3, b4, b5, b6, b7, b8⟩ := row9 HK.out) | (go_at_call 28; refine (refNode_any _ _ _).mono ?_; rintro e w2 ⟨rfl, hb⟩; rw [HN.out]; replace HB : Hid (Below w.heap.size w w2) := HB.out.trans (hb.mono HB.out.size); replace HK : Hid (w2.heap[w.heap.size]? = some (.cells #[.int .i64 2, .int .i64 k.1, .int .i64 k.2, .int .i64 pa.1, .int .i64 pa.2, .int .i64 af.1, .int .i64 af.2, .string nm, .string vl] 25)) := (hb.block _ (row_lt HK.out)).trans HK.out; clear hb b0 b1 b2 b3 b4 b5 b6 b7 b8; obtain ⟨b0, b1, b2, b3, b4, b5, b6, b7, b8⟩ := row9 HK.out) | (go_at_call 29; refine (places_any (⟨2, k, pa, af, nm, vl⟩ : Pa) _).mono ?_; rintro e w3 ⟨rfl, hb⟩; rw [HPl.out]; replace HB : Hid (Below w.heap.size w w3) := HB.out.trans (hb.mono HB.out.size); replace HK : Hid (w3.heap[w.heap.size]? = some (.cells #[.int .i64 2, .int .i64 k.1, .int .i64 k.2, .int .i64 pa.1, .int .i64 pa.2, .int .i64 af.1, .int .i64 af.2, .string nm, .string vl] 25)) := (hb.block _ (row_lt HK.out)).trans HK.out; clear hb b0 b1 b2 b3 b4 b5 b6 b7 b8; obtain ⟨b0, b1, b2, b3, b4, b5, b6, b7, b8⟩ := row9 HK.out))
            (try rw [Exit.noGoto_ret])
            go_ret
            exact ⟨rfl, HB.out⟩
          | true =>
            have hq : (vl.toList == []) = true := hn
            have hq2 : (!(vl.toList == [])) = false := by rw [hq]; rfl
            have hv : chkP (⟨2, k, pa, af, nm, vl⟩ : Pa) = 0 := by unfold chkP; rw [if_neg (fun e => e hk), if_neg (by rw [ek2, hpr, har]; simp), if_neg (by rw [en2]; simp)]; unfold valP; exact (if_neg h0).trans (if_neg (by rw [show noT (⟨2, k, pa, af, nm, vl⟩ : Pa).vl = true from hn]; simp))
            rw [hv]
            clear hv
            show Calls Try.prog 9 #[.agg #[.int .i64 2, .int .i64 k.1, .int .i64 k.2, .int .i64 pa.1, .int .i64 pa.2, .int .i64 af.1, .int .i64 af.2, .string nm, .string vl]] w _
            obtain ⟨b0, b1, b2, b3, b4, b5, b6, b7, b8⟩ := row9 HK.out
            go_enter Try.func9, Try.ntmps9
            go_wp2_with (first | (go_at_call 27; refine (refRight_bel _ _ _).mono ?_; rintro e w1 ⟨rfl, hb⟩; rw [HR.out]; replace HB : Hid (Below w.heap.size w w1) := HB.out.trans (hb.mono HB.out.size); replace HK : Hid (w1.heap[w.heap.size]? = some (.cells #[.int .i64 2, .int .i64 k.1, .int .i64 k.2, .int .i64 pa.1, .int .i64 pa.2, .int .i64 af.1, .int .i64 af.2, .string nm, .string vl] 25)) := (hb.block _ (row_lt HK.out)).trans HK.out; clear hb b0 b1 b2 b3 b4 b5 b6 b7 b8; obtain ⟨b0, b1, b2, b3, b4, b5, b6, b7, b8⟩ := row9 HK.out) | (go_at_call 28; refine (refNode_any _ _ _).mono ?_; rintro e w2 ⟨rfl, hb⟩; rw [HN.out]; replace HB : Hid (Below w.heap.size w w2) := HB.out.trans (hb.mono HB.out.size); replace HK : Hid (w2.heap[w.heap.size]? = some (.cells #[.int .i64 2, .int .i64 k.1, .int .i64 k.2, .int .i64 pa.1, .int .i64 pa.2, .int .i64 af.1, .int .i64 af.2, .string nm, .string vl] 25)) := (hb.block _ (row_lt HK.out)).trans HK.out; clear hb b0 b1 b2 b3 b4 b5 b6 b7 b8; obtain ⟨b0, b1, b2, b3, b4, b5, b6, b7, b8⟩ := row9 HK.out) | (go_at_call 29; refine (places_any (⟨2, k, pa, af, nm, vl⟩ : Pa) _).mono ?_; rintro e w3 ⟨rfl, hb⟩; rw [HPl.out]; replace HB : Hid (Below w.heap.size w w3) := HB.out.trans (hb.mono HB.out.size); replace HK : Hid (w3.heap[w.heap.size]? = some (.cells #[.int .i64 2, .int .i64 k.1, .int .i64 k.2, .int .i64 pa.1, .int .i64 pa.2, .int .i64 af.1, .int .i64 af.2, .string nm, .string vl] 25)) := (hb.block _ (row_lt HK.out)).trans HK.out; clear hb b0 b1 b2 b3 b4 b5 b6 b7 b8; obtain ⟨b0, b1, b2, b3, b4, b5, b6, b7, b8⟩ := row9 HK.out))
            (try rw [Exit.noGoto_ret])
            go_ret
            exact ⟨rfl, HB.out⟩

set_option maxRecDepth 100000 in
set_option maxHeartbeats 8000000 in
theorem refCheck_k3 (k pa af : St) (nm vl : ByteArray) (w : World) (hs : nm.size ≤ 281474976710656) : Calls Try.prog 9 #[.agg #[.int .i64 3, .int .i64 k.1, .int .i64 k.2, .int .i64 pa.1, .int .i64 pa.2, .int .i64 af.1, .int .i64 af.2, .string nm, .string vl]] w fun e w' => e = .returned (.int .i64 (chkP (⟨3, k, pa, af, nm, vl⟩ : Pa))) ∧ Below w.heap.size w w' := by
  have Hs := hide9 hs
  clear hs
  have HK : Hid ((w.alloc (.cells #[.int .i64 3, .int .i64 k.1, .int .i64 k.2, .int .i64 pa.1, .int .i64 pa.2, .int .i64 af.1, .int .i64 af.2, .string nm, .string vl] 25)).heap[w.heap.size]? = some (.cells #[.int .i64 3, .int .i64 k.1, .int .i64 k.2, .int .i64 pa.1, .int .i64 pa.2, .int .i64 af.1, .int .i64 af.2, .string nm, .string vl] 25)) := heap_alloc_new _ _
  have HB : Hid (Below w.heap.size w (w.alloc (.cells #[.int .i64 3, .int .i64 k.1, .int .i64 k.2, .int .i64 pa.1, .int .i64 pa.2, .int .i64 af.1, .int .i64 af.2, .string nm, .string vl] 25))) := (Below.refl _ _).alloc (Nat.le_refl _) _
  have hk : 1 ≤ (⟨3, k, pa, af, nm, vl⟩ : Pa).kd ∧ (⟨3, k, pa, af, nm, vl⟩ : Pa).kd ≤ 9 := ⟨by show (1 : Int) ≤ 3; decide, by show (3 : Int) ≤ 9; decide⟩
  have ek : keyP (⟨3, k, pa, af, nm, vl⟩ : Pa) = rightB k.1 k.2 := by unfold keyP; rw [if_neg (by show ¬ (6 : Int) ≤ 3; decide)]
  cases hky : rightB k.1 k.2 with
  | false =>
    have HR := hide9 hky
    have hv : chkP (⟨3, k, pa, af, nm, vl⟩ : Pa) = 2 := by unfold chkP; rw [if_neg (fun e => e hk), if_pos (.inl (ek.trans hky))]
    rw [hv]
    clear hv
    show Calls Try.prog 9 #[.agg #[.int .i64 3, .int .i64 k.1, .int .i64 k.2, .int .i64 pa.1, .int .i64 pa.2, .int .i64 af.1, .int .i64 af.2, .string nm, .string vl]] w _
    obtain ⟨b0, b1, b2, b3, b4, b5, b6, b7, b8⟩ := row9 HK.out
    go_enter Try.func9, Try.ntmps9
    go_wp2_with (first | (go_at_call 27; refine (refRight_bel _ _ _).mono ?_; rintro e w1 ⟨rfl, hb⟩; rw [HR.out]; replace HB : Hid (Below w.heap.size w w1) := HB.out.trans (hb.mono HB.out.size); replace HK : Hid (w1.heap[w.heap.size]? = some (.cells #[.int .i64 3, .int .i64 k.1, .int .i64 k.2, .int .i64 pa.1, .int .i64 pa.2, .int .i64 af.1, .int .i64 af.2, .string nm, .string vl] 25)) := (hb.block _ (row_lt HK.out)).trans HK.out; clear hb b0 b1 b2 b3 b4 b5 b6 b7 b8; obtain ⟨b0, b1, b2, b3, b4, b5, b6, b7, b8⟩ := row9 HK.out))
    (try rw [Exit.noGoto_ret])
    go_ret
    exact ⟨rfl, HB.out⟩
  | true =>
    have HR := hide9 hky
    have HN := hide9 (node_of_right hky)
    have ek2 := ek.trans hky
    clear hky ek
    cases hpl : parP (⟨3, k, pa, af, nm, vl⟩ : Pa) && aftP (⟨3, k, pa, af, nm, vl⟩ : Pa) with
    | false =>
      have HPl := hide9 hpl
      have hv : chkP (⟨3, k, pa, af, nm, vl⟩ : Pa) = 2 := by unfold chkP; rw [if_neg (fun e => e hk), if_pos (.inr (by simpa only [Bool.and_eq_false_iff] using hpl))]
      rw [hv]
      clear hv
      show Calls Try.prog 9 #[.agg #[.int .i64 3, .int .i64 k.1, .int .i64 k.2, .int .i64 pa.1, .int .i64 pa.2, .int .i64 af.1, .int .i64 af.2, .string nm, .string vl]] w _
      obtain ⟨b0, b1, b2, b3, b4, b5, b6, b7, b8⟩ := row9 HK.out
      go_enter Try.func9, Try.ntmps9
      go_wp2_with (first | (go_at_call 27; refine (refRight_bel _ _ _).mono ?_; rintro e w1 ⟨rfl, hb⟩; rw [HR.out]; replace HB : Hid (Below w.heap.size w w1) := HB.out.trans (hb.mono HB.out.size); replace HK : Hid (w1.heap[w.heap.size]? = some (.cells #[.int .i64 3, .int .i64 k.1, .int .i64 k.2, .int .i64 pa.1, .int .i64 pa.2, .int .i64 af.1, .int .i64 af.2, .string nm, .string vl] 25)) := (hb.block _ (row_lt HK.out)).trans HK.out; clear hb b0 b1 b2 b3 b4 b5 b6 b7 b8; obtain ⟨b0, b1, b2, b3, b4, b5, b6, b7, b8⟩ := row9 HK.out) | (go_at_call 28; refine (refNode_any _ _ _).mono ?_; rintro e w2 ⟨rfl, hb⟩; rw [HN.out]; replace HB : Hid (Below w.heap.size w w2) := HB.out.trans (hb.mono HB.out.size); replace HK : Hid (w2.heap[w.heap.size]? = some (.cells #[.int .i64 3, .int .i64 k.1, .int .i64 k.2, .int .i64 pa.1, .int .i64 pa.2, .int .i64 af.1, .int .i64 af.2, .string nm, .string vl] 25)) := (hb.block _ (row_lt HK.out)).trans HK.out; clear hb b0 b1 b2 b3 b4 b5 b6 b7 b8; obtain ⟨b0, b1, b2, b3, b4, b5, b6, b7, b8⟩ := row9 HK.out) | (go_at_call 29; refine (places_any (⟨3, k, pa, af, nm, vl⟩ : Pa) _).mono ?_; rintro e w3 ⟨rfl, hb⟩; rw [HPl.out]; replace HB : Hid (Below w.heap.size w w3) := HB.out.trans (hb.mono HB.out.size); replace HK : Hid (w3.heap[w.heap.size]? = some (.cells #[.int .i64 3, .int .i64 k.1, .int .i64 k.2, .int .i64 pa.1, .int .i64 pa.2, .int .i64 af.1, .int .i64 af.2, .string nm, .string vl] 25)) := (hb.block _ (row_lt HK.out)).trans HK.out; clear hb b0 b1 b2 b3 b4 b5 b6 b7 b8; obtain ⟨b0, b1, b2, b3, b4, b5, b6, b7, b8⟩ := row9 HK.out))
      (try rw [Exit.noGoto_ret])
      go_ret
      exact ⟨rfl, HB.out⟩
    | true =>
      have HPl := hide9 hpl
      obtain ⟨hpr, har⟩ : parP (⟨3, k, pa, af, nm, vl⟩ : Pa) = true ∧ aftP (⟨3, k, pa, af, nm, vl⟩ : Pa) = true := by simpa only [Bool.and_eq_true] using hpl
      clear hpl
      have en : namP (⟨3, k, pa, af, nm, vl⟩ : Pa) = nameL (txL nm) := by unfold namP; rw [show fN (⟨3, k, pa, af, nm, vl⟩ : Pa).kd = true from (by decide : fN 3 = true)]; simp
      cases hnm : nameL (txL nm) with
      | false =>
        have HNm : Hid (nameL nm.data.toList = false) := hide9 (show nameL nm.data.toList = false from hnm)
        have hv : chkP (⟨3, k, pa, af, nm, vl⟩ : Pa) = 8 := by unfold chkP; rw [if_neg (fun e => e hk), if_neg (by rw [ek2, hpr, har]; simp), if_pos (en.trans hnm)]
        rw [hv]
        clear hv
        show Calls Try.prog 9 #[.agg #[.int .i64 3, .int .i64 k.1, .int .i64 k.2, .int .i64 pa.1, .int .i64 pa.2, .int .i64 af.1, .int .i64 af.2, .string nm, .string vl]] w _
        obtain ⟨b0, b1, b2, b3, b4, b5, b6, b7, b8⟩ := row9 HK.out
        go_enter Try.func9, Try.ntmps9
        go_wp2_with (first | (go_at_call 27; refine (refRight_bel _ _ _).mono ?_; rintro e w1 ⟨rfl, hb⟩; rw [HR.out]; replace HB : Hid (Below w.heap.size w w1) := HB.out.trans (hb.mono HB.out.size); replace HK : Hid (w1.heap[w.heap.size]? = some (.cells #[.int .i64 3, .int .i64 k.1, .int .i64 k.2, .int .i64 pa.1, .int .i64 pa.2, .int .i64 af.1, .int .i64 af.2, .string nm, .string vl] 25)) := (hb.block _ (row_lt HK.out)).trans HK.out; clear hb b0 b1 b2 b3 b4 b5 b6 b7 b8; obtain ⟨b0, b1, b2, b3, b4, b5, b6, b7, b8⟩ := row9 HK.out) | (go_at_call 28; refine (refNode_any _ _ _).mono ?_; rintro e w2 ⟨rfl, hb⟩; rw [HN.out]; replace HB : Hid (Below w.heap.size w w2) := HB.out.trans (hb.mono HB.out.size); replace HK : Hid (w2.heap[w.heap.size]? = some (.cells #[.int .i64 3, .int .i64 k.1, .int .i64 k.2, .int .i64 pa.1, .int .i64 pa.2, .int .i64 af.1, .int .i64 af.2, .string nm, .string vl] 25)) := (hb.block _ (row_lt HK.out)).trans HK.out; clear hb b0 b1 b2 b3 b4 b5 b6 b7 b8; obtain ⟨b0, b1, b2, b3, b4, b5, b6, b7, b8⟩ := row9 HK.out) | (go_at_call 29; refine (places_any (⟨3, k, pa, af, nm, vl⟩ : Pa) _).mono ?_; rintro e w3 ⟨rfl, hb⟩; rw [HPl.out]; replace HB : Hid (Below w.heap.size w w3) := HB.out.trans (hb.mono HB.out.size); replace HK : Hid (w3.heap[w.heap.size]? = some (.cells #[.int .i64 3, .int .i64 k.1, .int .i64 k.2, .int .i64 pa.1, .int .i64 pa.2, .int .i64 af.1, .int .i64 af.2, .string nm, .string vl] 25)) := (hb.block _ (row_lt HK.out)).trans HK.out; clear hb b0 b1 b2 b3 b4 b5 b6 b7 b8; obtain ⟨b0, b1, b2, b3, b4, b5, b6, b7, b8⟩ := row9 HK.out) | (go_at_call 30; refine (refName_any _ Hs.out _).mono ?_; rintro e w4 ⟨rfl, rfl⟩; rw [HNm.out]))
        (try rw [Exit.noGoto_ret])
        go_ret
        exact ⟨rfl, HB.out⟩
      | true =>
        have HNm : Hid (nameL nm.data.toList = true) := hide9 (show nameL nm.data.toList = true from hnm)
        have en2 := en.trans hnm
        clear hnm en
        by_cases h0 : 256 < vl.size
        · have h1 : (256 : Int) < (vl.size : Int) := by omega
          have hv : chkP (⟨3, k, pa, af, nm, vl⟩ : Pa) = 3 := by unfold chkP; rw [if_neg (fun e => e hk), if_neg (by rw [ek2, hpr, har]; simp), if_neg (by rw [en2]; simp)]; unfold valP; exact if_pos h0
          rw [hv]
          clear hv
          show Calls Try.prog 9 #[.agg #[.int .i64 3, .int .i64 k.1, .int .i64 k.2, .int .i64 pa.1, .int .i64 pa.2, .int .i64 af.1, .int .i64 af.2, .string nm, .string vl]] w _
          obtain ⟨b0, b1, b2, b3, b4, b5, b6, b7, b8⟩ := row9 HK.out
          go_enter Try.func9, Try.ntmps9
          go_wp2_with (first | (go_at_call 27; refine (refRight_bel _ _ _).mono ?_; rintro e w1 ⟨rfl, hb⟩; rw [HR.out]; replace HB : Hid (Below w.heap.size w w1) := HB.out.trans (hb.mono HB.out.size); replace HK : Hid (w1.heap[w.heap.size]? = some (.cells #[.int .i64 3, .int .i64 k.1, .int .i64 k.2, .int .i64 pa.1, .int .i64 pa.2, .int .i64 af.1, .int .i64 af.2, .string nm, .string vl] 25)) := (hb.block _ (row_lt HK.out)).trans HK.out; clear hb b0 b1 b2 b3 b4 b5 b6 b7 b8; obtain ⟨b0, b1, b2, b3, b4, b5, b6, b7, b8⟩ := row9 HK.out) | (go_at_call 28; refine (refNode_any _ _ _).mono ?_; rintro e w2 ⟨rfl, hb⟩; rw [HN.out]; replace HB : Hid (Below w.heap.size w w2) := HB.out.trans (hb.mono HB.out.size); replace HK : Hid (w2.heap[w.heap.size]? = some (.cells #[.int .i64 3, .int .i64 k.1, .int .i64 k.2, .int .i64 pa.1, .int .i64 pa.2, .int .i64 af.1, .int .i64 af.2, .string nm, .string vl] 25)) := (hb.block _ (row_lt HK.out)).trans HK.out; clear hb b0 b1 b2 b3 b4 b5 b6 b7 b8; obtain ⟨b0, b1, b2, b3, b4, b5, b6, b7, b8⟩ := row9 HK.out) | (go_at_call 29; refine (places_any (⟨3, k, pa, af, nm, vl⟩ : Pa) _).mono ?_; rintro e w3 ⟨rfl, hb⟩; rw [HPl.out]; replace HB : Hid (Below w.heap.size w w3) := HB.out.trans (hb.mono HB.out.size); replace HK : Hid (w3.heap[w.heap.size]? = some (.cells #[.int .i64 3, .int .i64 k.1, .int .i64 k.2, .int .i64 pa.1, .int .i64 pa.2, .int .i64 af.1, .int .i64 af.2, .string nm, .string vl] 25)) := (hb.block _ (row_lt HK.out)).trans HK.out; clear hb b0 b1 b2 b3 b4 b5 b6 b7 b8; obtain ⟨b0, b1, b2, b3, b4, b5, b6, b7, b8⟩ := row9 HK.out) | (go_at_call 30; refine (refName_any _ Hs.out _).mono ?_; rintro e w4 ⟨rfl, rfl⟩; rw [HNm.out]))
          (try rw [Exit.noGoto_ret])
          go_ret
          exact ⟨rfl, HB.out⟩
        · have h1 : ¬ (256 : Int) < (vl.size : Int) := by omega
          cases hn : noT vl with
          | false =>
            have hq : (vl.toList == []) = false := hn
            have hq2 : (!(vl.toList == [])) = true := by rw [hq]; rfl
            have hv : chkP (⟨3, k, pa, af, nm, vl⟩ : Pa) = 2 := by unfold chkP; rw [if_neg (fun e => e hk), if_neg (by rw [ek2, hpr, har]; simp), if_neg (by rw [en2]; simp)]; unfold valP; exact (if_neg h0).trans (if_pos ⟨(by decide : fV 3 = false), hn⟩)
            rw [hv]
            clear hv
            show Calls Try.prog 9 #[.agg #[.int .i64 3, .int .i64 k.1, .int .i64 k.2, .int .i64 pa.1, .int .i64 pa.2, .int .i64 af.1, .int .i64 af.2, .string nm, .string vl]] w _
            obtain ⟨b0, b1, b2, b3, b4, b5, b6, b7, b8⟩ := row9 HK.out
            go_enter Try.func9, Try.ntmps9
            go_wp2_with (first | (go_at_call 27; refine (refRight_bel _ _ _).mono ?_; rintro e w1 ⟨rfl, hb⟩; rw [HR.out]; replace HB : Hid (Below w.heap.size w w1) := HB.out.trans (hb.mono HB.out.size); replace HK : Hid (w1.heap[w.heap.size]? = some (.cells #[.int .i64 3, .int .i64 k.1, .int .i64 k.2, .int .i64 pa.1, .int .i64 pa.2, .int .i64 af.1, .int .i64 af.2, .string nm, .string vl] 25)) := (hb.block _ (row_lt HK.out)).trans HK.out; clear hb b0 b1 b2 b3 b4 b5 b6 b7 b8; obtain ⟨b0, b1, b2, b3, b4, b5, b6, b7, b8⟩ := row9 HK.out) | (go_at_call 28; refine (refNode_any _ _ _).mono ?_; rintro e w2 ⟨rfl, hb⟩; rw [HN.out]; replace HB : Hid (Below w.heap.size w w2) := HB.out.trans (hb.mono HB.out.size); replace HK : Hid (w2.heap[w.heap.size]? = some (.cells #[.int .i64 3, .int .i64 k.1, .int .i64 k.2, .int .i64 pa.1, .int .i64 pa.2, .int .i64 af.1, .int .i64 af.2, .string nm, .string vl] 25)) := (hb.block _ (row_lt HK.out)).trans HK.out; clear hb b0 b1 b2 b3 b4 b5 b6 b7 b8; obtain ⟨b0, b1, b2, b3, b4, b5, b6, b7, b8⟩ := row9 HK.out) | (go_at_call 29; refine (places_any (⟨3, k, pa, af, nm, vl⟩ : Pa) _).mono ?_; rintro e w3 ⟨rfl, hb⟩; rw [HPl.out]; replace HB : Hid (Below w.heap.size w w3) := HB.out.trans (hb.mono HB.out.size); replace HK : Hid (w3.heap[w.heap.size]? = some (.cells #[.int .i64 3, .int .i64 k.1, .int .i64 k.2, .int .i64 pa.1, .int .i64 pa.2, .int .i64 af.1, .int .i64 af.2, .string nm, .string vl] 25)) := (hb.block _ (row_lt HK.out)).trans HK.out; clear hb b0 b1 b2 b3 b4 b5 b6 b7 b8; obtain ⟨b0, b1, b2, b3, b4, b5, b6, b7, b8⟩ := row9 HK.out) | (go_at_call 30; refine (refName_any _ Hs.out _).mono ?_; rintro e w4 ⟨rfl, rfl⟩; rw [HNm.out]))
            (try rw [Exit.noGoto_ret])
            go_ret
            exact ⟨rfl, HB.out⟩
          | true =>
            have hq : (vl.toList == []) = true := hn
            have hq2 : (!(vl.toList == [])) = false := by rw [hq]; rfl
            have hv : chkP (⟨3, k, pa, af, nm, vl⟩ : Pa) = 0 := by unfold chkP; rw [if_neg (fun e => e hk), if_neg (by rw [ek2, hpr, har]; simp), if_neg (by rw [en2]; simp)]; unfold valP; exact (if_neg h0).trans (if_neg (by rw [show noT (⟨3, k, pa, af, nm, vl⟩ : Pa).vl = true from hn]; simp))
            rw [hv]
            clear hv
            show Calls Try.prog 9 #[.agg #[.int .i64 3, .int .i64 k.1, .int .i64 k.2, .int .i64 pa.1, .int .i64 pa.2, .int .i64 af.1, .int .i64 af.2, .string nm, .string vl]] w _
            obtain ⟨b0, b1, b2, b3, b4, b5, b6, b7, b8⟩ := row9 HK.out
            go_enter Try.func9, Try.ntmps9
            go_wp2_with (first | (go_at_call 27; refine (refRight_bel _ _ _).mono ?_; rintro e w1 ⟨rfl, hb⟩; rw [HR.out]; replace HB : Hid (Below w.heap.size w w1) := HB.out.trans (hb.mono HB.out.size); replace HK : Hid (w1.heap[w.heap.size]? = some (.cells #[.int .i64 3, .int .i64 k.1, .int .i64 k.2, .int .i64 pa.1, .int .i64 pa.2, .int .i64 af.1, .int .i64 af.2, .string nm, .string vl] 25)) := (hb.block _ (row_lt HK.out)).trans HK.out; clear hb b0 b1 b2 b3 b4 b5 b6 b7 b8; obtain ⟨b0, b1, b2, b3, b4, b5, b6, b7, b8⟩ := row9 HK.out) | (go_at_call 28; refine (refNode_any _ _ _).mono ?_; rintro e w2 ⟨rfl, hb⟩; rw [HN.out]; replace HB : Hid (Below w.heap.size w w2) := HB.out.trans (hb.mono HB.out.size); replace HK : Hid (w2.heap[w.heap.size]? = some (.cells #[.int .i64 3, .int .i64 k.1, .int .i64 k.2, .int .i64 pa.1, .int .i64 pa.2, .int .i64 af.1, .int .i64 af.2, .string nm, .string vl] 25)) := (hb.block _ (row_lt HK.out)).trans HK.out; clear hb b0 b1 b2 b3 b4 b5 b6 b7 b8; obtain ⟨b0, b1, b2, b3, b4, b5, b6, b7, b8⟩ := row9 HK.out) | (go_at_call 29; refine (places_any (⟨3, k, pa, af, nm, vl⟩ : Pa) _).mono ?_; rintro e w3 ⟨rfl, hb⟩; rw [HPl.out]; replace HB : Hid (Below w.heap.size w w3) := HB.out.trans (hb.mono HB.out.size); replace HK : Hid (w3.heap[w.heap.size]? = some (.cells #[.int .i64 3, .int .i64 k.1, .int .i64 k.2, .int .i64 pa.1, .int .i64 pa.2, .int .i64 af.1, .int .i64 af.2, .string nm, .string vl] 25)) := (hb.block _ (row_lt HK.out)).trans HK.out; clear hb b0 b1 b2 b3 b4 b5 b6 b7 b8; obtain ⟨b0, b1, b2, b3, b4, b5, b6, b7, b8⟩ := row9 HK.out) | (go_at_call 30; refine (refName_any _ Hs.out _).mono ?_; rintro e w4 ⟨rfl, rfl⟩; rw [HNm.out]))
            (try rw [Exit.noGoto_ret])
            go_ret
            exact ⟨rfl, HB.out⟩

set_option maxRecDepth 100000 in
set_option maxHeartbeats 8000000 in
theorem refCheck_k4 (k pa af : St) (nm vl : ByteArray) (w : World) (hs : nm.size ≤ 281474976710656) : Calls Try.prog 9 #[.agg #[.int .i64 4, .int .i64 k.1, .int .i64 k.2, .int .i64 pa.1, .int .i64 pa.2, .int .i64 af.1, .int .i64 af.2, .string nm, .string vl]] w fun e w' => e = .returned (.int .i64 (chkP (⟨4, k, pa, af, nm, vl⟩ : Pa))) ∧ Below w.heap.size w w' := by
  have Hs := hide9 hs
  clear hs
  have HK : Hid ((w.alloc (.cells #[.int .i64 4, .int .i64 k.1, .int .i64 k.2, .int .i64 pa.1, .int .i64 pa.2, .int .i64 af.1, .int .i64 af.2, .string nm, .string vl] 25)).heap[w.heap.size]? = some (.cells #[.int .i64 4, .int .i64 k.1, .int .i64 k.2, .int .i64 pa.1, .int .i64 pa.2, .int .i64 af.1, .int .i64 af.2, .string nm, .string vl] 25)) := heap_alloc_new _ _
  have HB : Hid (Below w.heap.size w (w.alloc (.cells #[.int .i64 4, .int .i64 k.1, .int .i64 k.2, .int .i64 pa.1, .int .i64 pa.2, .int .i64 af.1, .int .i64 af.2, .string nm, .string vl] 25))) := (Below.refl _ _).alloc (Nat.le_refl _) _
  have hk : 1 ≤ (⟨4, k, pa, af, nm, vl⟩ : Pa).kd ∧ (⟨4, k, pa, af, nm, vl⟩ : Pa).kd ≤ 9 := ⟨by show (1 : Int) ≤ 4; decide, by show (4 : Int) ≤ 9; decide⟩
  have ek : keyP (⟨4, k, pa, af, nm, vl⟩ : Pa) = rightB k.1 k.2 := by unfold keyP; rw [if_neg (by show ¬ (6 : Int) ≤ 4; decide)]
  cases hky : rightB k.1 k.2 with
  | false =>
    have HR := hide9 hky
    have hv : chkP (⟨4, k, pa, af, nm, vl⟩ : Pa) = 2 := by unfold chkP; rw [if_neg (fun e => e hk), if_pos (.inl (ek.trans hky))]
    rw [hv]
    clear hv
    show Calls Try.prog 9 #[.agg #[.int .i64 4, .int .i64 k.1, .int .i64 k.2, .int .i64 pa.1, .int .i64 pa.2, .int .i64 af.1, .int .i64 af.2, .string nm, .string vl]] w _
    obtain ⟨b0, b1, b2, b3, b4, b5, b6, b7, b8⟩ := row9 HK.out
    go_enter Try.func9, Try.ntmps9
    go_wp2_with (first | (go_at_call 27; refine (refRight_bel _ _ _).mono ?_; rintro e w1 ⟨rfl, hb⟩; rw [HR.out]; replace HB : Hid (Below w.heap.size w w1) := HB.out.trans (hb.mono HB.out.size); replace HK : Hid (w1.heap[w.heap.size]? = some (.cells #[.int .i64 4, .int .i64 k.1, .int .i64 k.2, .int .i64 pa.1, .int .i64 pa.2, .int .i64 af.1, .int .i64 af.2, .string nm, .string vl] 25)) := (hb.block _ (row_lt HK.out)).trans HK.out; clear hb b0 b1 b2 b3 b4 b5 b6 b7 b8; obtain ⟨b0, b1, b2, b3, b4, b5, b6, b7, b8⟩ := row9 HK.out))
    (try rw [Exit.noGoto_ret])
    go_ret
    exact ⟨rfl, HB.out⟩
  | true =>
    have HR := hide9 hky
    have HN := hide9 (node_of_right hky)
    have ek2 := ek.trans hky
    clear hky ek
    cases hpl : parP (⟨4, k, pa, af, nm, vl⟩ : Pa) && aftP (⟨4, k, pa, af, nm, vl⟩ : Pa) with
    | false =>
      have HPl := hide9 hpl
      have hv : chkP (⟨4, k, pa, af, nm, vl⟩ : Pa) = 2 := by unfold chkP; rw [if_neg (fun e => e hk), if_pos (.inr (by simpa only [Bool.and_eq_false_iff] using hpl))]
      rw [hv]
      clear hv
      show Calls Try.prog 9 #[.agg #[.int .i64 4, .int .i64 k.1, .int .i64 k.2, .int .i64 pa.1, .int .i64 pa.2, .int .i64 af.1, .int .i64 af.2, .string nm, .string vl]] w _
      obtain ⟨b0, b1, b2, b3, b4, b5, b6, b7, b8⟩ := row9 HK.out
      go_enter Try.func9, Try.ntmps9
      go_wp2_with (first | (go_at_call 27; refine (refRight_bel _ _ _).mono ?_; rintro e w1 ⟨rfl, hb⟩; rw [HR.out]; replace HB : Hid (Below w.heap.size w w1) := HB.out.trans (hb.mono HB.out.size); replace HK : Hid (w1.heap[w.heap.size]? = some (.cells #[.int .i64 4, .int .i64 k.1, .int .i64 k.2, .int .i64 pa.1, .int .i64 pa.2, .int .i64 af.1, .int .i64 af.2, .string nm, .string vl] 25)) := (hb.block _ (row_lt HK.out)).trans HK.out; clear hb b0 b1 b2 b3 b4 b5 b6 b7 b8; obtain ⟨b0, b1, b2, b3, b4, b5, b6, b7, b8⟩ := row9 HK.out) | (go_at_call 28; refine (refNode_any _ _ _).mono ?_; rintro e w2 ⟨rfl, hb⟩; rw [HN.out]; replace HB : Hid (Below w.heap.size w w2) := HB.out.trans (hb.mono HB.out.size); replace HK : Hid (w2.heap[w.heap.size]? = some (.cells #[.int .i64 4, .int .i64 k.1, .int .i64 k.2, .int .i64 pa.1, .int .i64 pa.2, .int .i64 af.1, .int .i64 af.2, .string nm, .string vl] 25)) := (hb.block _ (row_lt HK.out)).trans HK.out; clear hb b0 b1 b2 b3 b4 b5 b6 b7 b8; obtain ⟨b0, b1, b2, b3, b4, b5, b6, b7, b8⟩ := row9 HK.out) | (go_at_call 29; refine (places_any (⟨4, k, pa, af, nm, vl⟩ : Pa) _).mono ?_; rintro e w3 ⟨rfl, hb⟩; rw [HPl.out]; replace HB : Hid (Below w.heap.size w w3) := HB.out.trans (hb.mono HB.out.size); replace HK : Hid (w3.heap[w.heap.size]? = some (.cells #[.int .i64 4, .int .i64 k.1, .int .i64 k.2, .int .i64 pa.1, .int .i64 pa.2, .int .i64 af.1, .int .i64 af.2, .string nm, .string vl] 25)) := (hb.block _ (row_lt HK.out)).trans HK.out; clear hb b0 b1 b2 b3 b4 b5 b6 b7 b8; obtain ⟨b0, b1, b2, b3, b4, b5, b6, b7, b8⟩ := row9 HK.out))
      (try rw [Exit.noGoto_ret])
      go_ret
      exact ⟨rfl, HB.out⟩
    | true =>
      have HPl := hide9 hpl
      obtain ⟨hpr, har⟩ : parP (⟨4, k, pa, af, nm, vl⟩ : Pa) = true ∧ aftP (⟨4, k, pa, af, nm, vl⟩ : Pa) = true := by simpa only [Bool.and_eq_true] using hpl
      clear hpl
      have en : namP (⟨4, k, pa, af, nm, vl⟩ : Pa) = noT nm := by unfold namP; rw [show fN (⟨4, k, pa, af, nm, vl⟩ : Pa).kd = false from (by decide : fN 4 = false)]; simp
      cases hnm : noT nm with
      | false =>
        have hq3 : (nm.toList == []) = false := hnm
        have hq4 : (!(nm.toList == [])) = true := by rw [hq3]; rfl
        have hv : chkP (⟨4, k, pa, af, nm, vl⟩ : Pa) = 8 := by unfold chkP; rw [if_neg (fun e => e hk), if_neg (by rw [ek2, hpr, har]; simp), if_pos (en.trans hnm)]
        rw [hv]
        clear hv
        show Calls Try.prog 9 #[.agg #[.int .i64 4, .int .i64 k.1, .int .i64 k.2, .int .i64 pa.1, .int .i64 pa.2, .int .i64 af.1, .int .i64 af.2, .string nm, .string vl]] w _
        obtain ⟨b0, b1, b2, b3, b4, b5, b6, b7, b8⟩ := row9 HK.out
        go_enter Try.func9, Try.ntmps9
        go_wp2_with (first | (go_at_call 27; refine (refRight_bel _ _ _).mono ?_; rintro e w1 ⟨rfl, hb⟩; rw [HR.out]; replace HB : Hid (Below w.heap.size w w1) := HB.out.trans (hb.mono HB.out.size); replace HK : Hid (w1.heap[w.heap.size]? = some (.cells #[.int .i64 4, .int .i64 k.1, .int .i64 k.2, .int .i64 pa.1, .int .i64 pa.2, .int .i64 af.1, .int .i64 af.2, .string nm, .string vl] 25)) := (hb.block _ (row_lt HK.out)).trans HK.out; clear hb b0 b1 b2 b3 b4 b5 b6 b7 b8; obtain ⟨b0, b1, b2, b3, b4, b5, b6, b7, b8⟩ := row9 HK.out) | (go_at_call 28; refine (refNode_any _ _ _).mono ?_; rintro e w2 ⟨rfl, hb⟩; rw [HN.out]; replace HB : Hid (Below w.heap.size w w2) := HB.out.trans (hb.mono HB.out.size); replace HK : Hid (w2.heap[w.heap.size]? = some (.cells #[.int .i64 4, .int .i64 k.1, .int .i64 k.2, .int .i64 pa.1, .int .i64 pa.2, .int .i64 af.1, .int .i64 af.2, .string nm, .string vl] 25)) := (hb.block _ (row_lt HK.out)).trans HK.out; clear hb b0 b1 b2 b3 b4 b5 b6 b7 b8; obtain ⟨b0, b1, b2, b3, b4, b5, b6, b7, b8⟩ := row9 HK.out) | (go_at_call 29; refine (places_any (⟨4, k, pa, af, nm, vl⟩ : Pa) _).mono ?_; rintro e w3 ⟨rfl, hb⟩; rw [HPl.out]; replace HB : Hid (Below w.heap.size w w3) := HB.out.trans (hb.mono HB.out.size); replace HK : Hid (w3.heap[w.heap.size]? = some (.cells #[.int .i64 4, .int .i64 k.1, .int .i64 k.2, .int .i64 pa.1, .int .i64 pa.2, .int .i64 af.1, .int .i64 af.2, .string nm, .string vl] 25)) := (hb.block _ (row_lt HK.out)).trans HK.out; clear hb b0 b1 b2 b3 b4 b5 b6 b7 b8; obtain ⟨b0, b1, b2, b3, b4, b5, b6, b7, b8⟩ := row9 HK.out))
        (try rw [Exit.noGoto_ret])
        go_ret
        exact ⟨rfl, HB.out⟩
      | true =>
        have hq3 : (nm.toList == []) = true := hnm
        have hq4 : (!(nm.toList == [])) = false := by rw [hq3]; rfl
        have en2 := en.trans hnm
        clear hnm en
        by_cases h0 : 256 < vl.size
        · have h1 : (256 : Int) < (vl.size : Int) := by omega
          have hv : chkP (⟨4, k, pa, af, nm, vl⟩ : Pa) = 3 := by unfold chkP; rw [if_neg (fun e => e hk), if_neg (by rw [ek2, hpr, har]; simp), if_neg (by rw [en2]; simp)]; unfold valP; exact if_pos h0
          rw [hv]
          clear hv
          show Calls Try.prog 9 #[.agg #[.int .i64 4, .int .i64 k.1, .int .i64 k.2, .int .i64 pa.1, .int .i64 pa.2, .int .i64 af.1, .int .i64 af.2, .string nm, .string vl]] w _
          obtain ⟨b0, b1, b2, b3, b4, b5, b6, b7, b8⟩ := row9 HK.out
          go_enter Try.func9, Try.ntmps9
          go_wp2_with (first | (go_at_call 27; refine (refRight_bel _ _ _).mono ?_; rintro e w1 ⟨rfl, hb⟩; rw [HR.out]; replace HB : Hid (Below w.heap.size w w1) := HB.out.trans (hb.mono HB.out.size); replace HK : Hid (w1.heap[w.heap.size]? = some (.cells #[.int .i64 4, .int .i64 k.1, .int .i64 k.2, .int .i64 pa.1, .int .i64 pa.2, .int .i64 af.1, .int .i64 af.2, .string nm, .string vl] 25)) := (hb.block _ (row_lt HK.out)).trans HK.out; clear hb b0 b1 b2 b3 b4 b5 b6 b7 b8; obtain ⟨b0, b1, b2, b3, b4, b5, b6, b7, b8⟩ := row9 HK.out) | (go_at_call 28; refine (refNode_any _ _ _).mono ?_; rintro e w2 ⟨rfl, hb⟩; rw [HN.out]; replace HB : Hid (Below w.heap.size w w2) := HB.out.trans (hb.mono HB.out.size); replace HK : Hid (w2.heap[w.heap.size]? = some (.cells #[.int .i64 4, .int .i64 k.1, .int .i64 k.2, .int .i64 pa.1, .int .i64 pa.2, .int .i64 af.1, .int .i64 af.2, .string nm, .string vl] 25)) := (hb.block _ (row_lt HK.out)).trans HK.out; clear hb b0 b1 b2 b3 b4 b5 b6 b7 b8; obtain ⟨b0, b1, b2, b3, b4, b5, b6, b7, b8⟩ := row9 HK.out) | (go_at_call 29; refine (places_any (⟨4, k, pa, af, nm, vl⟩ : Pa) _).mono ?_; rintro e w3 ⟨rfl, hb⟩; rw [HPl.out]; replace HB : Hid (Below w.heap.size w w3) := HB.out.trans (hb.mono HB.out.size); replace HK : Hid (w3.heap[w.heap.size]? = some (.cells #[.int .i64 4, .int .i64 k.1, .int .i64 k.2, .int .i64 pa.1, .int .i64 pa.2, .int .i64 af.1, .int .i64 af.2, .string nm, .string vl] 25)) := (hb.block _ (row_lt HK.out)).trans HK.out; clear hb b0 b1 b2 b3 b4 b5 b6 b7 b8; obtain ⟨b0, b1, b2, b3, b4, b5, b6, b7, b8⟩ := row9 HK.out))
          (try rw [Exit.noGoto_ret])
          go_ret
          exact ⟨rfl, HB.out⟩
        · have h1 : ¬ (256 : Int) < (vl.size : Int) := by omega
          cases hn : noT vl with
          | false =>
            have hq : (vl.toList == []) = false := hn
            have hq2 : (!(vl.toList == [])) = true := by rw [hq]; rfl
            have hv : chkP (⟨4, k, pa, af, nm, vl⟩ : Pa) = 2 := by unfold chkP; rw [if_neg (fun e => e hk), if_neg (by rw [ek2, hpr, har]; simp), if_neg (by rw [en2]; simp)]; unfold valP; exact (if_neg h0).trans (if_pos ⟨(by decide : fV 4 = false), hn⟩)
            rw [hv]
            clear hv
            show Calls Try.prog 9 #[.agg #[.int .i64 4, .int .i64 k.1, .int .i64 k.2, .int .i64 pa.1, .int .i64 pa.2, .int .i64 af.1, .int .i64 af.2, .string nm, .string vl]] w _
            obtain ⟨b0, b1, b2, b3, b4, b5, b6, b7, b8⟩ := row9 HK.out
            go_enter Try.func9, Try.ntmps9
            go_wp2_with (first | (go_at_call 27; refine (refRight_bel _ _ _).mono ?_; rintro e w1 ⟨rfl, hb⟩; rw [HR.out]; replace HB : Hid (Below w.heap.size w w1) := HB.out.trans (hb.mono HB.out.size); replace HK : Hid (w1.heap[w.heap.size]? = some (.cells #[.int .i64 4, .int .i64 k.1, .int .i64 k.2, .int .i64 pa.1, .int .i64 pa.2, .int .i64 af.1, .int .i64 af.2, .string nm, .string vl] 25)) := (hb.block _ (row_lt HK.out)).trans HK.out; clear hb b0 b1 b2 b3 b4 b5 b6 b7 b8; obtain ⟨b0, b1, b2, b3, b4, b5, b6, b7, b8⟩ := row9 HK.out) | (go_at_call 28; refine (refNode_any _ _ _).mono ?_; rintro e w2 ⟨rfl, hb⟩; rw [HN.out]; replace HB : Hid (Below w.heap.size w w2) := HB.out.trans (hb.mono HB.out.size); replace HK : Hid (w2.heap[w.heap.size]? = some (.cells #[.int .i64 4, .int .i64 k.1, .int .i64 k.2, .int .i64 pa.1, .int .i64 pa.2, .int .i64 af.1, .int .i64 af.2, .string nm, .string vl] 25)) := (hb.block _ (row_lt HK.out)).trans HK.out; clear hb b0 b1 b2 b3 b4 b5 b6 b7 b8; obtain ⟨b0, b1, b2, b3, b4, b5, b6, b7, b8⟩ := row9 HK.out) | (go_at_call 29; refine (places_any (⟨4, k, pa, af, nm, vl⟩ : Pa) _).mono ?_; rintro e w3 ⟨rfl, hb⟩; rw [HPl.out]; replace HB : Hid (Below w.heap.size w w3) := HB.out.trans (hb.mono HB.out.size); replace HK : Hid (w3.heap[w.heap.size]? = some (.cells #[.int .i64 4, .int .i64 k.1, .int .i64 k.2, .int .i64 pa.1, .int .i64 pa.2, .int .i64 af.1, .int .i64 af.2, .string nm, .string vl] 25)) := (hb.block _ (row_lt HK.out)).trans HK.out; clear hb b0 b1 b2 b3 b4 b5 b6 b7 b8; obtain ⟨b0, b1, b2, b3, b4, b5, b6, b7, b8⟩ := row9 HK.out))
            (try rw [Exit.noGoto_ret])
            go_ret
            exact ⟨rfl, HB.out⟩
          | true =>
            have hq : (vl.toList == []) = true := hn
            have hq2 : (!(vl.toList == [])) = false := by rw [hq]; rfl
            have hv : chkP (⟨4, k, pa, af, nm, vl⟩ : Pa) = 0 := by unfold chkP; rw [if_neg (fun e => e hk), if_neg (by rw [ek2, hpr, har]; simp), if_neg (by rw [en2]; simp)]; unfold valP; exact (if_neg h0).trans (if_neg (by rw [show noT (⟨4, k, pa, af, nm, vl⟩ : Pa).vl = true from hn]; simp))
            rw [hv]
            clear hv
            show Calls Try.prog 9 #[.agg #[.int .i64 4, .int .i64 k.1, .int .i64 k.2, .int .i64 pa.1, .int .i64 pa.2, .int .i64 af.1, .int .i64 af.2, .string nm, .string vl]] w _
            obtain ⟨b0, b1, b2, b3, b4, b5, b6, b7, b8⟩ := row9 HK.out
            go_enter Try.func9, Try.ntmps9
            go_wp2_with (first | (go_at_call 27; refine (refRight_bel _ _ _).mono ?_; rintro e w1 ⟨rfl, hb⟩; rw [HR.out]; replace HB : Hid (Below w.heap.size w w1) := HB.out.trans (hb.mono HB.out.size); replace HK : Hid (w1.heap[w.heap.size]? = some (.cells #[.int .i64 4, .int .i64 k.1, .int .i64 k.2, .int .i64 pa.1, .int .i64 pa.2, .int .i64 af.1, .int .i64 af.2, .string nm, .string vl] 25)) := (hb.block _ (row_lt HK.out)).trans HK.out; clear hb b0 b1 b2 b3 b4 b5 b6 b7 b8; obtain ⟨b0, b1, b2, b3, b4, b5, b6, b7, b8⟩ := row9 HK.out) | (go_at_call 28; refine (refNode_any _ _ _).mono ?_; rintro e w2 ⟨rfl, hb⟩; rw [HN.out]; replace HB : Hid (Below w.heap.size w w2) := HB.out.trans (hb.mono HB.out.size); replace HK : Hid (w2.heap[w.heap.size]? = some (.cells #[.int .i64 4, .int .i64 k.1, .int .i64 k.2, .int .i64 pa.1, .int .i64 pa.2, .int .i64 af.1, .int .i64 af.2, .string nm, .string vl] 25)) := (hb.block _ (row_lt HK.out)).trans HK.out; clear hb b0 b1 b2 b3 b4 b5 b6 b7 b8; obtain ⟨b0, b1, b2, b3, b4, b5, b6, b7, b8⟩ := row9 HK.out) | (go_at_call 29; refine (places_any (⟨4, k, pa, af, nm, vl⟩ : Pa) _).mono ?_; rintro e w3 ⟨rfl, hb⟩; rw [HPl.out]; replace HB : Hid (Below w.heap.size w w3) := HB.out.trans (hb.mono HB.out.size); replace HK : Hid (w3.heap[w.heap.size]? = some (.cells #[.int .i64 4, .int .i64 k.1, .int .i64 k.2, .int .i64 pa.1, .int .i64 pa.2, .int .i64 af.1, .int .i64 af.2, .string nm, .string vl] 25)) := (hb.block _ (row_lt HK.out)).trans HK.out; clear hb b0 b1 b2 b3 b4 b5 b6 b7 b8; obtain ⟨b0, b1, b2, b3, b4, b5, b6, b7, b8⟩ := row9 HK.out))
            (try rw [Exit.noGoto_ret])
            go_ret
            exact ⟨rfl, HB.out⟩

end Go.Proofs.Ytfaikakmojpjiaa
