/- MovesPlays: any moves done and undone. -/
import Derived.Test.YtljepindfdhbbaaRfV
namespace Go.Proofs.Ytljepindfdhbbaa
open Go.RowKit
set_option linter.unusedVariables false
set_option linter.unusedSimpArgs false

theorem actL_le (L : List Mv) (a : Ma) : (actL L a).length ≤ L.length + 1 := by
  unfold actL
  split
  · exact doL_le L a.2
  · split
    · have := List.length_filter_le (fun x : Mv => decide (x.ts ≠ a.2.ts)) L; unfold delM; omega
    · omega
theorem MdS.cloned {w W W2 W3 : World} {tb tb2 : Nat} {F F2 : Nat → Prop} {dv : Value} {L : List Mv} (h : MdS w tb F dv L L W) (ht : TreeOk F2 W2 tb2 L) (hF2 : ∀ j, F2 j → W.heap.size ≤ j) (hb : Below W.heap.size W W2) (hto : Touch F W2 W3) : MdS w tb2 F2 dv L L W3 :=
  ⟨ht.touch hto (fun k hk hF => by have h1 := h.tr.lt k hF; have h2 := hF2 k hk; omega), fun j hj => Nat.le_trans h.bel.size (hF2 j hj), ((h.doc.lo.below hb).touch hto (fun k hk => hk.1)).mono (fun k hk hF => by have := hF2 k hF; omega), (h.bel.trans (hb.mono h.bel.size)).trans (hto.below h.hi (Nat.le_trans h.bel.size hb.size))⟩

set_option maxRecDepth 100000 in
set_option maxHeartbeats 8000000 in
theorem movesPlays_walk (v : Value) (l : List Ma) (w : World) (h : IsMa w v l) :
    Calls Try.prog 3 #[v] w fun e w' => e = .returned (.bool true) ∧ Below w.heap.size w w' := by
  obtain ⟨a0, c0, e0⟩ := h.form
  subst e0
  have HL0 : Hid (IsMa w (.slice a0 l.length c0) l) := h
  have hlc : l.length ≤ c0 := by (obtain ⟨_, cap, e9, h91, _⟩ := h; injection e9 with _ _ e93; subst e93; exact h91)
  have hln := h.len
  clear h
  go_enter Try.func3, Try.ntmps3
  go_wp2_with fail
  refine (new_any _).mono ?_
  rintro e w1 ⟨tb0, F0, rfl, hT, hFh, hb1⟩
  have hbe : Below w1.heap.size w1 (w1.alloc (.cells #[] 55)) := (Below.refl _ _).alloc (Nat.le_refl _) _
  obtain ⟨w2, ew2⟩ : ∃ X, X = w1.alloc (.cells #[] 55) := ⟨_, rfl⟩
  rw [← ew2] at hbe
  have HM0 : Hid (MdS w tb0 F0 (.slice (some ⟨w1.heap.size, 0, none⟩) 0 0) [] [] w2) := ⟨hT.below hbe, hFh, LsE.nil _ _ _, hb1.trans (hbe.mono hb1.size)⟩
  have HeW : Hid (w2 = w1.alloc (.cells #[] 55)) := ew2
  clear hT hFh hb1 hbe ew2
  by_cases h200 : 200 < l.length
  · have HLs : Hid (IsMa w (.slice a0 200 c0) (l.take 200)) := HL0.out.take rfl 200 (by omega)
    have HLn : Hid ((l.take 200).length = 200) := by (show _ = _; rw [List.length_take]; omega)
    have k200 : (200 : Int) < (l.length : Int) := by omega
    have c200 : 200 ≤ c0 := by omega
    clear HL0
    go_wp2
    rw [← HeW.out]
    clear HeW
    go_loopw [3, 4, 5] (fun tv dv iv wr => ∃ (i tb : Nat) (F : Nat → Prop) (L : List Mv), tv = .pointer (some ⟨tb, 0, none⟩) ∧ iv = .int .i64 (i : Int) ∧ i ≤ 200 ∧ L.length ≤ i ∧ Hid (MdS w tb F dv L L wr)) (fun _ _ iv _ => 200 - (intOf iv).toNat)
    case atStart => exact ⟨0, tb0, F0, [], rfl, rfl, Nat.zero_le _, Nat.zero_le _, HM0⟩
    case round =>
      clear HM0
      obtain ⟨i, tb, F, L, rfl, rfl, hi, hLi, HM⟩ := hrel
      by_cases hil : i < 200
      · obtain ⟨b, o, cap, ev, hcap, hgb, hlt, hrow⟩ := HLs.out.at (i := i) (by rw [HLn.out]; exact hil)
        rw [HLn.out] at ev
        injection ev with ev1 ev2 ev3
        subst ev1
        subst ev3
        clear ev2
        obtain ⟨x, ex⟩ : ∃ x, x = (l.take 200)[i]'(by rw [HLn.out]; exact hil) := ⟨_, rfl⟩
        rw [← ex] at hrow
        have HGl : Hid (b < w.heap.size) := hlt
        have HX0 : Hid (w.cell? ⟨b, o + i * 7, none⟩ = some (.int .i64 x.1)) := hrow 0 _ rfl
        have HX1 : Hid (w.cell? ⟨b, o + i * 7 + 1, none⟩ = some (.int .i64 x.2.ts.1)) := hrow 1 _ rfl
        have HX2 : Hid (w.cell? ⟨b, o + i * 7 + 2, none⟩ = some (.int .i64 x.2.ts.2)) := hrow 2 _ rfl
        have HX3 : Hid (w.cell? ⟨b, o + i * 7 + 3, none⟩ = some (.int .i64 x.2.nd.1)) := hrow 3 _ rfl
        have HX4 : Hid (w.cell? ⟨b, o + i * 7 + 4, none⟩ = some (.int .i64 x.2.nd.2)) := hrow 4 _ rfl
        have HX5 : Hid (w.cell? ⟨b, o + i * 7 + 5, none⟩ = some (.int .i64 x.2.pr.1)) := hrow 5 _ rfl
        have HX6 : Hid (w.cell? ⟨b, o + i * 7 + 6, none⟩ = some (.int .i64 x.2.pr.2)) := hrow 6 _ rfl
        clear ex hrow hlt hgb hcap
        obtain ⟨ad, cd, ed⟩ := HM.out.doc.form
        rw [fl_length] at ed
        subst ed
        have i1 : (i : Int) < (200 : Int) := by omega
        have i0 : (0 : Int) ≤ (i : Int) := by omega
        have x0 : wr.cell? ⟨b, o + i * 7, none⟩ = some (.int .i64 x.1) := (HM.out.bel.cell (p := ⟨b, _, none⟩) HGl.out).trans HX0.out
        have x1 : wr.cell? ⟨b, o + i * 7 + 1, none⟩ = some (.int .i64 x.2.ts.1) := (HM.out.bel.cell (p := ⟨b, _, none⟩) HGl.out).trans HX1.out
        have x2 : wr.cell? ⟨b, o + i * 7 + 2, none⟩ = some (.int .i64 x.2.ts.2) := (HM.out.bel.cell (p := ⟨b, _, none⟩) HGl.out).trans HX2.out
        have x3 : wr.cell? ⟨b, o + i * 7 + 3, none⟩ = some (.int .i64 x.2.nd.1) := (HM.out.bel.cell (p := ⟨b, _, none⟩) HGl.out).trans HX3.out
        have x4 : wr.cell? ⟨b, o + i * 7 + 4, none⟩ = some (.int .i64 x.2.nd.2) := (HM.out.bel.cell (p := ⟨b, _, none⟩) HGl.out).trans HX4.out
        have x5 : wr.cell? ⟨b, o + i * 7 + 5, none⟩ = some (.int .i64 x.2.pr.1) := (HM.out.bel.cell (p := ⟨b, _, none⟩) HGl.out).trans HX5.out
        have x6 : wr.cell? ⟨b, o + i * 7 + 6, none⟩ = some (.int .i64 x.2.pr.2) := (HM.out.bel.cell (p := ⟨b, _, none⟩) HGl.out).trans HX6.out
        by_cases kA : x.1 < 0
        · go_wp2_with fail
          clear x0 x1 x2 x3 x4 x5 x6
          refine (clone_any F tb L _ HM.out.tr).mono ?_
          rintro e w2 ⟨tb2, F2, rfl, ht2, hF2, hb2⟩
          have HT2 : Hid (TreeOk F2 w2 tb2 L) := ht2
          have HF2 : Hid (∀ j, F2 j → wr.heap.size ≤ j) := hF2
          have HB2 : Hid (Below wr.heap.size wr w2) := hb2
          clear ht2 hF2 hb2
          go_wp2_with fail
          refine (do_any F tb L (77, 9) (1, 0) (0, 0) _ (HM.out.tr.below HB2.out) (by omega)).mono ?_
          rintro e w3 ⟨he, F9, _, _, _, hto⟩
          subst he
          replace HM : Hid (MdS w tb2 F2 (.slice ad L.length cd) L L w3) := HM.out.cloned HT2.out HF2.out HB2.out hto
          clear HT2 HF2 HB2 hto
          have x0 : w3.cell? ⟨b, o + i * 7, none⟩ = some (.int .i64 x.1) := (HM.out.bel.cell (p := ⟨b, _, none⟩) HGl.out).trans HX0.out
          have x1 : w3.cell? ⟨b, o + i * 7 + 1, none⟩ = some (.int .i64 x.2.ts.1) := (HM.out.bel.cell (p := ⟨b, _, none⟩) HGl.out).trans HX1.out
          have x2 : w3.cell? ⟨b, o + i * 7 + 2, none⟩ = some (.int .i64 x.2.ts.2) := (HM.out.bel.cell (p := ⟨b, _, none⟩) HGl.out).trans HX2.out
          have x3 : w3.cell? ⟨b, o + i * 7 + 3, none⟩ = some (.int .i64 x.2.nd.1) := (HM.out.bel.cell (p := ⟨b, _, none⟩) HGl.out).trans HX3.out
          have x4 : w3.cell? ⟨b, o + i * 7 + 4, none⟩ = some (.int .i64 x.2.nd.2) := (HM.out.bel.cell (p := ⟨b, _, none⟩) HGl.out).trans HX4.out
          have x5 : w3.cell? ⟨b, o + i * 7 + 5, none⟩ = some (.int .i64 x.2.pr.1) := (HM.out.bel.cell (p := ⟨b, _, none⟩) HGl.out).trans HX5.out
          have x6 : w3.cell? ⟨b, o + i * 7 + 6, none⟩ = some (.int .i64 x.2.pr.2) := (HM.out.bel.cell (p := ⟨b, _, none⟩) HGl.out).trans HX6.out
          go_wp2_with fail
          clear x0 x1 x2 x3 x4 x5 x6
          refine (play_any w tb2 F2 (.slice ad L.length cd) L x _ HM.out (by omega)).mono ?_
          rintro e w5 ⟨F5, dv5, rfl, hM5⟩
          replace HM : Hid (MdS w tb2 F5 dv5 (actL L x) (actL L x) w5) := hM5
          have hal := actL_le L x
          clear hM5
          go_wp2_with fail
          refine (told_any F5 tb2 (actL L x) dv5 _ HM.out.tr HM.out.doc (by omega)).mono ?_
          rintro e w6 ⟨rfl, ha⟩
          replace HM : Hid (MdS w tb2 F5 dv5 (actL L x) (actL L x) w6) := HM.out.asked ha
          clear ha
          go_wp2
          go_roundw
          case rel => exact ⟨i + 1, tb2, F5, actL L x, rfl, by go_num, by omega, by omega, HM⟩
          case measure => simp [intOf]; omega
        · by_cases kB : 1 < x.1
          · go_wp2_with fail
            clear x0 x1 x2 x3 x4 x5 x6
            refine (clone_any F tb L _ HM.out.tr).mono ?_
            rintro e w2 ⟨tb2, F2, rfl, ht2, hF2, hb2⟩
            have HT2 : Hid (TreeOk F2 w2 tb2 L) := ht2
            have HF2 : Hid (∀ j, F2 j → wr.heap.size ≤ j) := hF2
            have HB2 : Hid (Below wr.heap.size wr w2) := hb2
            clear ht2 hF2 hb2
            go_wp2_with fail
            refine (do_any F tb L (77, 9) (1, 0) (0, 0) _ (HM.out.tr.below HB2.out) (by omega)).mono ?_
            rintro e w3 ⟨he, F9, _, _, _, hto⟩
            subst he
            replace HM : Hid (MdS w tb2 F2 (.slice ad L.length cd) L L w3) := HM.out.cloned HT2.out HF2.out HB2.out hto
            clear HT2 HF2 HB2 hto
            have x0 : w3.cell? ⟨b, o + i * 7, none⟩ = some (.int .i64 x.1) := (HM.out.bel.cell (p := ⟨b, _, none⟩) HGl.out).trans HX0.out
            have x1 : w3.cell? ⟨b, o + i * 7 + 1, none⟩ = some (.int .i64 x.2.ts.1) := (HM.out.bel.cell (p := ⟨b, _, none⟩) HGl.out).trans HX1.out
            have x2 : w3.cell? ⟨b, o + i * 7 + 2, none⟩ = some (.int .i64 x.2.ts.2) := (HM.out.bel.cell (p := ⟨b, _, none⟩) HGl.out).trans HX2.out
            have x3 : w3.cell? ⟨b, o + i * 7 + 3, none⟩ = some (.int .i64 x.2.nd.1) := (HM.out.bel.cell (p := ⟨b, _, none⟩) HGl.out).trans HX3.out
            have x4 : w3.cell? ⟨b, o + i * 7 + 4, none⟩ = some (.int .i64 x.2.nd.2) := (HM.out.bel.cell (p := ⟨b, _, none⟩) HGl.out).trans HX4.out
            have x5 : w3.cell? ⟨b, o + i * 7 + 5, none⟩ = some (.int .i64 x.2.pr.1) := (HM.out.bel.cell (p := ⟨b, _, none⟩) HGl.out).trans HX5.out
            have x6 : w3.cell? ⟨b, o + i * 7 + 6, none⟩ = some (.int .i64 x.2.pr.2) := (HM.out.bel.cell (p := ⟨b, _, none⟩) HGl.out).trans HX6.out
            go_wp2_with fail
            clear x0 x1 x2 x3 x4 x5 x6
            refine (play_any w tb2 F2 (.slice ad L.length cd) L x _ HM.out (by omega)).mono ?_
            rintro e w5 ⟨F5, dv5, rfl, hM5⟩
            replace HM : Hid (MdS w tb2 F5 dv5 (actL L x) (actL L x) w5) := hM5
            have hal := actL_le L x
            clear hM5
            go_wp2_with fail
            refine (told_any F5 tb2 (actL L x) dv5 _ HM.out.tr HM.out.doc (by omega)).mono ?_
            rintro e w6 ⟨rfl, ha⟩
            replace HM : Hid (MdS w tb2 F5 dv5 (actL L x) (actL L x) w6) := HM.out.asked ha
            clear ha
            go_wp2
            go_roundw
            case rel => exact ⟨i + 1, tb2, F5, actL L x, rfl, by go_num, by omega, by omega, HM⟩
            case measure => simp [intOf]; omega
          · go_wp2_with fail
            clear x0 x1 x2 x3 x4 x5 x6
            refine (play_any w tb F (.slice ad L.length cd) L x _ HM.out (by omega)).mono ?_
            rintro e w5 ⟨F5, dv5, rfl, hM5⟩
            replace HM : Hid (MdS w tb F5 dv5 (actL L x) (actL L x) w5) := hM5
            have hal := actL_le L x
            clear hM5
            go_wp2_with fail
            refine (told_any F5 tb (actL L x) dv5 _ HM.out.tr HM.out.doc (by omega)).mono ?_
            rintro e w6 ⟨rfl, ha⟩
            replace HM : Hid (MdS w tb F5 dv5 (actL L x) (actL L x) w6) := HM.out.asked ha
            clear ha
            go_wp2
            go_roundw
            case rel => exact ⟨i + 1, tb, F5, actL L x, rfl, by go_num, by omega, by omega, HM⟩
            case measure => simp [intOf]; omega
      · obtain rfl : i = 200 := by omega
        go_wp2_with fail
        refine (awake_any _).mono ?_
        rintro e w9 ⟨rfl, hb⟩
        have HB : Hid (Below w.heap.size w w9) := HM.out.bel.trans (hb.mono HM.out.bel.size)
        clear hb HM
        go_wp2
        go_ret
        exact ⟨rfl, HB.out⟩
  · have HLs : Hid (IsMa w (.slice a0 l.length c0) l) := HL0
    have HLn : Hid (l.length = l.length) := rfl
    have k200 : ¬ (200 : Int) < (l.length : Int) := by omega
    clear HL0
    go_wp2
    rw [← HeW.out]
    clear HeW
    go_loopw [3, 4, 5] (fun tv dv iv wr => ∃ (i tb : Nat) (F : Nat → Prop) (L : List Mv), tv = .pointer (some ⟨tb, 0, none⟩) ∧ iv = .int .i64 (i : Int) ∧ i ≤ l.length ∧ L.length ≤ i ∧ Hid (MdS w tb F dv L L wr)) (fun _ _ iv _ => l.length - (intOf iv).toNat)
    case atStart => exact ⟨0, tb0, F0, [], rfl, rfl, Nat.zero_le _, Nat.zero_le _, HM0⟩
    case round =>
      clear HM0
      obtain ⟨i, tb, F, L, rfl, rfl, hi, hLi, HM⟩ := hrel
      by_cases hil : i < l.length
      · obtain ⟨b, o, cap, ev, hcap, hgb, hlt, hrow⟩ := HLs.out.at (i := i) (by exact hil)
        skip
        injection ev with ev1 ev2 ev3
        subst ev1
        subst ev3
        clear ev2
        obtain ⟨x, ex⟩ : ∃ x, x = (l)[i]'(by exact hil) := ⟨_, rfl⟩
        rw [← ex] at hrow
        have HGl : Hid (b < w.heap.size) := hlt
        have HX0 : Hid (w.cell? ⟨b, o + i * 7, none⟩ = some (.int .i64 x.1)) := hrow 0 _ rfl
        have HX1 : Hid (w.cell? ⟨b, o + i * 7 + 1, none⟩ = some (.int .i64 x.2.ts.1)) := hrow 1 _ rfl
        have HX2 : Hid (w.cell? ⟨b, o + i * 7 + 2, none⟩ = some (.int .i64 x.2.ts.2)) := hrow 2 _ rfl
        have HX3 : Hid (w.cell? ⟨b, o + i * 7 + 3, none⟩ = some (.int .i64 x.2.nd.1)) := hrow 3 _ rfl
        have HX4 : Hid (w.cell? ⟨b, o + i * 7 + 4, none⟩ = some (.int .i64 x.2.nd.2)) := hrow 4 _ rfl
        have HX5 : Hid (w.cell? ⟨b, o + i * 7 + 5, none⟩ = some (.int .i64 x.2.pr.1)) := hrow 5 _ rfl
        have HX6 : Hid (w.cell? ⟨b, o + i * 7 + 6, none⟩ = some (.int .i64 x.2.pr.2)) := hrow 6 _ rfl
        clear ex hrow hlt hgb hcap
        obtain ⟨ad, cd, ed⟩ := HM.out.doc.form
        rw [fl_length] at ed
        subst ed
        have i1 : (i : Int) < (l.length : Int) := by omega
        have i0 : (0 : Int) ≤ (i : Int) := by omega
        have x0 : wr.cell? ⟨b, o + i * 7, none⟩ = some (.int .i64 x.1) := (HM.out.bel.cell (p := ⟨b, _, none⟩) HGl.out).trans HX0.out
        have x1 : wr.cell? ⟨b, o + i * 7 + 1, none⟩ = some (.int .i64 x.2.ts.1) := (HM.out.bel.cell (p := ⟨b, _, none⟩) HGl.out).trans HX1.out
        have x2 : wr.cell? ⟨b, o + i * 7 + 2, none⟩ = some (.int .i64 x.2.ts.2) := (HM.out.bel.cell (p := ⟨b, _, none⟩) HGl.out).trans HX2.out
        have x3 : wr.cell? ⟨b, o + i * 7 + 3, none⟩ = some (.int .i64 x.2.nd.1) := (HM.out.bel.cell (p := ⟨b, _, none⟩) HGl.out).trans HX3.out
        have x4 : wr.cell? ⟨b, o + i * 7 + 4, none⟩ = some (.int .i64 x.2.nd.2) := (HM.out.bel.cell (p := ⟨b, _, none⟩) HGl.out).trans HX4.out
        have x5 : wr.cell? ⟨b, o + i * 7 + 5, none⟩ = some (.int .i64 x.2.pr.1) := (HM.out.bel.cell (p := ⟨b, _, none⟩) HGl.out).trans HX5.out
        have x6 : wr.cell? ⟨b, o + i * 7 + 6, none⟩ = some (.int .i64 x.2.pr.2) := (HM.out.bel.cell (p := ⟨b, _, none⟩) HGl.out).trans HX6.out
        by_cases kA : x.1 < 0
        · go_wp2_with fail
          clear x0 x1 x2 x3 x4 x5 x6
          refine (clone_any F tb L _ HM.out.tr).mono ?_
          rintro e w2 ⟨tb2, F2, rfl, ht2, hF2, hb2⟩
          have HT2 : Hid (TreeOk F2 w2 tb2 L) := ht2
          have HF2 : Hid (∀ j, F2 j → wr.heap.size ≤ j) := hF2
          have HB2 : Hid (Below wr.heap.size wr w2) := hb2
          clear ht2 hF2 hb2
          go_wp2_with fail
          refine (do_any F tb L (77, 9) (1, 0) (0, 0) _ (HM.out.tr.below HB2.out) (by omega)).mono ?_
          rintro e w3 ⟨he, F9, _, _, _, hto⟩
          subst he
          replace HM : Hid (MdS w tb2 F2 (.slice ad L.length cd) L L w3) := HM.out.cloned HT2.out HF2.out HB2.out hto
          clear HT2 HF2 HB2 hto
          have x0 : w3.cell? ⟨b, o + i * 7, none⟩ = some (.int .i64 x.1) := (HM.out.bel.cell (p := ⟨b, _, none⟩) HGl.out).trans HX0.out
          have x1 : w3.cell? ⟨b, o + i * 7 + 1, none⟩ = some (.int .i64 x.2.ts.1) := (HM.out.bel.cell (p := ⟨b, _, none⟩) HGl.out).trans HX1.out
          have x2 : w3.cell? ⟨b, o + i * 7 + 2, none⟩ = some (.int .i64 x.2.ts.2) := (HM.out.bel.cell (p := ⟨b, _, none⟩) HGl.out).trans HX2.out
          have x3 : w3.cell? ⟨b, o + i * 7 + 3, none⟩ = some (.int .i64 x.2.nd.1) := (HM.out.bel.cell (p := ⟨b, _, none⟩) HGl.out).trans HX3.out
          have x4 : w3.cell? ⟨b, o + i * 7 + 4, none⟩ = some (.int .i64 x.2.nd.2) := (HM.out.bel.cell (p := ⟨b, _, none⟩) HGl.out).trans HX4.out
          have x5 : w3.cell? ⟨b, o + i * 7 + 5, none⟩ = some (.int .i64 x.2.pr.1) := (HM.out.bel.cell (p := ⟨b, _, none⟩) HGl.out).trans HX5.out
          have x6 : w3.cell? ⟨b, o + i * 7 + 6, none⟩ = some (.int .i64 x.2.pr.2) := (HM.out.bel.cell (p := ⟨b, _, none⟩) HGl.out).trans HX6.out
          go_wp2_with fail
          clear x0 x1 x2 x3 x4 x5 x6
          refine (play_any w tb2 F2 (.slice ad L.length cd) L x _ HM.out (by omega)).mono ?_
          rintro e w5 ⟨F5, dv5, rfl, hM5⟩
          replace HM : Hid (MdS w tb2 F5 dv5 (actL L x) (actL L x) w5) := hM5
          have hal := actL_le L x
          clear hM5
          go_wp2_with fail
          refine (told_any F5 tb2 (actL L x) dv5 _ HM.out.tr HM.out.doc (by omega)).mono ?_
          rintro e w6 ⟨rfl, ha⟩
          replace HM : Hid (MdS w tb2 F5 dv5 (actL L x) (actL L x) w6) := HM.out.asked ha
          clear ha
          go_wp2
          go_roundw
          case rel => exact ⟨i + 1, tb2, F5, actL L x, rfl, by go_num, by omega, by omega, HM⟩
          case measure => simp [intOf]; omega
        · by_cases kB : 1 < x.1
          · go_wp2_with fail
            clear x0 x1 x2 x3 x4 x5 x6
            refine (clone_any F tb L _ HM.out.tr).mono ?_
            rintro e w2 ⟨tb2, F2, rfl, ht2, hF2, hb2⟩
            have HT2 : Hid (TreeOk F2 w2 tb2 L) := ht2
            have HF2 : Hid (∀ j, F2 j → wr.heap.size ≤ j) := hF2
            have HB2 : Hid (Below wr.heap.size wr w2) := hb2
            clear ht2 hF2 hb2
            go_wp2_with fail
            refine (do_any F tb L (77, 9) (1, 0) (0, 0) _ (HM.out.tr.below HB2.out) (by omega)).mono ?_
            rintro e w3 ⟨he, F9, _, _, _, hto⟩
            subst he
            replace HM : Hid (MdS w tb2 F2 (.slice ad L.length cd) L L w3) := HM.out.cloned HT2.out HF2.out HB2.out hto
            clear HT2 HF2 HB2 hto
            have x0 : w3.cell? ⟨b, o + i * 7, none⟩ = some (.int .i64 x.1) := (HM.out.bel.cell (p := ⟨b, _, none⟩) HGl.out).trans HX0.out
            have x1 : w3.cell? ⟨b, o + i * 7 + 1, none⟩ = some (.int .i64 x.2.ts.1) := (HM.out.bel.cell (p := ⟨b, _, none⟩) HGl.out).trans HX1.out
            have x2 : w3.cell? ⟨b, o + i * 7 + 2, none⟩ = some (.int .i64 x.2.ts.2) := (HM.out.bel.cell (p := ⟨b, _, none⟩) HGl.out).trans HX2.out
            have x3 : w3.cell? ⟨b, o + i * 7 + 3, none⟩ = some (.int .i64 x.2.nd.1) := (HM.out.bel.cell (p := ⟨b, _, none⟩) HGl.out).trans HX3.out
            have x4 : w3.cell? ⟨b, o + i * 7 + 4, none⟩ = some (.int .i64 x.2.nd.2) := (HM.out.bel.cell (p := ⟨b, _, none⟩) HGl.out).trans HX4.out
            have x5 : w3.cell? ⟨b, o + i * 7 + 5, none⟩ = some (.int .i64 x.2.pr.1) := (HM.out.bel.cell (p := ⟨b, _, none⟩) HGl.out).trans HX5.out
            have x6 : w3.cell? ⟨b, o + i * 7 + 6, none⟩ = some (.int .i64 x.2.pr.2) := (HM.out.bel.cell (p := ⟨b, _, none⟩) HGl.out).trans HX6.out
            go_wp2_with fail
            clear x0 x1 x2 x3 x4 x5 x6
            refine (play_any w tb2 F2 (.slice ad L.length cd) L x _ HM.out (by omega)).mono ?_
            rintro e w5 ⟨F5, dv5, rfl, hM5⟩
            replace HM : Hid (MdS w tb2 F5 dv5 (actL L x) (actL L x) w5) := hM5
            have hal := actL_le L x
            clear hM5
            go_wp2_with fail
            refine (told_any F5 tb2 (actL L x) dv5 _ HM.out.tr HM.out.doc (by omega)).mono ?_
            rintro e w6 ⟨rfl, ha⟩
            replace HM : Hid (MdS w tb2 F5 dv5 (actL L x) (actL L x) w6) := HM.out.asked ha
            clear ha
            go_wp2
            go_roundw
            case rel => exact ⟨i + 1, tb2, F5, actL L x, rfl, by go_num, by omega, by omega, HM⟩
            case measure => simp [intOf]; omega
          · go_wp2_with fail
            clear x0 x1 x2 x3 x4 x5 x6
            refine (play_any w tb F (.slice ad L.length cd) L x _ HM.out (by omega)).mono ?_
            rintro e w5 ⟨F5, dv5, rfl, hM5⟩
            replace HM : Hid (MdS w tb F5 dv5 (actL L x) (actL L x) w5) := hM5
            have hal := actL_le L x
            clear hM5
            go_wp2_with fail
            refine (told_any F5 tb (actL L x) dv5 _ HM.out.tr HM.out.doc (by omega)).mono ?_
            rintro e w6 ⟨rfl, ha⟩
            replace HM : Hid (MdS w tb F5 dv5 (actL L x) (actL L x) w6) := HM.out.asked ha
            clear ha
            go_wp2
            go_roundw
            case rel => exact ⟨i + 1, tb, F5, actL L x, rfl, by go_num, by omega, by omega, HM⟩
            case measure => simp [intOf]; omega
      · obtain rfl : i = l.length := by omega
        go_wp2_with fail
        refine (awake_any _).mono ?_
        rintro e w9 ⟨rfl, hb⟩
        have HB : Hid (Below w.heap.size w w9) := HM.out.bel.trans (hb.mono HM.out.bel.size)
        clear hb HM
        go_wp2
        go_ret
        exact ⟨rfl, HB.out⟩

end Go.Proofs.Ytljepindfdhbbaa
