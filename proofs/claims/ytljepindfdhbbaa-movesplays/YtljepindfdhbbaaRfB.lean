/- The document's Do. -/
import Derived.Test.YtljepindfdhbbaaRfA
namespace Go.Proofs.Ytljepindfdhbbaa
open Go.RowKit
set_option linter.unusedVariables false
set_option linter.unusedSimpArgs false

theorem refRight_bel (c r : Int) (w : World) :
    Calls Try.prog 56 #[.agg #[.int .i64 c, .int .i64 r]] w fun e w' => e = .returned (.bool (rightB c r)) ∧ Below w.heap.size w w' :=
  (refRight_any c r w).mono fun e w' ⟨h, hw⟩ => ⟨h, hw ▸ (Below.refl _ _).alloc (Nat.le_refl _) _⟩
theorem insM_le (L : List Mv) (m : Mv) : (insM L m).length ≤ 2 * L.length + 1 := by
  unfold insM
  have h1 := List.length_filter_le (fun x => ltS x.ts m.ts) L
  have h2 := List.length_filter_le (fun x => ltS m.ts x.ts) L
  simp only [List.length_append, List.length_cons]
  omega
theorem mcCells_lenR (x : Mv × Bool) : (mcCells x).length = 7 := rfl

set_option maxRecDepth 100000 in
set_option maxHeartbeats 4000000 in
theorem refDo_any (F : Nat → Prop) (v : Value) (L : List Mv) (s1 s2 s3 : St) (w : World) (h : LsE mcCells 7 (fun j => ¬ F j) w v (fl L)) (hF : ∀ j, F j → j < w.heap.size) (hs : SrtM L) (hl : L.length ≤ 4095) :
    Calls Try.prog 36 #[v, .agg #[.int .i64 s1.1, .int .i64 s1.2], .agg #[.int .i64 s2.1, .int .i64 s2.2], .agg #[.int .i64 s3.1, .int .i64 s3.2]] w fun e w' => ∃ v', e = .returned (.tuple #[v', .int .i64 (doE L (⟨s1, s2, s3⟩ : Mv))]) ∧ LsE mcCells 7 (fun j => ¬ F j) w' v' (fl (doL L (⟨s1, s2, s3⟩ : Mv))) ∧ Below w.heap.size w w' := by
  obtain ⟨a9, c9, e9⟩ := h.form
  rw [fl_length] at e9
  subst e9
  have HSr : Hid (SrtM L) := hs
  have HFl : Hid (∀ j, F j → j < w.heap.size) := hF
  obtain ⟨W0, eW⟩ : ∃ X, X = (((w.alloc (.cells (stCells s1).toArray 27)).alloc (.cells (stCells s2).toArray 27)).alloc (.cells (stCells s3).toArray 27)) := ⟨_, rfl⟩
  have hb0 : Below w.heap.size w W0 := by rw [eW]; exact (((Below.refl _ _).alloc (Nat.le_refl _) _).alloc (by simp) _).alloc (by simp; omega) _
  have HBx : Hid (Bx3 w.heap.size s1 s2 s3 W0) := by rw [eW]; exact Bx3.new w s1 s2 s3
  have HV : Hid (LsE mcCells 7 (fun j => ¬ F j) W0 (.slice a9 L.length c9) (fl L)) := h.below hb0
  have HBe : Hid (Below w.heap.size w W0) := hb0
  clear h hb0 hs hF
  have a0 : W0.cell? ⟨w.heap.size, 0, none⟩ = some (.int .i64 s1.1) := HBx.out.a0
  have a1 : W0.cell? ⟨w.heap.size, 1, none⟩ = some (.int .i64 s1.2) := HBx.out.a1
  have b0 : W0.cell? ⟨w.heap.size + 1, 0, none⟩ = some (.int .i64 s2.1) := HBx.out.b0
  have b1 : W0.cell? ⟨w.heap.size + 1, 1, none⟩ = some (.int .i64 s2.2) := HBx.out.b1
  have c0 : W0.cell? ⟨w.heap.size + 2, 0, none⟩ = some (.int .i64 s3.1) := HBx.out.c0
  have c1 : W0.cell? ⟨w.heap.size + 2, 1, none⟩ = some (.int .i64 s3.2) := HBx.out.c1
  rw [eW] at a0 a1 b0 b1 c0 c1
  cases hA : rightB s1.1 s1.2 with
  | false =>
    have HE : Hid (doE L (⟨s1, s2, s3⟩ : Mv) = 2) := by (show _ = _; unfold doE; simp [hA])
    have HL : Hid (doL L (⟨s1, s2, s3⟩ : Mv) = L) := by (unfold doL; rw [HE.out]; rfl)
    go_enter Try.func36, Try.ntmps36
    go_wp2_with fail
    have eW2 := eW
    simp only [stCells] at eW2
    rw [← eW2]
    clear eW2 eW
    refine (refRight_bel s1.1 s1.2 _).mono ?_
    rintro e w1 ⟨rfl, hb⟩
    replace HV : Hid (LsE mcCells 7 (fun j => ¬ F j) w1 (.slice a9 L.length c9) (fl L)) := HV.out.below hb
    replace HBe : Hid (Below w.heap.size w w1) := HBe.out.trans (hb.mono HBe.out.size)
    replace HBx : Hid (Bx3 w.heap.size s1 s2 s3 w1) := HBx.out.below hb
    clear hb
    clear a0 a1 b0 b1 c0 c1
    have a0 : w1.cell? ⟨w.heap.size, 0, none⟩ = some (.int .i64 s1.1) := HBx.out.a0
    have a1 : w1.cell? ⟨w.heap.size, 1, none⟩ = some (.int .i64 s1.2) := HBx.out.a1
    have b0 : w1.cell? ⟨w.heap.size + 1, 0, none⟩ = some (.int .i64 s2.1) := HBx.out.b0
    have b1 : w1.cell? ⟨w.heap.size + 1, 1, none⟩ = some (.int .i64 s2.2) := HBx.out.b1
    have c0 : w1.cell? ⟨w.heap.size + 2, 0, none⟩ = some (.int .i64 s3.1) := HBx.out.c0
    have c1 : w1.cell? ⟨w.heap.size + 2, 1, none⟩ = some (.int .i64 s3.2) := HBx.out.c1
    rw [hA]
    go_wp2
    go_ret2
    exact ⟨_, by (rw [HE.out]; rfl), by (rw [HL.out]; exact HV.out), HBe.out⟩
  | true =>
    cases hN : rightB s2.1 s2.2 with
    | false =>
      have HE : Hid (doE L (⟨s1, s2, s3⟩ : Mv) = 2) := by (show _ = _; unfold doE; simp [hN])
      have HL : Hid (doL L (⟨s1, s2, s3⟩ : Mv) = L) := by (unfold doL; rw [HE.out]; rfl)
      go_enter Try.func36, Try.ntmps36
      go_wp2_with fail
      have eW2 := eW
      simp only [stCells] at eW2
      rw [← eW2]
      clear eW2 eW
      refine (refRight_bel s1.1 s1.2 _).mono ?_
      rintro e w1 ⟨rfl, hb⟩
      replace HV : Hid (LsE mcCells 7 (fun j => ¬ F j) w1 (.slice a9 L.length c9) (fl L)) := HV.out.below hb
      replace HBe : Hid (Below w.heap.size w w1) := HBe.out.trans (hb.mono HBe.out.size)
      replace HBx : Hid (Bx3 w.heap.size s1 s2 s3 w1) := HBx.out.below hb
      clear hb
      clear a0 a1 b0 b1 c0 c1
      have a0 : w1.cell? ⟨w.heap.size, 0, none⟩ = some (.int .i64 s1.1) := HBx.out.a0
      have a1 : w1.cell? ⟨w.heap.size, 1, none⟩ = some (.int .i64 s1.2) := HBx.out.a1
      have b0 : w1.cell? ⟨w.heap.size + 1, 0, none⟩ = some (.int .i64 s2.1) := HBx.out.b0
      have b1 : w1.cell? ⟨w.heap.size + 1, 1, none⟩ = some (.int .i64 s2.2) := HBx.out.b1
      have c0 : w1.cell? ⟨w.heap.size + 2, 0, none⟩ = some (.int .i64 s3.1) := HBx.out.c0
      have c1 : w1.cell? ⟨w.heap.size + 2, 1, none⟩ = some (.int .i64 s3.2) := HBx.out.c1
      rw [hA]
      go_wp2_with fail
      refine (refRight_bel s2.1 s2.2 _).mono ?_
      rintro e w2 ⟨rfl, hb⟩
      replace HV : Hid (LsE mcCells 7 (fun j => ¬ F j) w2 (.slice a9 L.length c9) (fl L)) := HV.out.below hb
      replace HBe : Hid (Below w.heap.size w w2) := HBe.out.trans (hb.mono HBe.out.size)
      replace HBx : Hid (Bx3 w.heap.size s1 s2 s3 w2) := HBx.out.below hb
      clear hb
      clear a0 a1 b0 b1 c0 c1
      have a0 : w2.cell? ⟨w.heap.size, 0, none⟩ = some (.int .i64 s1.1) := HBx.out.a0
      have a1 : w2.cell? ⟨w.heap.size, 1, none⟩ = some (.int .i64 s1.2) := HBx.out.a1
      have b0 : w2.cell? ⟨w.heap.size + 1, 0, none⟩ = some (.int .i64 s2.1) := HBx.out.b0
      have b1 : w2.cell? ⟨w.heap.size + 1, 1, none⟩ = some (.int .i64 s2.2) := HBx.out.b1
      have c0 : w2.cell? ⟨w.heap.size + 2, 0, none⟩ = some (.int .i64 s3.1) := HBx.out.c0
      have c1 : w2.cell? ⟨w.heap.size + 2, 1, none⟩ = some (.int .i64 s3.2) := HBx.out.c1
      rw [hN]
      go_wp2
      go_ret2
      exact ⟨_, by (rw [HE.out]; rfl), by (rw [HL.out]; exact HV.out), HBe.out⟩
    | true =>
      cases hP : nodeB s3.1 s3.2 with
      | false =>
        have HE : Hid (doE L (⟨s1, s2, s3⟩ : Mv) = 2) := by (show _ = _; unfold doE; simp [hP])
        have HL : Hid (doL L (⟨s1, s2, s3⟩ : Mv) = L) := by (unfold doL; rw [HE.out]; rfl)
        go_enter Try.func36, Try.ntmps36
        go_wp2_with fail
        have eW2 := eW
        simp only [stCells] at eW2
        rw [← eW2]
        clear eW2 eW
        refine (refRight_bel s1.1 s1.2 _).mono ?_
        rintro e w1 ⟨rfl, hb⟩
        replace HV : Hid (LsE mcCells 7 (fun j => ¬ F j) w1 (.slice a9 L.length c9) (fl L)) := HV.out.below hb
        replace HBe : Hid (Below w.heap.size w w1) := HBe.out.trans (hb.mono HBe.out.size)
        replace HBx : Hid (Bx3 w.heap.size s1 s2 s3 w1) := HBx.out.below hb
        clear hb
        clear a0 a1 b0 b1 c0 c1
        have a0 : w1.cell? ⟨w.heap.size, 0, none⟩ = some (.int .i64 s1.1) := HBx.out.a0
        have a1 : w1.cell? ⟨w.heap.size, 1, none⟩ = some (.int .i64 s1.2) := HBx.out.a1
        have b0 : w1.cell? ⟨w.heap.size + 1, 0, none⟩ = some (.int .i64 s2.1) := HBx.out.b0
        have b1 : w1.cell? ⟨w.heap.size + 1, 1, none⟩ = some (.int .i64 s2.2) := HBx.out.b1
        have c0 : w1.cell? ⟨w.heap.size + 2, 0, none⟩ = some (.int .i64 s3.1) := HBx.out.c0
        have c1 : w1.cell? ⟨w.heap.size + 2, 1, none⟩ = some (.int .i64 s3.2) := HBx.out.c1
        rw [hA]
        go_wp2_with fail
        refine (refRight_bel s2.1 s2.2 _).mono ?_
        rintro e w2 ⟨rfl, hb⟩
        replace HV : Hid (LsE mcCells 7 (fun j => ¬ F j) w2 (.slice a9 L.length c9) (fl L)) := HV.out.below hb
        replace HBe : Hid (Below w.heap.size w w2) := HBe.out.trans (hb.mono HBe.out.size)
        replace HBx : Hid (Bx3 w.heap.size s1 s2 s3 w2) := HBx.out.below hb
        clear hb
        clear a0 a1 b0 b1 c0 c1
        have a0 : w2.cell? ⟨w.heap.size, 0, none⟩ = some (.int .i64 s1.1) := HBx.out.a0
        have a1 : w2.cell? ⟨w.heap.size, 1, none⟩ = some (.int .i64 s1.2) := HBx.out.a1
        have b0 : w2.cell? ⟨w.heap.size + 1, 0, none⟩ = some (.int .i64 s2.1) := HBx.out.b0
        have b1 : w2.cell? ⟨w.heap.size + 1, 1, none⟩ = some (.int .i64 s2.2) := HBx.out.b1
        have c0 : w2.cell? ⟨w.heap.size + 2, 0, none⟩ = some (.int .i64 s3.1) := HBx.out.c0
        have c1 : w2.cell? ⟨w.heap.size + 2, 1, none⟩ = some (.int .i64 s3.2) := HBx.out.c1
        rw [hN]
        go_wp2_with fail
        refine (refNode_any s3.1 s3.2 _).mono ?_
        rintro e w3 ⟨rfl, hb⟩
        replace HV : Hid (LsE mcCells 7 (fun j => ¬ F j) w3 (.slice a9 L.length c9) (fl L)) := HV.out.below hb
        replace HBe : Hid (Below w.heap.size w w3) := HBe.out.trans (hb.mono HBe.out.size)
        replace HBx : Hid (Bx3 w.heap.size s1 s2 s3 w3) := HBx.out.below hb
        clear hb
        clear a0 a1 b0 b1 c0 c1
        have a0 : w3.cell? ⟨w.heap.size, 0, none⟩ = some (.int .i64 s1.1) := HBx.out.a0
        have a1 : w3.cell? ⟨w.heap.size, 1, none⟩ = some (.int .i64 s1.2) := HBx.out.a1
        have b0 : w3.cell? ⟨w.heap.size + 1, 0, none⟩ = some (.int .i64 s2.1) := HBx.out.b0
        have b1 : w3.cell? ⟨w.heap.size + 1, 1, none⟩ = some (.int .i64 s2.2) := HBx.out.b1
        have c0 : w3.cell? ⟨w.heap.size + 2, 0, none⟩ = some (.int .i64 s3.1) := HBx.out.c0
        have c1 : w3.cell? ⟨w.heap.size + 2, 1, none⟩ = some (.int .i64 s3.2) := HBx.out.c1
        rw [hP]
        go_wp2
        go_ret2
        exact ⟨_, by (rw [HE.out]; rfl), by (rw [HL.out]; exact HV.out), HBe.out⟩
      | true =>
        go_enter Try.func36, Try.ntmps36
        go_wp2_with fail
        have eW2 := eW
        simp only [stCells] at eW2
        rw [← eW2]
        clear eW2 eW
        refine (refRight_bel s1.1 s1.2 _).mono ?_
        rintro e w1 ⟨rfl, hb⟩
        replace HV : Hid (LsE mcCells 7 (fun j => ¬ F j) w1 (.slice a9 L.length c9) (fl L)) := HV.out.below hb
        replace HBe : Hid (Below w.heap.size w w1) := HBe.out.trans (hb.mono HBe.out.size)
        replace HBx : Hid (Bx3 w.heap.size s1 s2 s3 w1) := HBx.out.below hb
        clear hb
        clear a0 a1 b0 b1 c0 c1
        have a0 : w1.cell? ⟨w.heap.size, 0, none⟩ = some (.int .i64 s1.1) := HBx.out.a0
        have a1 : w1.cell? ⟨w.heap.size, 1, none⟩ = some (.int .i64 s1.2) := HBx.out.a1
        have b0 : w1.cell? ⟨w.heap.size + 1, 0, none⟩ = some (.int .i64 s2.1) := HBx.out.b0
        have b1 : w1.cell? ⟨w.heap.size + 1, 1, none⟩ = some (.int .i64 s2.2) := HBx.out.b1
        have c0 : w1.cell? ⟨w.heap.size + 2, 0, none⟩ = some (.int .i64 s3.1) := HBx.out.c0
        have c1 : w1.cell? ⟨w.heap.size + 2, 1, none⟩ = some (.int .i64 s3.2) := HBx.out.c1
        rw [hA]
        go_wp2_with fail
        refine (refRight_bel s2.1 s2.2 _).mono ?_
        rintro e w2 ⟨rfl, hb⟩
        replace HV : Hid (LsE mcCells 7 (fun j => ¬ F j) w2 (.slice a9 L.length c9) (fl L)) := HV.out.below hb
        replace HBe : Hid (Below w.heap.size w w2) := HBe.out.trans (hb.mono HBe.out.size)
        replace HBx : Hid (Bx3 w.heap.size s1 s2 s3 w2) := HBx.out.below hb
        clear hb
        clear a0 a1 b0 b1 c0 c1
        have a0 : w2.cell? ⟨w.heap.size, 0, none⟩ = some (.int .i64 s1.1) := HBx.out.a0
        have a1 : w2.cell? ⟨w.heap.size, 1, none⟩ = some (.int .i64 s1.2) := HBx.out.a1
        have b0 : w2.cell? ⟨w.heap.size + 1, 0, none⟩ = some (.int .i64 s2.1) := HBx.out.b0
        have b1 : w2.cell? ⟨w.heap.size + 1, 1, none⟩ = some (.int .i64 s2.2) := HBx.out.b1
        have c0 : w2.cell? ⟨w.heap.size + 2, 0, none⟩ = some (.int .i64 s3.1) := HBx.out.c0
        have c1 : w2.cell? ⟨w.heap.size + 2, 1, none⟩ = some (.int .i64 s3.2) := HBx.out.c1
        rw [hN]
        go_wp2_with fail
        refine (refNode_any s3.1 s3.2 _).mono ?_
        rintro e w3 ⟨rfl, hb⟩
        replace HV : Hid (LsE mcCells 7 (fun j => ¬ F j) w3 (.slice a9 L.length c9) (fl L)) := HV.out.below hb
        replace HBe : Hid (Below w.heap.size w w3) := HBe.out.trans (hb.mono HBe.out.size)
        replace HBx : Hid (Bx3 w.heap.size s1 s2 s3 w3) := HBx.out.below hb
        clear hb
        clear a0 a1 b0 b1 c0 c1
        have a0 : w3.cell? ⟨w.heap.size, 0, none⟩ = some (.int .i64 s1.1) := HBx.out.a0
        have a1 : w3.cell? ⟨w.heap.size, 1, none⟩ = some (.int .i64 s1.2) := HBx.out.a1
        have b0 : w3.cell? ⟨w.heap.size + 1, 0, none⟩ = some (.int .i64 s2.1) := HBx.out.b0
        have b1 : w3.cell? ⟨w.heap.size + 1, 1, none⟩ = some (.int .i64 s2.2) := HBx.out.b1
        have c0 : w3.cell? ⟨w.heap.size + 2, 0, none⟩ = some (.int .i64 s3.1) := HBx.out.c0
        have c1 : w3.cell? ⟨w.heap.size + 2, 1, none⟩ = some (.int .i64 s3.2) := HBx.out.c1
        rw [hP]
        go_wp2_with fail
        clear a0 a1 b0 b1 c0 c1
        refine (refPut_any (fun j => ¬ F j) (.slice a9 L.length c9) L (⟨s1, s2, s3⟩ : Mv) _ HV.out HSr.out (by omega)).mono ?_
        rintro e w4 (⟨hh, rfl, hb⟩ | ⟨hh, v4, rfl, ho, hb⟩)
        · have HE : Hid (doE L (⟨s1, s2, s3⟩ : Mv) = 5) := by (show _ = _; unfold doE; simp [hA, hN, hP, show hasM L s1 = true from hh])
          have HL : Hid (doL L (⟨s1, s2, s3⟩ : Mv) = L) := by (unfold doL; rw [HE.out]; rfl)
          replace HV : Hid (LsE mcCells 7 (fun j => ¬ F j) w4 (.slice a9 L.length c9) (fl L)) := HV.out.below hb
          replace HBe : Hid (Below w.heap.size w w4) := HBe.out.trans (hb.mono HBe.out.size)
          clear hb hh
          go_wp2
          go_ret2
          exact ⟨_, by (rw [HE.out]; rfl), by (rw [HL.out]; exact HV.out), HBe.out⟩
        · have HE : Hid (doE L (⟨s1, s2, s3⟩ : Mv) = 0) := by (show _ = _; unfold doE; simp [hA, hN, hP, show hasM L s1 = false from hh])
          have HL : Hid (doL L (⟨s1, s2, s3⟩ : Mv) = insM L (⟨s1, s2, s3⟩ : Mv)) := by (unfold doL; rw [HE.out]; rfl)
          replace HV : Hid (LsE mcCells 7 (fun j => ¬ F j) w4 v4 (fl (insM L (⟨s1, s2, s3⟩ : Mv)))) := ho.lsE mcCells_lenR (by (rw [fl_length]; have h9 := insM_le L (⟨s1, s2, s3⟩ : Mv); omega)) (fun k e hk => by have h1 := (ho.lt k e).1; have h2 := HFl.out k hk; have h3 := HBe.out.size; omega)
          replace HBe : Hid (Below w.heap.size w w4) := HBe.out.trans (hb.mono HBe.out.size)
          clear hb hh ho
          go_wp2
          go_ret2
          exact ⟨_, by (rw [HE.out]; rfl), by (rw [HL.out]; exact HV.out), HBe.out⟩

end Go.Proofs.Ytljepindfdhbbaa
