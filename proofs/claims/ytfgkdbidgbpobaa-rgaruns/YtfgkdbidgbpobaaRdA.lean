/- Rows that the document builds; its Right, Has, up, Add. -/
import Derived.Test.YtfgkdbidgbpobaaRwI
import Derived.Test.YtfgkdbidgbpobaaPlainRi
namespace Go.Proofs.Ytfgkdbidgbpobaa
open Go.RowKit
set_option linter.unusedVariables false
set_option linter.unusedSimpArgs false

theorem refRight_bel (c r : Int) (w : World) :
    Calls Try.prog 42 #[.agg #[.int .i64 c, .int .i64 r]] w fun e w' => e = .returned (.bool (rightB c r)) ∧ Below w.heap.size w w' :=
  (refRight_any c r w).mono fun e w' ⟨h, hw⟩ => ⟨h, hw ▸ (Below.refl _ _).alloc (Nat.le_refl _) _⟩

set_option maxHeartbeats 2000000 in
theorem refOk_any (s : Sl) (w : World) :
    Calls Try.prog 29 #[.agg #[.int .i64 s.ts.1, .int .i64 s.ts.2, .int .i64 s.af.1, .int .i64 s.af.2]] w fun e w' => e = .returned (.bool (okS s)) ∧ Below w.heap.size w w' := by
  obtain ⟨⟨c, r⟩, ⟨c2, r2⟩⟩ := s
  obtain ⟨W0, eW⟩ : ∃ X, X = w.alloc (.cells (slCells ⟨(c, r), (c2, r2)⟩).toArray 36) := ⟨_, rfl⟩
  have HB : Hid (Below w.heap.size w W0) := by rw [eW]; exact (Below.refl _ _).alloc (Nat.le_refl _) _
  have HX : Hid (BxC w.heap.size (slCells ⟨(c, r), (c2, r2)⟩) 36 W0) := by rw [eW]; exact BxC.new w _ _
  have HO : Hid (okS ⟨(c, r), (c2, r2)⟩ = (rightB c r && (decide ((c2, r2) = z0) || rightB c2 r2 && lessS c2 r2 c r))) := rfl
  cases hA : rightB c r with
  | false =>
    by_cases e1 : c2 = 0
    · by_cases e2 : r2 = 0
      · subst e1 e2
        have x0 := HX.out.cell 0 _ rfl
        have x1 := HX.out.cell 1 _ rfl
        have x2 := HX.out.cell 2 _ rfl
        have x3 := HX.out.cell 3 _ rfl
        rw [eW] at x0 x1 x2 x3
        go_enter Try.func29, Try.ntmps29
        go_wp2_with fail
        have eW2 := eW
        simp only [slCells] at eW2
        rw [← eW2]
        clear eW2 eW
        refine (refRight_bel _ _ _).mono ?_
        rintro e w1 ⟨rfl, hb⟩
        replace HB : Hid (Below w.heap.size w w1) := HB.out.trans (hb.mono HB.out.size)
        replace HX : Hid (BxC w.heap.size (slCells ⟨(c, r), (0, 0)⟩) 36 w1) := HX.out.below hb
        clear hb x0 x1 x2 x3
        have x0 := HX.out.cell 0 _ rfl
        have x1 := HX.out.cell 1 _ rfl
        have x2 := HX.out.cell 2 _ rfl
        have x3 := HX.out.cell 3 _ rfl
        rw [hA]
        go_wp2
        go_ret
        exact ⟨ret_bool (by rw [HO.out, hA]; rfl), HB.out⟩
      · have e3 : (r2 == 0) = false := by simpa using e2
        subst e1
        have x0 := HX.out.cell 0 _ rfl
        have x1 := HX.out.cell 1 _ rfl
        have x2 := HX.out.cell 2 _ rfl
        have x3 := HX.out.cell 3 _ rfl
        rw [eW] at x0 x1 x2 x3
        go_enter Try.func29, Try.ntmps29
        go_wp2_with fail
        have eW2 := eW
        simp only [slCells] at eW2
        rw [← eW2]
        clear eW2 eW
        refine (refRight_bel _ _ _).mono ?_
        rintro e w1 ⟨rfl, hb⟩
        replace HB : Hid (Below w.heap.size w w1) := HB.out.trans (hb.mono HB.out.size)
        replace HX : Hid (BxC w.heap.size (slCells ⟨(c, r), (0, r2)⟩) 36 w1) := HX.out.below hb
        clear hb x0 x1 x2 x3
        have x0 := HX.out.cell 0 _ rfl
        have x1 := HX.out.cell 1 _ rfl
        have x2 := HX.out.cell 2 _ rfl
        have x3 := HX.out.cell 3 _ rfl
        rw [hA]
        go_wp2
        go_ret
        exact ⟨ret_bool (by rw [HO.out, hA]; rfl), HB.out⟩
    · have e3 : (c2 == 0) = false := by simpa using e1
      have x0 := HX.out.cell 0 _ rfl
      have x1 := HX.out.cell 1 _ rfl
      have x2 := HX.out.cell 2 _ rfl
      have x3 := HX.out.cell 3 _ rfl
      rw [eW] at x0 x1 x2 x3
      go_enter Try.func29, Try.ntmps29
      go_wp2_with fail
      have eW2 := eW
      simp only [slCells] at eW2
      rw [← eW2]
      clear eW2 eW
      refine (refRight_bel _ _ _).mono ?_
      rintro e w1 ⟨rfl, hb⟩
      replace HB : Hid (Below w.heap.size w w1) := HB.out.trans (hb.mono HB.out.size)
      replace HX : Hid (BxC w.heap.size (slCells ⟨(c, r), (c2, r2)⟩) 36 w1) := HX.out.below hb
      clear hb x0 x1 x2 x3
      have x0 := HX.out.cell 0 _ rfl
      have x1 := HX.out.cell 1 _ rfl
      have x2 := HX.out.cell 2 _ rfl
      have x3 := HX.out.cell 3 _ rfl
      rw [hA]
      go_wp2
      go_ret
      exact ⟨ret_bool (by rw [HO.out, hA]; rfl), HB.out⟩
  | true =>
    by_cases e1 : c2 = 0
    · by_cases e2 : r2 = 0
      · subst e1 e2
        have x0 := HX.out.cell 0 _ rfl
        have x1 := HX.out.cell 1 _ rfl
        have x2 := HX.out.cell 2 _ rfl
        have x3 := HX.out.cell 3 _ rfl
        rw [eW] at x0 x1 x2 x3
        go_enter Try.func29, Try.ntmps29
        go_wp2_with fail
        have eW2 := eW
        simp only [slCells] at eW2
        rw [← eW2]
        clear eW2 eW
        refine (refRight_bel _ _ _).mono ?_
        rintro e w1 ⟨rfl, hb⟩
        replace HB : Hid (Below w.heap.size w w1) := HB.out.trans (hb.mono HB.out.size)
        replace HX : Hid (BxC w.heap.size (slCells ⟨(c, r), (0, 0)⟩) 36 w1) := HX.out.below hb
        clear hb x0 x1 x2 x3
        have x0 := HX.out.cell 0 _ rfl
        have x1 := HX.out.cell 1 _ rfl
        have x2 := HX.out.cell 2 _ rfl
        have x3 := HX.out.cell 3 _ rfl
        rw [hA]
        go_wp2
        go_ret
        exact ⟨ret_bool (by rw [HO.out, hA]; rfl), HB.out⟩
      · have e3 : (r2 == 0) = false := by simpa using e2
        have HN : Hid (decide ((c2, r2) = z0) = false) := by (show _ = _; simp [z0, e2])
        subst e1
        cases hP : rightB 0 r2 with
        | false =>
          have x0 := HX.out.cell 0 _ rfl
          have x1 := HX.out.cell 1 _ rfl
          have x2 := HX.out.cell 2 _ rfl
          have x3 := HX.out.cell 3 _ rfl
          rw [eW] at x0 x1 x2 x3
          go_enter Try.func29, Try.ntmps29
          go_wp2_with fail
          have eW2 := eW
          simp only [slCells] at eW2
          rw [← eW2]
          clear eW2 eW
          refine (refRight_bel _ _ _).mono ?_
          rintro e w1 ⟨rfl, hb⟩
          replace HB : Hid (Below w.heap.size w w1) := HB.out.trans (hb.mono HB.out.size)
          replace HX : Hid (BxC w.heap.size (slCells ⟨(c, r), (0, r2)⟩) 36 w1) := HX.out.below hb
          clear hb x0 x1 x2 x3
          have x0 := HX.out.cell 0 _ rfl
          have x1 := HX.out.cell 1 _ rfl
          have x2 := HX.out.cell 2 _ rfl
          have x3 := HX.out.cell 3 _ rfl
          rw [hA]
          go_wp2_with fail
          refine (refRight_bel _ _ _).mono ?_
          rintro e w2 ⟨rfl, hb⟩
          replace HB : Hid (Below w.heap.size w w2) := HB.out.trans (hb.mono HB.out.size)
          replace HX : Hid (BxC w.heap.size (slCells ⟨(c, r), (0, r2)⟩) 36 w2) := HX.out.below hb
          clear hb x0 x1 x2 x3
          have x0 := HX.out.cell 0 _ rfl
          have x1 := HX.out.cell 1 _ rfl
          have x2 := HX.out.cell 2 _ rfl
          have x3 := HX.out.cell 3 _ rfl
          rw [hP]
          go_wp2
          go_ret
          exact ⟨ret_bool (by rw [HO.out, hA, hP, HN.out]; rfl), HB.out⟩
        | true => simp [rightB] at hP
    · have e3 : (c2 == 0) = false := by simpa using e1
      have HN : Hid (decide ((c2, r2) = z0) = false) := by (show _ = _; simp [z0, e1])
      cases hP : rightB c2 r2 with
      | false =>
        have x0 := HX.out.cell 0 _ rfl
        have x1 := HX.out.cell 1 _ rfl
        have x2 := HX.out.cell 2 _ rfl
        have x3 := HX.out.cell 3 _ rfl
        rw [eW] at x0 x1 x2 x3
        go_enter Try.func29, Try.ntmps29
        go_wp2_with fail
        have eW2 := eW
        simp only [slCells] at eW2
        rw [← eW2]
        clear eW2 eW
        refine (refRight_bel _ _ _).mono ?_
        rintro e w1 ⟨rfl, hb⟩
        replace HB : Hid (Below w.heap.size w w1) := HB.out.trans (hb.mono HB.out.size)
        replace HX : Hid (BxC w.heap.size (slCells ⟨(c, r), (c2, r2)⟩) 36 w1) := HX.out.below hb
        clear hb x0 x1 x2 x3
        have x0 := HX.out.cell 0 _ rfl
        have x1 := HX.out.cell 1 _ rfl
        have x2 := HX.out.cell 2 _ rfl
        have x3 := HX.out.cell 3 _ rfl
        rw [hA]
        go_wp2_with fail
        refine (refRight_bel _ _ _).mono ?_
        rintro e w2 ⟨rfl, hb⟩
        replace HB : Hid (Below w.heap.size w w2) := HB.out.trans (hb.mono HB.out.size)
        replace HX : Hid (BxC w.heap.size (slCells ⟨(c, r), (c2, r2)⟩) 36 w2) := HX.out.below hb
        clear hb x0 x1 x2 x3
        have x0 := HX.out.cell 0 _ rfl
        have x1 := HX.out.cell 1 _ rfl
        have x2 := HX.out.cell 2 _ rfl
        have x3 := HX.out.cell 3 _ rfl
        rw [hP]
        go_wp2
        go_ret
        exact ⟨ret_bool (by rw [HO.out, hA, hP, HN.out]; rfl), HB.out⟩
      | true =>
        have x0 := HX.out.cell 0 _ rfl
        have x1 := HX.out.cell 1 _ rfl
        have x2 := HX.out.cell 2 _ rfl
        have x3 := HX.out.cell 3 _ rfl
        rw [eW] at x0 x1 x2 x3
        go_enter Try.func29, Try.ntmps29
        go_wp2_with fail
        have eW2 := eW
        simp only [slCells] at eW2
        rw [← eW2]
        clear eW2 eW
        refine (refRight_bel _ _ _).mono ?_
        rintro e w1 ⟨rfl, hb⟩
        replace HB : Hid (Below w.heap.size w w1) := HB.out.trans (hb.mono HB.out.size)
        replace HX : Hid (BxC w.heap.size (slCells ⟨(c, r), (c2, r2)⟩) 36 w1) := HX.out.below hb
        clear hb x0 x1 x2 x3
        have x0 := HX.out.cell 0 _ rfl
        have x1 := HX.out.cell 1 _ rfl
        have x2 := HX.out.cell 2 _ rfl
        have x3 := HX.out.cell 3 _ rfl
        rw [hA]
        go_wp2_with fail
        refine (refRight_bel _ _ _).mono ?_
        rintro e w2 ⟨rfl, hb⟩
        replace HB : Hid (Below w.heap.size w w2) := HB.out.trans (hb.mono HB.out.size)
        replace HX : Hid (BxC w.heap.size (slCells ⟨(c, r), (c2, r2)⟩) 36 w2) := HX.out.below hb
        clear hb x0 x1 x2 x3
        have x0 := HX.out.cell 0 _ rfl
        have x1 := HX.out.cell 1 _ rfl
        have x2 := HX.out.cell 2 _ rfl
        have x3 := HX.out.cell 3 _ rfl
        rw [hP]
        go_wp2_with fail
        refine (S.refLess_bel _ _ _ _ _).mono ?_
        rintro e w3 ⟨rfl, hb⟩
        replace HB : Hid (Below w.heap.size w w3) := HB.out.trans (hb.mono HB.out.size)
        replace HX : Hid (BxC w.heap.size (slCells ⟨(c, r), (c2, r2)⟩) 36 w3) := HX.out.below hb
        clear hb x0 x1 x2 x3
        have x0 := HX.out.cell 0 _ rfl
        have x1 := HX.out.cell 1 _ rfl
        have x2 := HX.out.cell 2 _ rfl
        have x3 := HX.out.cell 3 _ rfl
        go_wp2
        go_ret
        exact ⟨ret_bool (by rw [HO.out, hA, hP, HN.out]; simp), HB.out⟩

set_option maxHeartbeats 2000000 in
theorem refHas_any (G : Nat → Prop) (v : Value) (L : List Sl) (s : St) (w : World) (h1 : LsE slCells 4 G w v L) :
    Calls Try.prog 30 #[v, .agg #[.int .i64 s.1, .int .i64 s.2]] w fun e w' => e = .returned (.bool (hasL L s)) ∧ Below w.heap.size w w' := by
  obtain ⟨c, r⟩ := s
  obtain ⟨a1, c1, rfl, hc1, hl1, r1⟩ := h1
  have hbox : Below w.heap.size w (w.alloc (.cells #[.int .i64 c, .int .i64 r] 33)) := (Below.refl _ _).alloc (Nat.le_refl _) _
  go_enter Try.func30, Try.ntmps30
  go_wp2
  go_loopw [5] (fun i wr => ∃ k : Nat, k ≤ L.length ∧ i = .int .i64 (k : Int) ∧ Hid (hasL (L.take k) (c, r) = false) ∧ Below (w.heap.size + 1) (w.alloc (.cells #[.int .i64 c, .int .i64 r] 33)) wr) (fun i _ => L.length - (intOf i).toNat)
  case atStart => exact ⟨0, Nat.zero_le _, rfl, by (show _ = _; simp [hasL]), Below.refl _ _⟩
  case round =>
    obtain ⟨k, hk, rfl, HT, hb⟩ := hrel
    have hbw : Below w.heap.size w wr := hbox.trans (hb.mono (by omega))
    have y1 : wr.cell? ⟨w.heap.size, 0, none⟩ = some (.int .i64 c) := (hb.cell (p := ⟨w.heap.size, 0, none⟩) (by show w.heap.size < _; omega)).trans (by simp [go_sem])
    have y2 : wr.cell? ⟨w.heap.size, 1, none⟩ = some (.int .i64 r) := (hb.cell (p := ⟨w.heap.size, 1, none⟩) (by show w.heap.size < _; omega)).trans (by simp [go_sem])
    by_cases hlt : k < L.length
    · obtain ⟨b1, o1, rfl, hg1, hbl, g1⟩ := r1.resolve_left (by intro e; subst e; simp at hlt)
      have x11 : wr.cell? ⟨b1, o1 + k * 4, none⟩ = some (.int .i64 L[k].ts.1) := (hbw.cell (p := ⟨b1, _, none⟩) hbl).trans (g1 k hlt 0 _ rfl)
      have x12 : wr.cell? ⟨b1, o1 + k * 4 + 1, none⟩ = some (.int .i64 L[k].ts.2) := (hbw.cell (p := ⟨b1, _, none⟩) hbl).trans (g1 k hlt 1 _ rfl)
      have k1 : (k : Int) < (L.length : Int) := by omega
      have k0 : (0 : Int) ≤ (k : Int) := by omega
      have hm : L[k] ∈ L := List.getElem_mem hlt
      by_cases hx : L[k].ts = (c, r)
      · have HM : Hid (hasL L (c, r) = true) := hasL_iff.2 ⟨_, hm, hx⟩
        rw [hx] at x11 x12
        clear hx hm g1 r1
        go_wp2
        go_quiet (fail)
        go_wp2
        go_ret
        exact ⟨ret_bool (by rw [HM.out]), below_drewN hbw _⟩
      · have HM : Hid (hasL (L.take (k + 1)) (c, r) = false) := by
          show _ = _
          rw [List.take_succ_eq_append_getElem hlt, hasL_snoc, HT.out]
          simpa using hx
        clear hm
        by_cases hf : L[k].ts.1 = c
        · have q2 : (L[k].ts.2 == r) = false := by
            rw [beq_eq_false_iff_ne]; intro e; exact hx (Prod.ext hf e)
          rw [hf] at x11
          clear hf hx g1 r1
          go_wp2
          go_quiet (fail)
          go_wp2
          go_roundw
          case rel => exact ⟨k + 1, by omega, by go_num, HM, below_drewN hb _⟩
          case measure => simp [intOf]; omega
        · have q2 : (L[k].ts.1 == c) = false := by rw [beq_eq_false_iff_ne]; exact hf
          clear hf hx g1 r1
          go_wp2
          go_quiet (fail)
          go_wp2
          go_roundw
          case rel => exact ⟨k + 1, by omega, by go_num, HM, below_drewN hb _⟩
          case measure => simp [intOf]; omega
    · have he : Hid (hasL L (c, r) = false) := by
        have h := HT.out
        rw [List.take_of_length_le (by omega)] at h
        exact h
      go_wp2
      go_ret
      exact ⟨ret_bool (by rw [he.out]), hbw⟩

set_option maxHeartbeats 2000000 in
theorem refUp_any (G : Nat → Prop) (v : Value) (L : List Sl) (s : Sl) (w : World) (h1 : LsE slCells 4 G w v L) :
    Calls Try.prog 48 #[v, .agg #[.int .i64 s.ts.1, .int .i64 s.ts.2, .int .i64 s.af.1, .int .i64 s.af.2]] w fun e w' => e = .returned (.agg #[.int .i64 (upS L s).1, .int .i64 (upS L s).2]) ∧ Below w.heap.size w w' := by
  obtain ⟨av, cv, ev⟩ := h1.form
  subst ev
  obtain ⟨W0, eW⟩ : ∃ X, X = (w.alloc (.cells (slCells s).toArray 36)).alloc (.cells [.int .i64 0, .int .i64 0].toArray 33) := ⟨_, rfl⟩
  have hb0 : Below w.heap.size w W0 := by rw [eW]; exact ((Below.refl _ _).alloc (Nat.le_refl _) _).alloc (by simp) _
  have HB : Hid (Below w.heap.size w W0) := hb0
  have HX : Hid (BxC w.heap.size (slCells s) 36 W0) := by rw [eW]; exact (BxC.new2 w _ _ _ _).1
  have HR9 : Hid (BxC (w.heap.size + 1) [.int .i64 0, .int .i64 0] 33 W0) := by rw [eW]; exact (BxC.new2 w _ _ _ _).2
  have HL : Hid (LsE slCells 4 G W0 (.slice av L.length cv) L) := h1.below hb0
  have x2 := HX.out.cell 2 _ rfl
  have x3 := HX.out.cell 3 _ rfl
  rw [eW] at x2 x3
  clear h1 hb0
  go_enter Try.func48, Try.ntmps48
  go_wp2_with fail
  have eW2 := eW
  simp only [slCells] at eW2
  rw [← eW2]
  clear eW2 eW x2 x3
  refine (refHas_any G _ L s.af _ HL.out).mono ?_
  rintro e w1 ⟨rfl, hb⟩
  replace HB : Hid (Below w.heap.size w w1) := HB.out.trans (hb.mono HB.out.size)
  replace HR9 : Hid (BxC (w.heap.size + 1) [.int .i64 0, .int .i64 0] 33 w1) := HR9.out.below hb
  replace HX : Hid (BxC w.heap.size (slCells s) 36 w1) := HX.out.below hb
  clear hb
  have x2 := HX.out.cell 2 _ rfl
  have x3 := HX.out.cell 3 _ rfl
  cases hH : hasL L s.af with
  | true =>
    have HU : Hid (upS L s = s.af) := by (show _ = _; unfold upS; rw [hH]; rfl)
    clear hH
    go_wp2_with (refine wpList_store_row rfl 33 (.tmp 4) (.tmp 10) rfl (w.heap.size + 1) 33 #[.int .i64 0, .int .i64 0] #[.int .i64 s.af.1, .int .i64 s.af.2] rfl rfl HR9.out sizeStamp rfl (by simp [Value.oneCell']) ?_)
    (try simp only [Exit.inBlock, Exit.then])
    refine bodyPost_ret (results_cell_row rfl _ _ (w.heap.size + 1) _ #[.int .i64 s.af.1, .int .i64 s.af.2] _ _ rfl (setRow_same HR9.out) Try.underlying33 rfl sizeStamp) rfl ?_
    exact ⟨by rw [HU.out], HB.out.trans ((Touch.of_grown (grown_setRow w1 (w.heap.size + 1) _) (F := fun j => j = w.heap.size + 1) fun j e _ => by cases e; rfl).below (fun j e => by omega) HB.out.size)⟩
  | false =>
    have HU : Hid (upS L s = z0) := by (show _ = _; unfold upS; rw [hH]; rfl)
    clear hH
    go_wp2_with (refine wpList_store_row rfl 33 (.tmp 4) (.tmp 11) rfl (w.heap.size + 1) 33 #[.int .i64 0, .int .i64 0] #[.int .i64 0, .int .i64 0] rfl rfl HR9.out sizeStamp rfl (by simp [Value.oneCell']) ?_)
    (try simp only [Exit.inBlock, Exit.then])
    refine bodyPost_ret (results_cell_row rfl _ _ (w.heap.size + 1) _ #[.int .i64 0, .int .i64 0] _ _ rfl (setRow_same HR9.out) Try.underlying33 rfl sizeStamp) rfl ?_
    exact ⟨by rw [HU.out], HB.out.trans ((Touch.of_grown (grown_setRow w1 (w.heap.size + 1) _) (F := fun j => j = w.heap.size + 1) fun j e _ => by cases e; rfl).below (fun j e => by omega) HB.out.size)⟩

end Go.Proofs.Ytfgkdbidgbpobaa
