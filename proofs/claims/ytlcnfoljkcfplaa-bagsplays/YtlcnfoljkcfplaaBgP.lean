/- What a call of a nil net tells. -/
import Derived.Test.YtlcnfoljkcfplaaBgM
import Derived.Test.YtlcnfoljkcfplaaBgAc
namespace Go.Proofs.Ytlcnfoljkcfplaa
open Go.RowKit Go.Shelf
set_option linter.unusedVariables false
set_option linter.unusedSimpArgs false

structure RowA7 (b : Nat) (kd fr to i at_ mask : Int) (pv : Value) (W : World) : Prop where
  out : W.heap[b]? = some (.cells #[.int .i64 kd, .int .i64 fr, .int .i64 to, .int .i64 i, .int .i64 at_, .int .i64 mask, pv] 33)
section
variable {b : Nat} {kd fr to i at_ mask : Int} {pv : Value} {W W' : World}
theorem RowA7.below (h : RowA7 b kd fr to i at_ mask pv W) (hb : Below W.heap.size W W') : RowA7 b kd fr to i at_ mask pv W' := ⟨(hb.block _ (row_lt h.out)).trans h.out⟩
theorem RowA7.set (h : RowA7 b kd fr to i at_ mask pv W) {g j : Nat} {v : Value} (hne : b ≠ g) : RowA7 b kd fr to i at_ mask pv (W.setCell ⟨g, j, none⟩ v) := ⟨row_set_other h.out hne⟩
theorem RowA7.cells (h : RowA7 b kd fr to i at_ mask pv W) : W.cell? ⟨b, 0, none⟩ = some (.int .i64 kd) ∧ W.cell? ⟨b, 1, none⟩ = some (.int .i64 fr) ∧ W.cell? ⟨b, 2, none⟩ = some (.int .i64 to) ∧ W.cell? ⟨b, 3, none⟩ = some (.int .i64 i) ∧ W.cell? ⟨b, 4, none⟩ = some (.int .i64 at_) ∧ W.cell? ⟨b, 5, none⟩ = some (.int .i64 mask) ∧ W.cell? ⟨b, 6, none⟩ = some pv := by
  refine ⟨?_, ?_, ?_, ?_, ?_, ?_, ?_⟩ <;> (rw [cell_of_row W b _ _ _ _ h.out]; rfl)
end

set_option maxRecDepth 100000 in
set_option maxHeartbeats 16000000 in
theorem play_nil (kd fr to i at_ mask : Int) (pv : Value) (p : List UInt8) (w : World) (h : IsB w pv p) (hp : p.length ≤ 140737488351232) :
    Calls Try.prog 9 #[.pointer none, .agg #[.int .i64 0, .slice none 0 0], .agg #[.int .i64 kd, .int .i64 fr, .int .i64 to, .int .i64 i, .int .i64 at_, .int .i64 mask, pv]] w fun e w' => e = .returned (.tuple #[.agg #[.int .i64 0, .slice none 0 0], .bool true]) ∧ Below w.heap.size w w' := by
  obtain ⟨ap, cp, ep⟩ := h.form
  subst ep
  obtain ⟨W0, eW⟩ : ∃ X, X = ((w.alloc (.cells #[.int .i64 0, .slice none 0 0] 30)).alloc (.cells #[.int .i64 kd, .int .i64 fr, .int .i64 to, .int .i64 i, .int .i64 at_, .int .i64 mask, .slice ap p.length cp] 33)).alloc (.cells #[.int .i64 0, .slice none 0 0] 30) := ⟨_, rfl⟩
  have e1 : (w.alloc (.cells #[.int .i64 0, .slice none 0 0] 30)).heap.size = w.heap.size + 1 := by simp
  have e2 : ((w.alloc (.cells #[.int .i64 0, .slice none 0 0] 30)).alloc (.cells #[.int .i64 kd, .int .i64 fr, .int .i64 to, .int .i64 i, .int .i64 at_, .int .i64 mask, .slice ap p.length cp] 33)).heap.size = w.heap.size + 2 := by simp
  have hb0 : Below w.heap.size w W0 := by rw [eW]; exact (((Below.refl _ _).alloc (Nat.le_refl _) _).alloc (by simp) _).alloc (by simp; omega) _
  have hs0 : W0.heap.size = w.heap.size + 3 := by rw [eW]; simp
  have HX0 : Hid (BxN w.heap.size W0) := by rw [eW]; exact (Below.heap_alloc _ _ _ (by simp; omega)).trans ((Below.heap_alloc _ _ _ (by simp)).trans (heap_alloc_new w _))
  have HRa0 : Hid (RowA7 (w.heap.size + 1) kd fr to i at_ mask (.slice ap p.length cp) W0) := by
    rw [eW]
    have h0 := heap_alloc_new (w.alloc (.cells #[.int .i64 0, .slice none 0 0] 30)) (.cells #[.int .i64 kd, .int .i64 fr, .int .i64 to, .int .i64 i, .int .i64 at_, .int .i64 mask, .slice ap p.length cp] 33)
    rw [e1] at h0
    exact ⟨(Below.heap_alloc _ _ _ (by simp)).trans h0⟩
  have HRz0 : Hid (BxN (w.heap.size + 2) W0) := by
    rw [eW]
    have h0 := heap_alloc_new ((w.alloc (.cells #[.int .i64 0, .slice none 0 0] 30)).alloc (.cells #[.int .i64 kd, .int .i64 fr, .int .i64 to, .int .i64 i, .int .i64 at_, .int .i64 mask, .slice ap p.length cp] 33)) (.cells #[.int .i64 0, .slice none 0 0] 30)
    rw [e2] at h0
    exact h0
  have HBw0 : Hid (BelowH w W0) := hb0
  have HI0 : Hid (IsB W0 (.slice ap p.length cp) p) := h.below hb0
  clear h hb0 e1 e2
  by_cases hk1 : kd = 1
  · subst hk1
    have ca := HRa0.out.cells
    obtain ⟨y_0, y_1, _, _⟩ := row2_cells HX0.out
    obtain ⟨a_0, a_1, a_2, a_3, a_4, a_5, a_6⟩ := ca
    rw [eW] at y_0 y_1 a_0 a_1 a_2 a_3 a_4 a_5 a_6
    go_enter Try.func9, Try.ntmps9
    go_wp2_with fail
    rw [← eW]
    clear y_0 y_1 a_0 a_1 a_2 a_3 a_4 a_5 a_6
    refine (refDeliver0 fr to i _).mono ?_
    rintro e w2 ⟨rfl, hb2⟩
    obtain ⟨w3, eW3⟩ : ∃ X, X = w2.alloc (.cells #[.int .i64 0, .slice none 0 0] 30) := ⟨_, rfl⟩
    have hb3 : Below w2.heap.size w2 w3 := by rw [eW3]; exact (Below.refl _ _).alloc (Nat.le_refl _) _
    obtain ⟨zb, ezb⟩ : ∃ zb, zb = w2.heap.size := ⟨_, rfl⟩
    have HZb : Hid (BxN zb w3) := by rw [eW3, ezb]; exact heap_alloc_new w2 _
    have hzb : w.heap.size + 3 ≤ zb := by rw [ezb]; have := hb2.size; omega
    have hb23 : Below W0.heap.size W0 w3 := hb2.trans (hb3.mono hb2.size)
    have HRz : Hid (BxN (w.heap.size + 2) w3) := HRz0.out.below hb23
    have HRa : Hid (RowA7 (w.heap.size + 1) 1 fr to i at_ mask (.slice ap p.length cp) w3) := HRa0.out.below hb23
    have HBw : Hid (BelowH w w3) := BelowH.below HBw0.out hb23
    obtain ⟨a_0, a_1, a_2, a_3, a_4, a_5, a_6⟩ := HRa.out.cells
    rw [eW3] at a_0 a_1 a_2 a_3 a_4 a_5 a_6
    clear hb2 hb3 hb23 eW
    go_wp2_with fail
    rw [← eW3]
    refine (deliver_nil fr to i _).mono ?_
    rintro e w' ⟨rfl, hw⟩
    replace hw := hw.symm
    subst hw
    go_upto_region 14 with fail
    rw [← eW3]
    clear eW3 a_0 a_1 a_2 a_3 a_4 a_5 a_6
    (try rw [← ezb])
    clear ezb
    refine wp_region_held_drew (S := fun W' => BxN zb W' ∧ RowA7 (w.heap.size + 1) 1 fr to i at_ mask (.slice ap p.length cp) W') (by kernel_rfl) ⟨HZb.out.below (Below.refl _ _).drew, HRa.out.below (Below.refl _ _).drew⟩ (fun hHeld => ?_)
    obtain ⟨Ud2u0, eW⟩ : ∃ X, X = w3.drew := ⟨_, rfl⟩
    have hb : Below w3.heap.size w3 Ud2u0 := by rw [eW]; exact (Below.refl _ _).drew
    replace HRz : Hid (BxN (w.heap.size + 2) Ud2u0) := HRz.out.below hb
    replace HBw : Hid (BelowH w Ud2u0) := HBw.out.below hb
    rw [← eW] at hHeld ⊢
    clear eW hb
    refine wpAnyH_take (i := 0) (oi := ⟨some 100, _, _, _, _, _⟩) (v := ?vd2ux0) rfl (by kernel_rfl) (by kernel_rfl) (by kernel_rfl) (fun _ _ _ h => h) (Or.inl ⟨by rfl, ?hyd2ux0⟩) hHeld ?restd2ux0
    case hyd2ux0 => (intro w hSw; (try dsimp only at hSw); obtain ⟨hz, ha⟩ := hSw; obtain ⟨z_0, z_1, _, _⟩ := row2_cells hz; obtain ⟨a_0, a_1, a_2, a_3, a_4, a_5, a_6⟩ := ha.cells; have kc := conv_txt (w := w) (IsB.non 0); go_simp; try with_reducible rfl)
    simp only [Act.put, List.setIfInBounds_toArray, List.set_cons_zero, List.set_cons_succ]
    refine wpAnyH_take (i := 1) (oi := ⟨some 101, _, _, _, _, _⟩) (v := ?vd2ux1) rfl (by kernel_rfl) (by kernel_rfl) (by kernel_rfl) (fun _ _ _ h => h) (Or.inl ⟨by rfl, ?hyd2ux1⟩) hHeld ?restd2ux1
    case hyd2ux1 => (intro w _; go_simp; try with_reducible rfl)
    simp only [Act.put, List.setIfInBounds_toArray, List.set_cons_zero, List.set_cons_succ]
    refine wpAnyH_take (i := 2) (oi := ⟨some 102, _, _, _, _, _⟩) (v := ?vd2ux2) rfl (by kernel_rfl) (by kernel_rfl) (by kernel_rfl) (fun _ _ _ h => h) (Or.inl ⟨by rfl, ?hyd2ux2⟩) hHeld ?restd2ux2
    case hyd2ux2 => (intro w _; go_simp; try with_reducible rfl)
    simp only [Act.put, List.setIfInBounds_toArray, List.set_cons_zero, List.set_cons_succ]
    refine wpAnyH_take (i := 3) (oi := ⟨some 103, _, _, _, _, _⟩) (v := ?vd2ux3) rfl (by kernel_rfl) (by kernel_rfl) (by kernel_rfl) (fun _ _ _ h => h) (Or.inl ⟨by rfl, ?hyd2ux3⟩) hHeld ?restd2ux3
    case hyd2ux3 => (intro w hSw; (try dsimp only at hSw); obtain ⟨hz, ha⟩ := hSw; obtain ⟨z_0, z_1, _, _⟩ := row2_cells hz; obtain ⟨a_0, a_1, a_2, a_3, a_4, a_5, a_6⟩ := ha.cells; have kc := conv_txt (w := w) (IsB.non 0); go_simp; try with_reducible rfl)
    simp only [Act.put, List.setIfInBounds_toArray, List.set_cons_zero, List.set_cons_succ]
    refine wpAnyH_take (i := 4) (oi := ⟨some 104, _, _, _, _, _⟩) (v := ?vd2ux4) rfl (by kernel_rfl) (by kernel_rfl) (by kernel_rfl) (fun _ _ _ h => h) (Or.inl ⟨by rfl, ?hyd2ux4⟩) hHeld ?restd2ux4
    case hyd2ux4 => (intro w _; go_simp; try with_reducible rfl)
    simp only [Act.put, List.setIfInBounds_toArray, List.set_cons_zero, List.set_cons_succ]
    refine wpAnyH_take (i := 5) (oi := ⟨some 105, _, _, _, _, _⟩) (v := ?vd2ux5) rfl (by kernel_rfl) (by kernel_rfl) (by kernel_rfl) (fun _ _ _ h => h) (Or.inl ⟨by rfl, ?hyd2ux5⟩) hHeld ?restd2ux5
    case hyd2ux5 => (intro w _; go_simp; try with_reducible rfl)
    simp only [Act.put, List.setIfInBounds_toArray, List.set_cons_zero, List.set_cons_succ]
    refine wpAnyH_take (i := 6) (oi := ⟨some 106, _, _, _, _, _⟩) (v := ?vd2ux6) rfl (by kernel_rfl) (by kernel_rfl) (by kernel_rfl) (fun _ _ _ h => h) (Or.inl ⟨by rfl, ?hyd2ux6⟩) hHeld ?restd2ux6
    case hyd2ux6 => (intro w hSw; (try dsimp only at hSw); obtain ⟨hz, ha⟩ := hSw; obtain ⟨z_0, z_1, _, _⟩ := row2_cells hz; obtain ⟨a_0, a_1, a_2, a_3, a_4, a_5, a_6⟩ := ha.cells; have kc := conv_txt (w := w) (IsB.non 0); go_simp; try with_reducible rfl)
    simp only [Act.put, List.setIfInBounds_toArray, List.set_cons_zero, List.set_cons_succ]
    refine wpAnyH_take (i := 7) (oi := ⟨some 107, _, _, _, _, _⟩) (v := ?vd2ux7) rfl (by kernel_rfl) (by kernel_rfl) (by kernel_rfl) (fun _ _ _ h => h) (Or.inl ⟨by rfl, ?hyd2ux7⟩) hHeld ?restd2ux7
    case hyd2ux7 => (intro w _; go_simp; try with_reducible rfl)
    simp only [Act.put, List.setIfInBounds_toArray, List.set_cons_zero, List.set_cons_succ]
    refine wpAnyH_take (i := 8) (oi := ⟨some 108, _, _, _, _, _⟩) (v := ?vd2ux8) rfl (by kernel_rfl) (by kernel_rfl) (by kernel_rfl) (fun _ _ _ h => h) (Or.inl ⟨by rfl, ?hyd2ux8⟩) hHeld ?restd2ux8
    case hyd2ux8 => (intro w hSw; (try dsimp only at hSw); obtain ⟨hz, ha⟩ := hSw; obtain ⟨z_0, z_1, _, _⟩ := row2_cells hz; obtain ⟨a_0, a_1, a_2, a_3, a_4, a_5, a_6⟩ := ha.cells; have kc := conv_txt (w := w) (IsB.non 0); go_simp; try with_reducible rfl)
    simp only [Act.put, List.setIfInBounds_toArray, List.set_cons_zero, List.set_cons_succ]
    refine wpAnyH_take (i := 9) (oi := ⟨some 109, _, _, _, _, _⟩) (v := ?vd2ux9) rfl (by kernel_rfl) (by kernel_rfl) (by kernel_rfl) (fun _ _ _ h => h) (Or.inl ⟨by rfl, ?hyd2ux9⟩) hHeld ?restd2ux9
    case hyd2ux9 => (intro w hSw; (try dsimp only at hSw); obtain ⟨hz, ha⟩ := hSw; obtain ⟨z_0, z_1, _, _⟩ := row2_cells hz; obtain ⟨a_0, a_1, a_2, a_3, a_4, a_5, a_6⟩ := ha.cells; have kc := conv_txt (w := w) (IsB.non 0); go_simp; try with_reducible rfl)
    simp only [Act.put, List.setIfInBounds_toArray, List.set_cons_zero, List.set_cons_succ]
    refine wpAnyH_take (i := 10) (oi := ⟨some 110, _, _, _, _, _⟩) (v := ?vd2ux10) rfl (by kernel_rfl) (by kernel_rfl) (by kernel_rfl) (fun _ _ _ h => h) (Or.inl ⟨by rfl, ?hyd2ux10⟩) hHeld ?restd2ux10
    case hyd2ux10 => (intro w _; go_simp; try with_reducible rfl)
    simp only [Act.put, List.setIfInBounds_toArray, List.set_cons_zero, List.set_cons_succ]
    refine wpAnyH_ready (rs := [11]) (by kernel_rfl) (by simp) ?_
    refine AllReadyH.cons (o := ⟨none, _, _, _, _, _⟩) rfl (fun K hK => ?_) AllReadyH.nil
    obtain ⟨r_0, r_1, r_2, r_3⟩ := row2_cells HRz.out
    go_simp
    refine hK.out _ _ (⟨row_set_other (row_set_other hHeld.1 (by omega)) (by omega), (hHeld.2.set (by omega)).set (by omega)⟩) (fun hHeld2 => ?_)
    clear hK K hHeld
    have hHeld := hHeld2
    clear hHeld2
    (try simp only [Act.put, List.setIfInBounds_toArray, List.set_cons_zero, List.set_cons_succ])
    have HSm : Hid (((Ud2u0.setCell ⟨w.heap.size + 2, 0, none⟩ (.int .i64 0)).setCell ⟨w.heap.size + 2, 1, none⟩ (.slice none 0 0)).heap[w.heap.size + 2]? = some (.cells #[.int .i64 0, .slice none 0 0] 30)) := row_set2 HRz.out
    have HBs : Hid (Below w.heap.size w ((Ud2u0.setCell ⟨w.heap.size + 2, 0, none⟩ (.int .i64 0)).setCell ⟨w.heap.size + 2, 1, none⟩ (.slice none 0 0))) := (Below.setCell HBw.out (p := ⟨w.heap.size + 2, 0, none⟩) (by show w.heap.size ≤ w.heap.size + 2; omega) _).setCell (p := ⟨w.heap.size + 2, 1, none⟩) (by show w.heap.size ≤ w.heap.size + 2; omega) _
    clear r_0 r_1 r_2 r_3 HRz HBw
    refine wpAnyH_take (i := 12) (oi := ⟨some 7, _, _, _, _, _⟩) (v := ?vd2u_11x12) rfl (by kernel_rfl) (by kernel_rfl) (by kernel_rfl) (fun _ _ _ h => h) (Or.inl ⟨by rfl, ?hyd2u_11x12⟩) hHeld ?restd2u_11x12
    case hyd2u_11x12 => (intro w _; go_simp; try with_reducible rfl)
    simp only [Act.put, List.setIfInBounds_toArray, List.set_cons_zero, List.set_cons_succ]
    refine wpAnyH_done (by kernel_rfl) ?_ _
    clear hHeld
    go_wp2
    (try simp only [Exit.inBlock, Exit.then])
    refine bodyPost_ret (results_cell_row2 rfl _ _ (w.heap.size + 2) _ _ _ _ rfl HSm.out Try.underlying30 rfl (by kernel_rfl) rfl) rfl ?_
    exact ⟨rfl, HBs.out⟩
  by_cases hk2 : kd = 2
  · subst hk2
    have ca := HRa0.out.cells
    obtain ⟨y_0, y_1, _, _⟩ := row2_cells HX0.out
    obtain ⟨a_0, a_1, a_2, a_3, a_4, a_5, a_6⟩ := ca
    rw [eW] at y_0 y_1 a_0 a_1 a_2 a_3 a_4 a_5 a_6
    go_enter Try.func9, Try.ntmps9
    go_wp2_with fail
    rw [← eW]
    clear y_0 y_1 a_0 a_1 a_2 a_3 a_4 a_5 a_6
    refine (refDeliver0 fr to i _).mono ?_
    rintro e w2 ⟨rfl, hb2⟩
    obtain ⟨w3, eW3⟩ : ∃ X, X = w2.alloc (.cells #[.int .i64 0, .slice none 0 0] 30) := ⟨_, rfl⟩
    have hb3 : Below w2.heap.size w2 w3 := by rw [eW3]; exact (Below.refl _ _).alloc (Nat.le_refl _) _
    obtain ⟨zb, ezb⟩ : ∃ zb, zb = w2.heap.size := ⟨_, rfl⟩
    have HZb : Hid (BxN zb w3) := by rw [eW3, ezb]; exact heap_alloc_new w2 _
    have hzb : w.heap.size + 3 ≤ zb := by rw [ezb]; have := hb2.size; omega
    have hb23 : Below W0.heap.size W0 w3 := hb2.trans (hb3.mono hb2.size)
    have HRz : Hid (BxN (w.heap.size + 2) w3) := HRz0.out.below hb23
    have HRa : Hid (RowA7 (w.heap.size + 1) 2 fr to i at_ mask (.slice ap p.length cp) w3) := HRa0.out.below hb23
    have HBw : Hid (BelowH w w3) := BelowH.below HBw0.out hb23
    obtain ⟨a_0, a_1, a_2, a_3, a_4, a_5, a_6⟩ := HRa.out.cells
    rw [eW3] at a_0 a_1 a_2 a_3 a_4 a_5 a_6
    clear hb2 hb3 hb23 eW
    go_upto_region 17 with fail
    rw [← eW3]
    clear eW3 a_0 a_1 a_2 a_3 a_4 a_5 a_6
    (try rw [← ezb])
    clear ezb
    refine wp_region_held_drew (S := fun W' => BxN zb W' ∧ RowA7 (w.heap.size + 1) 2 fr to i at_ mask (.slice ap p.length cp) W') (by kernel_rfl) ⟨HZb.out.below (Below.refl _ _).drew, HRa.out.below (Below.refl _ _).drew⟩ (fun hHeld => ?_)
    obtain ⟨Ul3u0, eW⟩ : ∃ X, X = w3.drew := ⟨_, rfl⟩
    have hb : Below w3.heap.size w3 Ul3u0 := by rw [eW]; exact (Below.refl _ _).drew
    replace HRz : Hid (BxN (w.heap.size + 2) Ul3u0) := HRz.out.below hb
    replace HBw : Hid (BelowH w Ul3u0) := HBw.out.below hb
    rw [← eW] at hHeld ⊢
    clear eW hb
    refine wpAnyH_take (i := 0) (oi := ⟨some 125, _, _, _, _, _⟩) (v := ?vl3ux0) rfl (by kernel_rfl) (by kernel_rfl) (by kernel_rfl) (fun _ _ _ h => h) (Or.inl ⟨by rfl, ?hyl3ux0⟩) hHeld ?restl3ux0
    case hyl3ux0 => (intro w hSw; (try dsimp only at hSw); obtain ⟨hz, ha⟩ := hSw; obtain ⟨z_0, z_1, _, _⟩ := row2_cells hz; obtain ⟨a_0, a_1, a_2, a_3, a_4, a_5, a_6⟩ := ha.cells; have kc := conv_txt (w := w) (IsB.non 0); go_simp; try with_reducible rfl)
    simp only [Act.put, List.setIfInBounds_toArray, List.set_cons_zero, List.set_cons_succ]
    refine wpAnyH_take (i := 1) (oi := ⟨some 126, _, _, _, _, _⟩) (v := ?vl3ux1) rfl (by kernel_rfl) (by kernel_rfl) (by kernel_rfl) (fun _ _ _ h => h) (Or.inl ⟨by rfl, ?hyl3ux1⟩) hHeld ?restl3ux1
    case hyl3ux1 => (intro w _; go_simp; try with_reducible rfl)
    simp only [Act.put, List.setIfInBounds_toArray, List.set_cons_zero, List.set_cons_succ]
    refine wpAnyH_take (i := 2) (oi := ⟨some 127, _, _, _, _, _⟩) (v := ?vl3ux2) rfl (by kernel_rfl) (by kernel_rfl) (by kernel_rfl) (fun _ _ _ h => h) (Or.inl ⟨by rfl, ?hyl3ux2⟩) hHeld ?restl3ux2
    case hyl3ux2 => (intro w _; go_simp; try with_reducible rfl)
    simp only [Act.put, List.setIfInBounds_toArray, List.set_cons_zero, List.set_cons_succ]
    refine wpAnyH_take (i := 3) (oi := ⟨some 128, _, _, _, _, _⟩) (v := ?vl3ux3) rfl (by kernel_rfl) (by kernel_rfl) (by kernel_rfl) (fun _ _ _ h => h) (Or.inl ⟨by rfl, ?hyl3ux3⟩) hHeld ?restl3ux3
    case hyl3ux3 => (intro w hSw; (try dsimp only at hSw); obtain ⟨hz, ha⟩ := hSw; obtain ⟨z_0, z_1, _, _⟩ := row2_cells hz; obtain ⟨a_0, a_1, a_2, a_3, a_4, a_5, a_6⟩ := ha.cells; have kc := conv_txt (w := w) (IsB.non 0); go_simp; try with_reducible rfl)
    simp only [Act.put, List.setIfInBounds_toArray, List.set_cons_zero, List.set_cons_succ]
    refine wpAnyH_take (i := 4) (oi := ⟨some 129, _, _, _, _, _⟩) (v := ?vl3ux4) rfl (by kernel_rfl) (by kernel_rfl) (by kernel_rfl) (fun _ _ _ h => h) (Or.inl ⟨by rfl, ?hyl3ux4⟩) hHeld ?restl3ux4
    case hyl3ux4 => (intro w _; go_simp; try with_reducible rfl)
    simp only [Act.put, List.setIfInBounds_toArray, List.set_cons_zero, List.set_cons_succ]
    refine wpAnyH_take (i := 5) (oi := ⟨some 130, _, _, _, _, _⟩) (v := ?vl3ux5) rfl (by kernel_rfl) (by kernel_rfl) (by kernel_rfl) (fun _ _ _ h => h) (Or.inl ⟨by rfl, ?hyl3ux5⟩) hHeld ?restl3ux5
    case hyl3ux5 => (intro w hSw; (try dsimp only at hSw); obtain ⟨hz, ha⟩ := hSw; obtain ⟨z_0, z_1, _, _⟩ := row2_cells hz; obtain ⟨a_0, a_1, a_2, a_3, a_4, a_5, a_6⟩ := ha.cells; have kc := conv_txt (w := w) (IsB.non 0); go_simp; try with_reducible rfl)
    simp only [Act.put, List.setIfInBounds_toArray, List.set_cons_zero, List.set_cons_succ]
    refine wpAnyH_take (i := 6) (oi := ⟨some 131, _, _, _, _, _⟩) (v := ?vl3ux6) rfl (by kernel_rfl) (by kernel_rfl) (by kernel_rfl) (fun _ _ _ h => h) (Or.inl ⟨by rfl, ?hyl3ux6⟩) hHeld ?restl3ux6
    case hyl3ux6 => (intro w _; go_simp; try with_reducible rfl)
    simp only [Act.put, List.setIfInBounds_toArray, List.set_cons_zero, List.set_cons_succ]
    refine wpAnyH_take (i := 7) (oi := ⟨some 132, _, _, _, _, _⟩) (v := ?vl3ux7) rfl (by kernel_rfl) (by kernel_rfl) (by kernel_rfl) (fun _ _ _ h => h) (Or.inl ⟨by rfl, ?hyl3ux7⟩) hHeld ?restl3ux7
    case hyl3ux7 => (intro w hSw; (try dsimp only at hSw); obtain ⟨hz, ha⟩ := hSw; obtain ⟨z_0, z_1, _, _⟩ := row2_cells hz; obtain ⟨a_0, a_1, a_2, a_3, a_4, a_5, a_6⟩ := ha.cells; have kc := conv_txt (w := w) (IsB.non 0); go_simp; try with_reducible rfl)
    simp only [Act.put, List.setIfInBounds_toArray, List.set_cons_zero, List.set_cons_succ]
    refine wpAnyH_take (i := 9) (oi := ⟨some 134, _, _, _, _, _⟩) (v := ?vl3ux9) rfl (by kernel_rfl) (by kernel_rfl) (by kernel_rfl) (fun _ _ _ h => h) (Or.inl ⟨by rfl, ?hyl3ux9⟩) hHeld ?restl3ux9
    case hyl3ux9 => (intro w _; go_simp; try with_reducible rfl)
    simp only [Act.put, List.setIfInBounds_toArray, List.set_cons_zero, List.set_cons_succ]
    refine wpAnyH_ready (rs := [8]) (by kernel_rfl) (by simp) ?_
    refine AllReadyH.cons (o := ⟨some 133, _, _, _, _, _⟩) rfl (fun K hK => ?_) AllReadyH.nil
    go_simp
    refine (lose_nil fr to i _).mono ?_
    rintro e w' ⟨rfl, hw⟩
    replace hw := hw.symm
    subst hw
    (try go_wp2_with fail)
    refine hK.out _ _ (hHeld) (fun hHeld2 => ?_)
    clear hK K hHeld
    have hHeld := hHeld2
    clear hHeld2
    (try simp only [Act.put, List.setIfInBounds_toArray, List.set_cons_zero, List.set_cons_succ])
    refine wpAnyH_take (i := 10) (oi := ⟨some 135, _, _, _, _, _⟩) (v := ?vl3u_8x10) rfl (by kernel_rfl) (by kernel_rfl) (by kernel_rfl) (fun _ _ _ h => h) (Or.inl ⟨by rfl, ?hyl3u_8x10⟩) hHeld ?restl3u_8x10
    case hyl3u_8x10 => (intro w hSw; (try dsimp only at hSw); obtain ⟨hz, ha⟩ := hSw; obtain ⟨z_0, z_1, _, _⟩ := row2_cells hz; obtain ⟨a_0, a_1, a_2, a_3, a_4, a_5, a_6⟩ := ha.cells; have kc := conv_txt (w := w) (IsB.non 0); go_simp; try with_reducible rfl)
    simp only [Act.put, List.setIfInBounds_toArray, List.set_cons_zero, List.set_cons_succ]
    refine wpAnyH_ready (rs := [11]) (by kernel_rfl) (by simp) ?_
    refine AllReadyH.cons (o := ⟨none, _, _, _, _, _⟩) rfl (fun K hK => ?_) AllReadyH.nil
    obtain ⟨r_0, r_1, r_2, r_3⟩ := row2_cells HRz.out
    go_simp
    refine hK.out _ _ (⟨row_set_other (row_set_other hHeld.1 (by omega)) (by omega), (hHeld.2.set (by omega)).set (by omega)⟩) (fun hHeld2 => ?_)
    clear hK K hHeld
    have hHeld := hHeld2
    clear hHeld2
    (try simp only [Act.put, List.setIfInBounds_toArray, List.set_cons_zero, List.set_cons_succ])
    have HSm : Hid (((Ul3u0.setCell ⟨w.heap.size + 2, 0, none⟩ (.int .i64 0)).setCell ⟨w.heap.size + 2, 1, none⟩ (.slice none 0 0)).heap[w.heap.size + 2]? = some (.cells #[.int .i64 0, .slice none 0 0] 30)) := row_set2 HRz.out
    have HBs : Hid (Below w.heap.size w ((Ul3u0.setCell ⟨w.heap.size + 2, 0, none⟩ (.int .i64 0)).setCell ⟨w.heap.size + 2, 1, none⟩ (.slice none 0 0))) := (Below.setCell HBw.out (p := ⟨w.heap.size + 2, 0, none⟩) (by show w.heap.size ≤ w.heap.size + 2; omega) _).setCell (p := ⟨w.heap.size + 2, 1, none⟩) (by show w.heap.size ≤ w.heap.size + 2; omega) _
    clear r_0 r_1 r_2 r_3 HRz HBw
    refine wpAnyH_take (i := 12) (oi := ⟨some 7, _, _, _, _, _⟩) (v := ?vl3u_8_11x12) rfl (by kernel_rfl) (by kernel_rfl) (by kernel_rfl) (fun _ _ _ h => h) (Or.inl ⟨by rfl, ?hyl3u_8_11x12⟩) hHeld ?restl3u_8_11x12
    case hyl3u_8_11x12 => (intro w _; go_simp; try with_reducible rfl)
    simp only [Act.put, List.setIfInBounds_toArray, List.set_cons_zero, List.set_cons_succ]
    refine wpAnyH_done (by kernel_rfl) ?_ _
    clear hHeld
    go_wp2
    (try simp only [Exit.inBlock, Exit.then])
    refine bodyPost_ret (results_cell_row2 rfl _ _ (w.heap.size + 2) _ _ _ _ rfl HSm.out Try.underlying30 rfl (by kernel_rfl) rfl) rfl ?_
    exact ⟨rfl, HBs.out⟩
  by_cases hk3 : kd = 3
  · subst hk3
    have ca := HRa0.out.cells
    obtain ⟨y_0, y_1, _, _⟩ := row2_cells HX0.out
    obtain ⟨a_0, a_1, a_2, a_3, a_4, a_5, a_6⟩ := ca
    rw [eW] at y_0 y_1 a_0 a_1 a_2 a_3 a_4 a_5 a_6
    go_enter Try.func9, Try.ntmps9
    go_wp2_with fail
    rw [← eW]
    clear y_0 y_1 a_0 a_1 a_2 a_3 a_4 a_5 a_6
    refine (refDouble0 fr to i _).mono ?_
    rintro e w2 ⟨rfl, hb2⟩
    obtain ⟨w3, eW3⟩ : ∃ X, X = w2.alloc (.cells #[.int .i64 0, .slice none 0 0] 30) := ⟨_, rfl⟩
    have hb3 : Below w2.heap.size w2 w3 := by rw [eW3]; exact (Below.refl _ _).alloc (Nat.le_refl _) _
    obtain ⟨zb, ezb⟩ : ∃ zb, zb = w2.heap.size := ⟨_, rfl⟩
    have HZb : Hid (BxN zb w3) := by rw [eW3, ezb]; exact heap_alloc_new w2 _
    have hzb : w.heap.size + 3 ≤ zb := by rw [ezb]; have := hb2.size; omega
    have hb23 : Below W0.heap.size W0 w3 := hb2.trans (hb3.mono hb2.size)
    have HRz : Hid (BxN (w.heap.size + 2) w3) := HRz0.out.below hb23
    have HRa : Hid (RowA7 (w.heap.size + 1) 3 fr to i at_ mask (.slice ap p.length cp) w3) := HRa0.out.below hb23
    have HBw : Hid (BelowH w w3) := BelowH.below HBw0.out hb23
    obtain ⟨a_0, a_1, a_2, a_3, a_4, a_5, a_6⟩ := HRa.out.cells
    rw [eW3] at a_0 a_1 a_2 a_3 a_4 a_5 a_6
    clear hb2 hb3 hb23 eW
    go_upto_region 20 with fail
    rw [← eW3]
    clear eW3 a_0 a_1 a_2 a_3 a_4 a_5 a_6
    (try rw [← ezb])
    clear ezb
    refine wp_region_held_drew (S := fun W' => BxN zb W' ∧ RowA7 (w.heap.size + 1) 3 fr to i at_ mask (.slice ap p.length cp) W') (by kernel_rfl) ⟨HZb.out.below (Below.refl _ _).drew, HRa.out.below (Below.refl _ _).drew⟩ (fun hHeld => ?_)
    obtain ⟨Uu4u0, eW⟩ : ∃ X, X = w3.drew := ⟨_, rfl⟩
    have hb : Below w3.heap.size w3 Uu4u0 := by rw [eW]; exact (Below.refl _ _).drew
    replace HRz : Hid (BxN (w.heap.size + 2) Uu4u0) := HRz.out.below hb
    replace HBw : Hid (BelowH w Uu4u0) := HBw.out.below hb
    rw [← eW] at hHeld ⊢
    clear eW hb
    refine wpAnyH_take (i := 0) (oi := ⟨some 149, _, _, _, _, _⟩) (v := ?vu4ux0) rfl (by kernel_rfl) (by kernel_rfl) (by kernel_rfl) (fun _ _ _ h => h) (Or.inl ⟨by rfl, ?hyu4ux0⟩) hHeld ?restu4ux0
    case hyu4ux0 => (intro w hSw; (try dsimp only at hSw); obtain ⟨hz, ha⟩ := hSw; obtain ⟨z_0, z_1, _, _⟩ := row2_cells hz; obtain ⟨a_0, a_1, a_2, a_3, a_4, a_5, a_6⟩ := ha.cells; have kc := conv_txt (w := w) (IsB.non 0); go_simp; try with_reducible rfl)
    simp only [Act.put, List.setIfInBounds_toArray, List.set_cons_zero, List.set_cons_succ]
    refine wpAnyH_take (i := 1) (oi := ⟨some 150, _, _, _, _, _⟩) (v := ?vu4ux1) rfl (by kernel_rfl) (by kernel_rfl) (by kernel_rfl) (fun _ _ _ h => h) (Or.inl ⟨by rfl, ?hyu4ux1⟩) hHeld ?restu4ux1
    case hyu4ux1 => (intro w _; go_simp; try with_reducible rfl)
    simp only [Act.put, List.setIfInBounds_toArray, List.set_cons_zero, List.set_cons_succ]
    refine wpAnyH_take (i := 2) (oi := ⟨some 151, _, _, _, _, _⟩) (v := ?vu4ux2) rfl (by kernel_rfl) (by kernel_rfl) (by kernel_rfl) (fun _ _ _ h => h) (Or.inl ⟨by rfl, ?hyu4ux2⟩) hHeld ?restu4ux2
    case hyu4ux2 => (intro w _; go_simp; try with_reducible rfl)
    simp only [Act.put, List.setIfInBounds_toArray, List.set_cons_zero, List.set_cons_succ]
    refine wpAnyH_take (i := 3) (oi := ⟨some 152, _, _, _, _, _⟩) (v := ?vu4ux3) rfl (by kernel_rfl) (by kernel_rfl) (by kernel_rfl) (fun _ _ _ h => h) (Or.inl ⟨by rfl, ?hyu4ux3⟩) hHeld ?restu4ux3
    case hyu4ux3 => (intro w hSw; (try dsimp only at hSw); obtain ⟨hz, ha⟩ := hSw; obtain ⟨z_0, z_1, _, _⟩ := row2_cells hz; obtain ⟨a_0, a_1, a_2, a_3, a_4, a_5, a_6⟩ := ha.cells; have kc := conv_txt (w := w) (IsB.non 0); go_simp; try with_reducible rfl)
    simp only [Act.put, List.setIfInBounds_toArray, List.set_cons_zero, List.set_cons_succ]
    refine wpAnyH_take (i := 4) (oi := ⟨some 153, _, _, _, _, _⟩) (v := ?vu4ux4) rfl (by kernel_rfl) (by kernel_rfl) (by kernel_rfl) (fun _ _ _ h => h) (Or.inl ⟨by rfl, ?hyu4ux4⟩) hHeld ?restu4ux4
    case hyu4ux4 => (intro w _; go_simp; try with_reducible rfl)
    simp only [Act.put, List.setIfInBounds_toArray, List.set_cons_zero, List.set_cons_succ]
    refine wpAnyH_take (i := 5) (oi := ⟨some 154, _, _, _, _, _⟩) (v := ?vu4ux5) rfl (by kernel_rfl) (by kernel_rfl) (by kernel_rfl) (fun _ _ _ h => h) (Or.inl ⟨by rfl, ?hyu4ux5⟩) hHeld ?restu4ux5
    case hyu4ux5 => (intro w hSw; (try dsimp only at hSw); obtain ⟨hz, ha⟩ := hSw; obtain ⟨z_0, z_1, _, _⟩ := row2_cells hz; obtain ⟨a_0, a_1, a_2, a_3, a_4, a_5, a_6⟩ := ha.cells; have kc := conv_txt (w := w) (IsB.non 0); go_simp; try with_reducible rfl)
    simp only [Act.put, List.setIfInBounds_toArray, List.set_cons_zero, List.set_cons_succ]
    refine wpAnyH_take (i := 6) (oi := ⟨some 155, _, _, _, _, _⟩) (v := ?vu4ux6) rfl (by kernel_rfl) (by kernel_rfl) (by kernel_rfl) (fun _ _ _ h => h) (Or.inl ⟨by rfl, ?hyu4ux6⟩) hHeld ?restu4ux6
    case hyu4ux6 => (intro w _; go_simp; try with_reducible rfl)
    simp only [Act.put, List.setIfInBounds_toArray, List.set_cons_zero, List.set_cons_succ]
    refine wpAnyH_take (i := 7) (oi := ⟨some 156, _, _, _, _, _⟩) (v := ?vu4ux7) rfl (by kernel_rfl) (by kernel_rfl) (by kernel_rfl) (fun _ _ _ h => h) (Or.inl ⟨by rfl, ?hyu4ux7⟩) hHeld ?restu4ux7
    case hyu4ux7 => (intro w hSw; (try dsimp only at hSw); obtain ⟨hz, ha⟩ := hSw; obtain ⟨z_0, z_1, _, _⟩ := row2_cells hz; obtain ⟨a_0, a_1, a_2, a_3, a_4, a_5, a_6⟩ := ha.cells; have kc := conv_txt (w := w) (IsB.non 0); go_simp; try with_reducible rfl)
    simp only [Act.put, List.setIfInBounds_toArray, List.set_cons_zero, List.set_cons_succ]
    refine wpAnyH_take (i := 9) (oi := ⟨some 158, _, _, _, _, _⟩) (v := ?vu4ux9) rfl (by kernel_rfl) (by kernel_rfl) (by kernel_rfl) (fun _ _ _ h => h) (Or.inl ⟨by rfl, ?hyu4ux9⟩) hHeld ?restu4ux9
    case hyu4ux9 => (intro w _; go_simp; try with_reducible rfl)
    simp only [Act.put, List.setIfInBounds_toArray, List.set_cons_zero, List.set_cons_succ]
    refine wpAnyH_ready (rs := [8]) (by kernel_rfl) (by simp) ?_
    refine AllReadyH.cons (o := ⟨some 157, _, _, _, _, _⟩) rfl (fun K hK => ?_) AllReadyH.nil
    go_simp
    refine (double_nil fr to i _).mono ?_
    rintro e w' ⟨rfl, hw⟩
    replace hw := hw.symm
    subst hw
    (try go_wp2_with fail)
    refine hK.out _ _ (hHeld) (fun hHeld2 => ?_)
    clear hK K hHeld
    have hHeld := hHeld2
    clear hHeld2
    (try simp only [Act.put, List.setIfInBounds_toArray, List.set_cons_zero, List.set_cons_succ])
    refine wpAnyH_take (i := 10) (oi := ⟨some 159, _, _, _, _, _⟩) (v := ?vu4u_8x10) rfl (by kernel_rfl) (by kernel_rfl) (by kernel_rfl) (fun _ _ _ h => h) (Or.inl ⟨by rfl, ?hyu4u_8x10⟩) hHeld ?restu4u_8x10
    case hyu4u_8x10 => (intro w hSw; (try dsimp only at hSw); obtain ⟨hz, ha⟩ := hSw; obtain ⟨z_0, z_1, _, _⟩ := row2_cells hz; obtain ⟨a_0, a_1, a_2, a_3, a_4, a_5, a_6⟩ := ha.cells; have kc := conv_txt (w := w) (IsB.non 0); go_simp; try with_reducible rfl)
    simp only [Act.put, List.setIfInBounds_toArray, List.set_cons_zero, List.set_cons_succ]
    refine wpAnyH_ready (rs := [11]) (by kernel_rfl) (by simp) ?_
    refine AllReadyH.cons (o := ⟨none, _, _, _, _, _⟩) rfl (fun K hK => ?_) AllReadyH.nil
    obtain ⟨r_0, r_1, r_2, r_3⟩ := row2_cells HRz.out
    go_simp
    refine hK.out _ _ (⟨row_set_other (row_set_other hHeld.1 (by omega)) (by omega), (hHeld.2.set (by omega)).set (by omega)⟩) (fun hHeld2 => ?_)
    clear hK K hHeld
    have hHeld := hHeld2
    clear hHeld2
    (try simp only [Act.put, List.setIfInBounds_toArray, List.set_cons_zero, List.set_cons_succ])
    have HSm : Hid (((Uu4u0.setCell ⟨w.heap.size + 2, 0, none⟩ (.int .i64 0)).setCell ⟨w.heap.size + 2, 1, none⟩ (.slice none 0 0)).heap[w.heap.size + 2]? = some (.cells #[.int .i64 0, .slice none 0 0] 30)) := row_set2 HRz.out
    have HBs : Hid (Below w.heap.size w ((Uu4u0.setCell ⟨w.heap.size + 2, 0, none⟩ (.int .i64 0)).setCell ⟨w.heap.size + 2, 1, none⟩ (.slice none 0 0))) := (Below.setCell HBw.out (p := ⟨w.heap.size + 2, 0, none⟩) (by show w.heap.size ≤ w.heap.size + 2; omega) _).setCell (p := ⟨w.heap.size + 2, 1, none⟩) (by show w.heap.size ≤ w.heap.size + 2; omega) _
    clear r_0 r_1 r_2 r_3 HRz HBw
    refine wpAnyH_take (i := 12) (oi := ⟨some 7, _, _, _, _, _⟩) (v := ?vu4u_8_11x12) rfl (by kernel_rfl) (by kernel_rfl) (by kernel_rfl) (fun _ _ _ h => h) (Or.inl ⟨by rfl, ?hyu4u_8_11x12⟩) hHeld ?restu4u_8_11x12
    case hyu4u_8_11x12 => (intro w _; go_simp; try with_reducible rfl)
    simp only [Act.put, List.setIfInBounds_toArray, List.set_cons_zero, List.set_cons_succ]
    refine wpAnyH_done (by kernel_rfl) ?_ _
    clear hHeld
    go_wp2
    (try simp only [Exit.inBlock, Exit.then])
    refine bodyPost_ret (results_cell_row2 rfl _ _ (w.heap.size + 2) _ _ _ _ rfl HSm.out Try.underlying30 rfl (by kernel_rfl) rfl) rfl ?_
    exact ⟨rfl, HBs.out⟩
  by_cases hk4 : kd = 4
  · subst hk4
    have ca := HRa0.out.cells
    obtain ⟨y_0, y_1, _, _⟩ := row2_cells HX0.out
    obtain ⟨a_0, a_1, a_2, a_3, a_4, a_5, a_6⟩ := ca
    rw [eW] at y_0 y_1 a_0 a_1 a_2 a_3 a_4 a_5 a_6
    go_enter Try.func9, Try.ntmps9
    go_wp2_with fail
    rw [← eW]
    clear y_0 y_1 a_0 a_1 a_2 a_3 a_4 a_5 a_6
    refine (refSpoil0 fr to i at_ mask _).mono ?_
    rintro e w2 ⟨rfl, hb2⟩
    obtain ⟨w3, eW3⟩ : ∃ X, X = w2.alloc (.cells #[.int .i64 0, .slice none 0 0] 30) := ⟨_, rfl⟩
    have hb3 : Below w2.heap.size w2 w3 := by rw [eW3]; exact (Below.refl _ _).alloc (Nat.le_refl _) _
    obtain ⟨zb, ezb⟩ : ∃ zb, zb = w2.heap.size := ⟨_, rfl⟩
    have HZb : Hid (BxN zb w3) := by rw [eW3, ezb]; exact heap_alloc_new w2 _
    have hzb : w.heap.size + 3 ≤ zb := by rw [ezb]; have := hb2.size; omega
    have hb23 : Below W0.heap.size W0 w3 := hb2.trans (hb3.mono hb2.size)
    have HRz : Hid (BxN (w.heap.size + 2) w3) := HRz0.out.below hb23
    have HRa : Hid (RowA7 (w.heap.size + 1) 4 fr to i at_ mask (.slice ap p.length cp) w3) := HRa0.out.below hb23
    have HBw : Hid (BelowH w w3) := BelowH.below HBw0.out hb23
    obtain ⟨a_0, a_1, a_2, a_3, a_4, a_5, a_6⟩ := HRa.out.cells
    rw [eW3] at a_0 a_1 a_2 a_3 a_4 a_5 a_6
    clear hb2 hb3 hb23 eW
    go_upto_region 23 with fail
    rw [← eW3]
    clear eW3 a_0 a_1 a_2 a_3 a_4 a_5 a_6
    (try rw [← ezb])
    clear ezb
    refine wp_region_held_drew (S := fun W' => BxN zb W' ∧ RowA7 (w.heap.size + 1) 4 fr to i at_ mask (.slice ap p.length cp) W') (by kernel_rfl) ⟨HZb.out.below (Below.refl _ _).drew, HRa.out.below (Below.refl _ _).drew⟩ (fun hHeld => ?_)
    obtain ⟨Ux5u0, eW⟩ : ∃ X, X = w3.drew := ⟨_, rfl⟩
    have hb : Below w3.heap.size w3 Ux5u0 := by rw [eW]; exact (Below.refl _ _).drew
    replace HRz : Hid (BxN (w.heap.size + 2) Ux5u0) := HRz.out.below hb
    replace HBw : Hid (BelowH w Ux5u0) := HBw.out.below hb
    rw [← eW] at hHeld ⊢
    clear eW hb
    refine wpAnyH_take (i := 0) (oi := ⟨some 177, _, _, _, _, _⟩) (v := ?vx5ux0) rfl (by kernel_rfl) (by kernel_rfl) (by kernel_rfl) (fun _ _ _ h => h) (Or.inl ⟨by rfl, ?hyx5ux0⟩) hHeld ?restx5ux0
    case hyx5ux0 => (intro w hSw; (try dsimp only at hSw); obtain ⟨hz, ha⟩ := hSw; obtain ⟨z_0, z_1, _, _⟩ := row2_cells hz; obtain ⟨a_0, a_1, a_2, a_3, a_4, a_5, a_6⟩ := ha.cells; have kc := conv_txt (w := w) (IsB.non 0); go_simp; try with_reducible rfl)
    simp only [Act.put, List.setIfInBounds_toArray, List.set_cons_zero, List.set_cons_succ]
    refine wpAnyH_take (i := 1) (oi := ⟨some 178, _, _, _, _, _⟩) (v := ?vx5ux1) rfl (by kernel_rfl) (by kernel_rfl) (by kernel_rfl) (fun _ _ _ h => h) (Or.inl ⟨by rfl, ?hyx5ux1⟩) hHeld ?restx5ux1
    case hyx5ux1 => (intro w _; go_simp; try with_reducible rfl)
    simp only [Act.put, List.setIfInBounds_toArray, List.set_cons_zero, List.set_cons_succ]
    refine wpAnyH_take (i := 2) (oi := ⟨some 179, _, _, _, _, _⟩) (v := ?vx5ux2) rfl (by kernel_rfl) (by kernel_rfl) (by kernel_rfl) (fun _ _ _ h => h) (Or.inl ⟨by rfl, ?hyx5ux2⟩) hHeld ?restx5ux2
    case hyx5ux2 => (intro w _; go_simp; try with_reducible rfl)
    simp only [Act.put, List.setIfInBounds_toArray, List.set_cons_zero, List.set_cons_succ]
    refine wpAnyH_take (i := 3) (oi := ⟨some 180, _, _, _, _, _⟩) (v := ?vx5ux3) rfl (by kernel_rfl) (by kernel_rfl) (by kernel_rfl) (fun _ _ _ h => h) (Or.inl ⟨by rfl, ?hyx5ux3⟩) hHeld ?restx5ux3
    case hyx5ux3 => (intro w hSw; (try dsimp only at hSw); obtain ⟨hz, ha⟩ := hSw; obtain ⟨z_0, z_1, _, _⟩ := row2_cells hz; obtain ⟨a_0, a_1, a_2, a_3, a_4, a_5, a_6⟩ := ha.cells; have kc := conv_txt (w := w) (IsB.non 0); go_simp; try with_reducible rfl)
    simp only [Act.put, List.setIfInBounds_toArray, List.set_cons_zero, List.set_cons_succ]
    refine wpAnyH_take (i := 4) (oi := ⟨some 181, _, _, _, _, _⟩) (v := ?vx5ux4) rfl (by kernel_rfl) (by kernel_rfl) (by kernel_rfl) (fun _ _ _ h => h) (Or.inl ⟨by rfl, ?hyx5ux4⟩) hHeld ?restx5ux4
    case hyx5ux4 => (intro w _; go_simp; try with_reducible rfl)
    simp only [Act.put, List.setIfInBounds_toArray, List.set_cons_zero, List.set_cons_succ]
    refine wpAnyH_take (i := 5) (oi := ⟨some 182, _, _, _, _, _⟩) (v := ?vx5ux5) rfl (by kernel_rfl) (by kernel_rfl) (by kernel_rfl) (fun _ _ _ h => h) (Or.inl ⟨by rfl, ?hyx5ux5⟩) hHeld ?restx5ux5
    case hyx5ux5 => (intro w hSw; (try dsimp only at hSw); obtain ⟨hz, ha⟩ := hSw; obtain ⟨z_0, z_1, _, _⟩ := row2_cells hz; obtain ⟨a_0, a_1, a_2, a_3, a_4, a_5, a_6⟩ := ha.cells; have kc := conv_txt (w := w) (IsB.non 0); go_simp; try with_reducible rfl)
    simp only [Act.put, List.setIfInBounds_toArray, List.set_cons_zero, List.set_cons_succ]
    refine wpAnyH_take (i := 6) (oi := ⟨some 183, _, _, _, _, _⟩) (v := ?vx5ux6) rfl (by kernel_rfl) (by kernel_rfl) (by kernel_rfl) (fun _ _ _ h => h) (Or.inl ⟨by rfl, ?hyx5ux6⟩) hHeld ?restx5ux6
    case hyx5ux6 => (intro w _; go_simp; try with_reducible rfl)
    simp only [Act.put, List.setIfInBounds_toArray, List.set_cons_zero, List.set_cons_succ]
    refine wpAnyH_take (i := 7) (oi := ⟨some 184, _, _, _, _, _⟩) (v := ?vx5ux7) rfl (by kernel_rfl) (by kernel_rfl) (by kernel_rfl) (fun _ _ _ h => h) (Or.inl ⟨by rfl, ?hyx5ux7⟩) hHeld ?restx5ux7
    case hyx5ux7 => (intro w hSw; (try dsimp only at hSw); obtain ⟨hz, ha⟩ := hSw; obtain ⟨z_0, z_1, _, _⟩ := row2_cells hz; obtain ⟨a_0, a_1, a_2, a_3, a_4, a_5, a_6⟩ := ha.cells; have kc := conv_txt (w := w) (IsB.non 0); go_simp; try with_reducible rfl)
    simp only [Act.put, List.setIfInBounds_toArray, List.set_cons_zero, List.set_cons_succ]
    refine wpAnyH_take (i := 8) (oi := ⟨some 185, _, _, _, _, _⟩) (v := ?vx5ux8) rfl (by kernel_rfl) (by kernel_rfl) (by kernel_rfl) (fun _ _ _ h => h) (Or.inl ⟨by rfl, ?hyx5ux8⟩) hHeld ?restx5ux8
    case hyx5ux8 => (intro w _; go_simp; try with_reducible rfl)
    simp only [Act.put, List.setIfInBounds_toArray, List.set_cons_zero, List.set_cons_succ]
    refine wpAnyH_take (i := 9) (oi := ⟨some 186, _, _, _, _, _⟩) (v := ?vx5ux9) rfl (by kernel_rfl) (by kernel_rfl) (by kernel_rfl) (fun _ _ _ h => h) (Or.inl ⟨by rfl, ?hyx5ux9⟩) hHeld ?restx5ux9
    case hyx5ux9 => (intro w hSw; (try dsimp only at hSw); obtain ⟨hz, ha⟩ := hSw; obtain ⟨z_0, z_1, _, _⟩ := row2_cells hz; obtain ⟨a_0, a_1, a_2, a_3, a_4, a_5, a_6⟩ := ha.cells; have kc := conv_txt (w := w) (IsB.non 0); go_simp; try with_reducible rfl)
    simp only [Act.put, List.setIfInBounds_toArray, List.set_cons_zero, List.set_cons_succ]
    refine wpAnyH_take (i := 10) (oi := ⟨some 187, _, _, _, _, _⟩) (v := ?vx5ux10) rfl (by kernel_rfl) (by kernel_rfl) (by kernel_rfl) (fun _ _ _ h => h) (Or.inl ⟨by rfl, ?hyx5ux10⟩) hHeld ?restx5ux10
    case hyx5ux10 => (intro w _; go_simp; try with_reducible rfl)
    simp only [Act.put, List.setIfInBounds_toArray, List.set_cons_zero, List.set_cons_succ]
    refine wpAnyH_take (i := 11) (oi := ⟨some 188, _, _, _, _, _⟩) (v := ?vx5ux11) rfl (by kernel_rfl) (by kernel_rfl) (by kernel_rfl) (fun _ _ _ h => h) (Or.inl ⟨by rfl, ?hyx5ux11⟩) hHeld ?restx5ux11
    case hyx5ux11 => (intro w hSw; (try dsimp only at hSw); obtain ⟨hz, ha⟩ := hSw; obtain ⟨z_0, z_1, _, _⟩ := row2_cells hz; obtain ⟨a_0, a_1, a_2, a_3, a_4, a_5, a_6⟩ := ha.cells; have kc := conv_txt (w := w) (IsB.non 0); go_simp; try with_reducible rfl)
    simp only [Act.put, List.setIfInBounds_toArray, List.set_cons_zero, List.set_cons_succ]
    refine wpAnyH_take (i := 13) (oi := ⟨some 190, _, _, _, _, _⟩) (v := ?vx5ux13) rfl (by kernel_rfl) (by kernel_rfl) (by kernel_rfl) (fun _ _ _ h => h) (Or.inl ⟨by rfl, ?hyx5ux13⟩) hHeld ?restx5ux13
    case hyx5ux13 => (intro w _; go_simp; try with_reducible rfl)
    simp only [Act.put, List.setIfInBounds_toArray, List.set_cons_zero, List.set_cons_succ]
    refine wpAnyH_ready (rs := [12]) (by kernel_rfl) (by simp) ?_
    refine AllReadyH.cons (o := ⟨some 189, _, _, _, _, _⟩) rfl (fun K hK => ?_) AllReadyH.nil
    go_simp
    refine (nspoil_nil fr to i at_ mask _).mono ?_
    rintro e w' ⟨rfl, hw⟩
    replace hw := hw.symm
    subst hw
    (try go_wp2_with fail)
    refine hK.out _ _ (hHeld) (fun hHeld2 => ?_)
    clear hK K hHeld
    have hHeld := hHeld2
    clear hHeld2
    (try simp only [Act.put, List.setIfInBounds_toArray, List.set_cons_zero, List.set_cons_succ])
    refine wpAnyH_take (i := 14) (oi := ⟨some 191, _, _, _, _, _⟩) (v := ?vx5u_12x14) rfl (by kernel_rfl) (by kernel_rfl) (by kernel_rfl) (fun _ _ _ h => h) (Or.inl ⟨by rfl, ?hyx5u_12x14⟩) hHeld ?restx5u_12x14
    case hyx5u_12x14 => (intro w hSw; (try dsimp only at hSw); obtain ⟨hz, ha⟩ := hSw; obtain ⟨z_0, z_1, _, _⟩ := row2_cells hz; obtain ⟨a_0, a_1, a_2, a_3, a_4, a_5, a_6⟩ := ha.cells; have kc := conv_txt (w := w) (IsB.non 0); go_simp; try with_reducible rfl)
    simp only [Act.put, List.setIfInBounds_toArray, List.set_cons_zero, List.set_cons_succ]
    refine wpAnyH_ready (rs := [15]) (by kernel_rfl) (by simp) ?_
    refine AllReadyH.cons (o := ⟨none, _, _, _, _, _⟩) rfl (fun K hK => ?_) AllReadyH.nil
    obtain ⟨r_0, r_1, r_2, r_3⟩ := row2_cells HRz.out
    go_simp
    refine hK.out _ _ (⟨row_set_other (row_set_other hHeld.1 (by omega)) (by omega), (hHeld.2.set (by omega)).set (by omega)⟩) (fun hHeld2 => ?_)
    clear hK K hHeld
    have hHeld := hHeld2
    clear hHeld2
    (try simp only [Act.put, List.setIfInBounds_toArray, List.set_cons_zero, List.set_cons_succ])
    have HSm : Hid (((Ux5u0.setCell ⟨w.heap.size + 2, 0, none⟩ (.int .i64 0)).setCell ⟨w.heap.size + 2, 1, none⟩ (.slice none 0 0)).heap[w.heap.size + 2]? = some (.cells #[.int .i64 0, .slice none 0 0] 30)) := row_set2 HRz.out
    have HBs : Hid (Below w.heap.size w ((Ux5u0.setCell ⟨w.heap.size + 2, 0, none⟩ (.int .i64 0)).setCell ⟨w.heap.size + 2, 1, none⟩ (.slice none 0 0))) := (Below.setCell HBw.out (p := ⟨w.heap.size + 2, 0, none⟩) (by show w.heap.size ≤ w.heap.size + 2; omega) _).setCell (p := ⟨w.heap.size + 2, 1, none⟩) (by show w.heap.size ≤ w.heap.size + 2; omega) _
    clear r_0 r_1 r_2 r_3 HRz HBw
    refine wpAnyH_take (i := 16) (oi := ⟨some 7, _, _, _, _, _⟩) (v := ?vx5u_12_15x16) rfl (by kernel_rfl) (by kernel_rfl) (by kernel_rfl) (fun _ _ _ h => h) (Or.inl ⟨by rfl, ?hyx5u_12_15x16⟩) hHeld ?restx5u_12_15x16
    case hyx5u_12_15x16 => (intro w _; go_simp; try with_reducible rfl)
    simp only [Act.put, List.setIfInBounds_toArray, List.set_cons_zero, List.set_cons_succ]
    refine wpAnyH_done (by kernel_rfl) ?_ _
    clear hHeld
    go_wp2
    (try simp only [Exit.inBlock, Exit.then])
    refine bodyPost_ret (results_cell_row2 rfl _ _ (w.heap.size + 2) _ _ _ _ rfl HSm.out Try.underlying30 rfl (by kernel_rfl) rfl) rfl ?_
    exact ⟨rfl, HBs.out⟩
  by_cases hk0 : kd = 0
  · subst hk0
    have ca := HRa0.out.cells
    obtain ⟨y_0, y_1, _, _⟩ := row2_cells HX0.out
    obtain ⟨a_0, a_1, a_2, a_3, a_4, a_5, a_6⟩ := ca
    rw [eW] at y_0 y_1 a_0 a_1 a_2 a_3 a_4 a_5 a_6
    have HEW : Hid (W0 = ((w.alloc (.cells #[.int .i64 0, .slice none 0 0] 30)).alloc (.cells #[.int .i64 0, .int .i64 fr, .int .i64 to, .int .i64 i, .int .i64 at_, .int .i64 mask, .slice ap p.length cp] 33)).alloc (.cells #[.int .i64 0, .slice none 0 0] 30)) := eW
    have hs1 := hs0
    rw [eW] at hs1
    have HI1 := HI0
    rw [eW] at HI1
    go_enter Try.func9, Try.ntmps9
    go_wp2_with (at_builtin; refine wpList_copyE rfl _ _ rfl _ p (by first | rfl | simp [Act.eval]) rfl HI1.out (by omega) ?_; intro v1 w1 ho1 hb1; rw [← HEW.out] at ho1 hb1; obtain ⟨a1, c1, ee1⟩ := ho1.form; subst ee1; have HO1 : Hid (OwnB W0.heap.size w1 (.slice a1 p.length c1) p) := ho1; have HB1 : Hid (Below W0.heap.size W0 w1) := hb1; obtain ⟨x_0, x_1, _, _⟩ := row2_cells (BxN.below HX0.out hb1); obtain ⟨b_0, b_1, b_2, b_3, b_4, b_5, b_6⟩ := (HRa0.out.below hb1).cells; clear ho1 hb1)
    refine (refSend0 fr to _ _ ⟨_, _, _, rfl⟩).mono ?_
    rintro e w2 ⟨rfl, hb2⟩
    obtain ⟨w3, eW3⟩ : ∃ X, X = w2.alloc (.cells #[.int .i64 0, .slice none 0 0] 30) := ⟨_, rfl⟩
    have hb3 : Below w2.heap.size w2 w3 := by rw [eW3]; exact (Below.refl _ _).alloc (Nat.le_refl _) _
    obtain ⟨zb, ezb⟩ : ∃ zb, zb = w2.heap.size := ⟨_, rfl⟩
    have HZb : Hid (BxN zb w3) := by rw [eW3, ezb]; exact heap_alloc_new w2 _
    have hb13 : Below w1.heap.size w1 w3 := hb2.trans (hb3.mono hb2.size)
    have hb03 : Below W0.heap.size W0 w3 := HB1.out.trans (hb13.mono HB1.out.size)
    have HRz : Hid (BxN (w.heap.size + 2) w3) := HRz0.out.below hb03
    have HRa : Hid (RowA7 (w.heap.size + 1) 0 fr to i at_ mask (.slice ap p.length cp) w3) := HRa0.out.below hb03
    have HBw : Hid (BelowH w w3) := BelowH.below HBw0.out hb03
    have HO3 : Hid (OwnB W0.heap.size w3 (.slice a1 p.length c1) p) := HO1.out.below hb13
    have HNe : Hid (∀ k, (Value.slice a1 p.length c1).ownBlock = some k → k ≠ zb ∧ w.heap.size + 2 < k) := fun k e => by
      have h1 := World.ownsRow.lt HO1.out k e
      have h2 := hb2.size
      rw [ezb]
      omega
    obtain ⟨a_0, a_1, a_2, a_3, a_4, a_5, a_6⟩ := HRa.out.cells
    rw [eW3] at a_0 a_1 a_2 a_3 a_4 a_5 a_6
    clear hb2 hb3 hb13 hb03 eW HEW HI1 HO1 HB1 x_0 x_1 b_0 b_1 b_2 b_3 b_4 b_5 b_6 y_0 y_1
    go_wp2_with fail
    rw [← eW3]
    refine (send_nil fr to _ _ ⟨_, _, _, rfl⟩).mono ?_
    rintro e w' ⟨rfl, hw⟩
    replace hw := hw.symm
    subst hw
    go_wp2
    (try rw [← eW3])
    clear eW3 a_0 a_1 a_2 a_3 a_4 a_5 a_6
    (try rw [← ezb])
    clear ezb
    go_loopw [12] (fun iv wr => ∃ (k : Nat) (D : List UInt8), k ≤ p.length ∧ iv = .int .i64 (k : Int) ∧ Hid (D.length = p.length) ∧ Hid (OwnB W0.heap.size wr (.slice a1 D.length c1) D) ∧ Hid (BxN zb wr) ∧ Hid (BxN (w.heap.size + 2) wr) ∧ Hid (BelowH w wr)) (fun iv _ => p.length - (intOf iv).toNat)
    case atStart => exact ⟨0, p, Nat.zero_le _, rfl, rfl, HO3, HZb, HRz, HBw⟩
    case round =>
      obtain ⟨k, D, hk, rfl, HDl, HO, HZ, HR, HB⟩ := hrel
      by_cases hlt : k < p.length
      · have hltD : k < D.length := by rw [HDl.out]; exact hlt
        rcases HO.out.2 with ⟨e5, hn5⟩ | ⟨gb, cap5, cur, e5, hg5, _⟩
        · omega
        · injection e5 with e6 _ e7
          subst e6
          obtain ⟨x1, f1⟩ := HO.out.cell rfl hltD
          have k1 : (k : Int) < (p.length : Int) := by omega
          have k0 : (0 : Int) ≤ (k : Int) := by omega
          have hc := UInt8.toNat_lt D[k]
          have HFE : Hid ((255 : Int) - (D[k].toNat : Int) = ((UInt8.ofNat (255 - D[k].toNat)).toNat : Int)) := flip_eq _
          have HWr : Hid (OwnB W0.heap.size (wr.setCell ⟨gb, k, none⟩ (.int .u8 ((UInt8.ofNat (255 - D[k].toNat)).toNat : Int))) (.slice (some ⟨gb, 0, none⟩) D.length c1) (D.set k (UInt8.ofNat (255 - D[k].toNat))) ∧ wr.grownBy (wr.setCell ⟨gb, k, none⟩ (.int .u8 ((UInt8.ofNat (255 - D[k].toNat)).toNat : Int))) (some gb)) := HO.out.write k _
          have HN2 : Hid (gb ≠ zb ∧ w.heap.size + 2 < gb) := HNe.out gb rfl
          generalize D[k].toNat = c at *
          clear e7
          go_wp2
          rw [HFE.out]
          obtain ⟨hw1, hw2⟩ := HWr.out
          go_roundw
          case rel =>
            refine ⟨k + 1, D.set k (UInt8.ofNat (255 - c)), by omega, by go_num, ?_, ?_, row_set_other HZ.out (fun e => HN2.out.1 e.symm), row_set_other HR.out (fun e => by have := HN2.out.2; omega), Below.setCell HB.out (p := ⟨gb, k, none⟩) (by show w.heap.size ≤ gb; have := HN2.out.2; omega) _⟩
            · show _ = _
              rw [List.length_set]; exact HDl.out
            · show OwnB _ _ _ _
              rw [List.length_set]; exact hw1
          case measure => simp [intOf]; omega
      · obtain ⟨z_0, z_1, _, _⟩ := row2_cells HZ.out
        obtain ⟨r_0, r_1, r_2, r_3⟩ := row2_cells HR.out
        have HSm : Hid (((wr.setCell ⟨w.heap.size + 2, 0, none⟩ (.int .i64 0)).setCell ⟨w.heap.size + 2, 1, none⟩ (.slice none 0 0)).heap[w.heap.size + 2]? = some (.cells #[.int .i64 0, .slice none 0 0] 30)) := row_set2 HR.out
        have HBs : Hid (Below w.heap.size w ((wr.setCell ⟨w.heap.size + 2, 0, none⟩ (.int .i64 0)).setCell ⟨w.heap.size + 2, 1, none⟩ (.slice none 0 0))) := (Below.setCell HB.out (p := ⟨w.heap.size + 2, 0, none⟩) (by show w.heap.size ≤ w.heap.size + 2; omega) _).setCell (p := ⟨w.heap.size + 2, 1, none⟩) (by show w.heap.size ≤ w.heap.size + 2; omega) _
        go_wp2
        (try simp only [Exit.inBlock, Exit.then])
        refine bodyPost_ret (results_cell_row2 rfl _ _ (w.heap.size + 2) _ _ _ _ rfl HSm.out Try.underlying30 rfl (by kernel_rfl) rfl) rfl ?_
        exact ⟨rfl, HBs.out⟩
  have ca := HRa0.out.cells
  obtain ⟨y_0, y_1, _, _⟩ := row2_cells HX0.out
  obtain ⟨a_0, a_1, a_2, a_3, a_4, a_5, a_6⟩ := ca
  rw [eW] at y_0 y_1 a_0 a_1 a_2 a_3 a_4 a_5 a_6
  have d0 : (kd == 0) = false := by simpa using hk0
  have d1 : (kd == 1) = false := by simpa using hk1
  have d2 : (kd == 2) = false := by simpa using hk2
  have d3 : (kd == 3) = false := by simpa using hk3
  have d4 : (kd == 4) = false := by simpa using hk4
  go_enter Try.func9, Try.ntmps9
  go_wp2_with fail
  rw [← eW]
  clear y_0 y_1 a_0 a_1 a_2 a_3 a_4 a_5 a_6 eW
  refine (refPeek0 fr to i _).mono ?_
  rintro e w2 ⟨rfl, hb2⟩
  have HY2 : Hid (BxN w.heap.size w2) := HX0.out.below hb2
  have HR : Hid (BxN (w.heap.size + 2) w2) := HRz0.out.below hb2
  have HB : Hid (BelowH w w2) := BelowH.below HBw0.out hb2
  obtain ⟨a_0, a_1, a_2, a_3, a_4, a_5, a_6⟩ := (HRa0.out.below hb2).cells
  obtain ⟨z_0, z_1, _, _⟩ := row2_cells HY2.out
  obtain ⟨r_0, r_1, r_2, r_3⟩ := row2_cells HR.out
  clear hb2
  go_wp2_with fail
  refine (peek_nil fr to i _).mono ?_
  rintro e w' ⟨rfl, hw⟩
  replace hw := hw.symm
  subst hw
  have kc := conv_txt (w := w2) (IsB.non 0)
  go_wp2
  go_loopw [30] (fun iv wr => iv = .int .i64 0 ∧ wr = w2) (fun _ _ => 0)
  case atStart => exact ⟨rfl, rfl⟩
  case round =>
    obtain ⟨rfl, rfl⟩ := hrel
    have HSm : Hid (((wr.setCell ⟨w.heap.size + 2, 0, none⟩ (.int .i64 0)).setCell ⟨w.heap.size + 2, 1, none⟩ (.slice none 0 0)).heap[w.heap.size + 2]? = some (.cells #[.int .i64 0, .slice none 0 0] 30)) := row_set2 HR.out
    have HBs : Hid (Below w.heap.size w ((wr.setCell ⟨w.heap.size + 2, 0, none⟩ (.int .i64 0)).setCell ⟨w.heap.size + 2, 1, none⟩ (.slice none 0 0))) := (Below.setCell HB.out (p := ⟨w.heap.size + 2, 0, none⟩) (by show w.heap.size ≤ w.heap.size + 2; omega) _).setCell (p := ⟨w.heap.size + 2, 1, none⟩) (by show w.heap.size ≤ w.heap.size + 2; omega) _
    go_wp2
    (try simp only [Exit.inBlock, Exit.then])
    refine bodyPost_ret (results_cell_row2 rfl _ _ (w.heap.size + 2) _ _ _ _ rfl HSm.out Try.underlying30 rfl (by kernel_rfl) rfl) rfl ?_
    exact ⟨rfl, HBs.out⟩

end Go.Proofs.Ytlcnfoljkcfplaa
