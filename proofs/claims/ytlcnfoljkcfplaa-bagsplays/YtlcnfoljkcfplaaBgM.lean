/- The document's calls of a net without replicas. -/
import Derived.Test.YtlcnfoljkcfplaaBgN
import Derived.Laws.ResultCell
namespace Go.Proofs.Ytlcnfoljkcfplaa
open Go.RowKit Go.Shelf
set_option linter.unusedVariables false
set_option linter.unusedSimpArgs false

theorem results_cell_row2 {P : Program} {fn : Func} {p u : Tmp} {ty : TypeId} (h : fn.results = #[.cell p ty, .tmp u]) (tmps : Array Value) (w : World) (g : Nat) (t : TypeId) (cs : Array Value) (fr : Nat × Nat) (d : TypeDesc)
    (hp : tmps.getD p undef = .pointer (some ⟨g, 0, none⟩)) (hg : w.heap[g]? = some (.cells cs t fr))
    (hu : P.underlying ty = some d) (hd : (match d with | .struct _ | .array _ _ => true | _ => false) = true) (hi : (P.info? ty).map (·.size) = some cs.size) {k : Value} (hk : tmps.getD u undef = k) :
    (results fn tmps).run P w = .ok (.tuple #[.agg cs, k]) w := by
  rw [results_cell_tmp h, hp, hk]
  simp [asAddr, run_loadVar_row w g t ty cs fr d hg hu hd hi]
theorem results_cell_row3 {P : Program} {fn : Func} {p u q : Tmp} {ty : TypeId} (h : fn.results = #[.cell p ty, .tmp u, .tmp q]) (tmps : Array Value) (w : World) (g : Nat) (t : TypeId) (cs : Array Value) (fr : Nat × Nat) (d : TypeDesc)
    (hp : tmps.getD p undef = .pointer (some ⟨g, 0, none⟩)) (hg : w.heap[g]? = some (.cells cs t fr))
    (hu : P.underlying ty = some d) (hd : (match d with | .struct _ | .array _ _ => true | _ => false) = true) (hi : (P.info? ty).map (·.size) = some cs.size) {k m : Value} (hk : tmps.getD u undef = k) (hm : tmps.getD q undef = m) :
    (results fn tmps).run P w = .ok (.tuple #[.agg cs, k, m]) w := by
  have e : (results fn tmps).run P w = ((asAddr (tmps.getD p undef)).run P w).andThen fun a w₁ => ((loadVar ty a).run P w₁).andThen fun v w₂ => .ok (.tuple #[v, tmps.getD u undef, tmps.getD q undef]) w₂ := by
    simp only [results, h]
    simp [Sem.run_bind, Result.andThen]
  rw [e, hp, hk, hm]
  simp [asAddr, run_loadVar_row w g t ty cs fr d hg hu hd hi]
theorem row2_cells {W : World} {b : Nat} {v0 v1 : Value} {t : TypeId} (h : W.heap[b]? = some (.cells #[v0, v1] t)) : W.cell? ⟨b, 0, none⟩ = some v0 ∧ W.cell? ⟨b, 1, none⟩ = some v1 ∧ W.frozen? ⟨b, 0, none⟩ = false ∧ W.frozen? ⟨b, 1, none⟩ = false :=
  ⟨by rw [cell_of_row W b 0 _ _ _ h]; rfl, by rw [cell_of_row W b 1 _ _ _ h]; rfl, frozen_of_row W b 0 _ _ h, frozen_of_row W b 1 _ _ h⟩
theorem row_set1 {W : World} {b i : Nat} {c : Array Value} {t : TypeId} {v : Value} (h : W.heap[b]? = some (.cells c t)) : (W.setCell ⟨b, i, none⟩ v).heap[b]? = some (.cells (c.setIfInBounds i v) t) := heap_setCell_same _ b i _ _ v h
theorem row_set2 {W : World} {b : Nat} {z0 z1 v0 v1 : Value} {t : TypeId} (h : W.heap[b]? = some (.cells #[z0, z1] t)) : ((W.setCell ⟨b, 0, none⟩ v0).setCell ⟨b, 1, none⟩ v1).heap[b]? = some (.cells #[v0, v1] t) := by
  have h1 := row_set1 (i := 0) (v := v0) h
  have h2 := row_set1 (i := 1) (v := v1) h1
  simpa using h2
theorem row_set_other {W : World} {b g i : Nat} {o : Obj} {v : Value} (h : W.heap[b]? = some o) (hne : b ≠ g) : (W.setCell ⟨g, i, none⟩ v).heap[b]? = some o := (RowKit.Below.heap_setCell _ _ _ _ hne).trans h
def BelowH (w W : World) : Prop := Below w.heap.size w W
theorem BelowH.below {w W W' : World} (h : BelowH w W) (hb : Below W.heap.size W W') : BelowH w W' := Below.trans h (hb.mono (Below.size h))
/-- A net without replicas, in a block. -/
def BxN (b : Nat) (W : World) : Prop := W.heap[b]? = some (.cells #[.int .i64 0, .slice none 0 0] 30)
theorem BxN.below {b : Nat} {W W' : World} (h : BxN b W) (hb : Below W.heap.size W W') : BxN b W' := (hb.block _ (row_lt h)).trans h

set_option maxHeartbeats 1000000 in
theorem refLink0 (f t : Int) (w : World) : Calls Try.prog 30 #[.agg #[.int .i64 0, .slice none 0 0], .int .i64 f, .int .i64 t] w fun e w' => e = .returned (.int .i64 1) ∧ Below w.heap.size w w' := by
  have hb0 : Below w.heap.size w (w.alloc (.cells #[.int .i64 0, .slice none 0 0] 30)) := (Below.refl _ _).alloc (Nat.le_refl _) _
  by_cases h0 : f < 0
  all_goals (
    go_enter Try.func30, Try.ntmps30
    go_wp2
    go_ret
    exact ⟨rfl, hb0⟩)

set_option maxRecDepth 100000 in
set_option maxHeartbeats 4000000 in
theorem refSend0 (f t : Int) (v : Value) (w : World) (hv : ∃ a n c, v = .slice a n c) : Calls Try.prog 17 #[.agg #[.int .i64 0, .slice none 0 0], .int .i64 f, .int .i64 t, v] w fun e w' => e = .returned (.tuple #[.agg #[.int .i64 0, .slice none 0 0], .int .i64 1]) ∧ Below w.heap.size w w' := by
  obtain ⟨a, n, c, rfl⟩ := hv
  obtain ⟨W0, eW⟩ : ∃ X, X = (w.alloc (.cells #[.int .i64 0, .slice none 0 0] 30)).alloc (.cells #[.int .i64 0, .slice none 0 0] 30) := ⟨_, rfl⟩
  have hb0 : Below w.heap.size w W0 := by rw [eW]; exact ((Below.refl _ _).alloc (Nat.le_refl _) _).alloc (by simp) _
  have HX0 : Hid (BxN w.heap.size W0) := by rw [eW]; exact (Below.heap_alloc _ _ _ (by simp)).trans (heap_alloc_new w _)
  have HZ0 : Hid (BxN (w.heap.size + 1) W0) := by
    rw [eW]
    have h0 := heap_alloc_new (w.alloc (.cells #[.int .i64 0, .slice none 0 0] 30)) (.cells #[.int .i64 0, .slice none 0 0] 30)
    rw [show (w.alloc (.cells #[.int .i64 0, .slice none 0 0] 30)).heap.size = w.heap.size + 1 by simp] at h0
    exact h0
  go_enter Try.func17, Try.ntmps17
  go_wp2_with fail
  rw [← eW]
  refine (refLink0 f t _).mono ?_
  rintro e w1 ⟨rfl, hb1⟩
  have HX : Hid (BxN w.heap.size w1) := HX0.out.below hb1
  have HRz : Hid (BxN (w.heap.size + 1) w1) := HZ0.out.below hb1
  have HBw : Hid (BelowH w w1) := hb0.trans (hb1.mono hb0.size)
  clear eW hb0 hb1 HX0 HZ0
  go_upto_region 2 with fail
  refine wp_region_held_drew (S := fun W' => W'.heap[w.heap.size]? = some (.cells #[.int .i64 0, .slice none 0 0] 30)) (by kernel_rfl) HX.out (fun hHeld => ?_)
  obtain ⟨Us1u0, eW⟩ : ∃ X, X = w1.drew := ⟨_, rfl⟩
  have hb : Below w1.heap.size w1 Us1u0 := by rw [eW]; exact (Below.refl _ _).drew
  replace HRz : Hid (BxN (w.heap.size + 1) Us1u0) := HRz.out.below hb
  replace HBw : Hid (BelowH w Us1u0) := HBw.out.below hb
  rw [← eW] at hHeld ⊢
  clear eW hb
  refine wpAnyH_take (i := 0) (oi := ⟨some 16, _, _, _, _, _⟩) (v := ?vs1ux0) rfl (by kernel_rfl) (by kernel_rfl) (by kernel_rfl) (fun _ _ _ h => h) (Or.inl ⟨by rfl, ?hys1ux0⟩) hHeld ?rests1ux0
  case hys1ux0 => (intro w hSw; (try dsimp only at hSw); have hk := hSw; obtain ⟨k_0, k_1, _, _⟩ := row2_cells hk; go_simp; try with_reducible rfl)
  simp only [Act.put, List.setIfInBounds_toArray, List.set_cons_zero, List.set_cons_succ]
  refine wpAnyH_take (i := 1) (oi := ⟨some 17, _, _, _, _, _⟩) (v := ?vs1ux1) rfl (by kernel_rfl) (by kernel_rfl) (by kernel_rfl) (fun _ _ _ h => h) (Or.inl ⟨by rfl, ?hys1ux1⟩) hHeld ?rests1ux1
  case hys1ux1 => (intro w hSw; (try dsimp only at hSw); have hk := hSw; obtain ⟨k_0, k_1, _, _⟩ := row2_cells hk; go_simp; try with_reducible rfl)
  simp only [Act.put, List.setIfInBounds_toArray, List.set_cons_zero, List.set_cons_succ]
  refine wpAnyH_take (i := 2) (oi := ⟨some 18, _, _, _, _, _⟩) (v := ?vs1ux2) rfl (by kernel_rfl) (by kernel_rfl) (by kernel_rfl) (fun _ _ _ h => h) (Or.inl ⟨by rfl, ?hys1ux2⟩) hHeld ?rests1ux2
  case hys1ux2 => (intro w _; go_simp; try with_reducible rfl)
  simp only [Act.put, List.setIfInBounds_toArray, List.set_cons_zero, List.set_cons_succ]
  refine wpAnyH_take (i := 3) (oi := ⟨some 19, _, _, _, _, _⟩) (v := ?vs1ux3) rfl (by kernel_rfl) (by kernel_rfl) (by kernel_rfl) (fun _ _ _ h => h) (Or.inl ⟨by rfl, ?hys1ux3⟩) hHeld ?rests1ux3
  case hys1ux3 => (intro w _; go_simp; try with_reducible rfl)
  simp only [Act.put, List.setIfInBounds_toArray, List.set_cons_zero, List.set_cons_succ]
  refine wpAnyH_ready (rs := [4]) (by kernel_rfl) (by simp) ?_
  refine AllReadyH.cons (o := ⟨some 20, _, _, _, _, _⟩) rfl (fun K hK => ?_) AllReadyH.nil
  go_simp
  refine (refLink0 f t _).mono ?_
  rintro e Us1u1 ⟨rfl, hb⟩
  (try go_wp2_with fail)
  refine hK.out _ _ ((hb.block _ (row_lt hHeld)).trans hHeld) (fun hHeld2 => ?_)
  clear hK K hHeld
  have hHeld := hHeld2
  clear hHeld2
  (try simp only [Act.put, List.setIfInBounds_toArray, List.set_cons_zero, List.set_cons_succ])
  replace HRz : Hid (BxN (w.heap.size + 1) Us1u1) := HRz.out.below hb
  replace HBw : Hid (BelowH w Us1u1) := HBw.out.below hb
  clear hb
  refine wpAnyH_ready (rs := [5]) (by kernel_rfl) (by simp) ?_
  refine AllReadyH.cons (o := ⟨none, _, _, _, _, _⟩) rfl (fun K hK => ?_) AllReadyH.nil
  obtain ⟨r_0, r_1, r_2, r_3⟩ := row2_cells HRz.out
  go_simp
  refine hK.out _ _ (row_set_other (row_set_other hHeld (by omega)) (by omega)) (fun hHeld2 => ?_)
  clear hK K hHeld
  have hHeld := hHeld2
  clear hHeld2
  (try simp only [Act.put, List.setIfInBounds_toArray, List.set_cons_zero, List.set_cons_succ])
  have HSm : Hid (((Us1u1.setCell ⟨w.heap.size + 1, 0, none⟩ (.int .i64 0)).setCell ⟨w.heap.size + 1, 1, none⟩ (.slice none 0 0)).heap[w.heap.size + 1]? = some (.cells #[.int .i64 0, .slice none 0 0] 30)) := row_set2 HRz.out
  have HBs : Hid (Below w.heap.size w ((Us1u1.setCell ⟨w.heap.size + 1, 0, none⟩ (.int .i64 0)).setCell ⟨w.heap.size + 1, 1, none⟩ (.slice none 0 0))) := (HBw.out.setCell (p := ⟨w.heap.size + 1, 0, none⟩) (by show w.heap.size ≤ w.heap.size + 1; omega) _).setCell (p := ⟨w.heap.size + 1, 1, none⟩) (by show w.heap.size ≤ w.heap.size + 1; omega) _
  clear r_0 r_1 r_2 r_3 HRz HBw
  refine wpAnyH_take (i := 6) (oi := ⟨some 9, _, _, _, _, _⟩) (v := ?vs1u_4_5x6) rfl (by kernel_rfl) (by kernel_rfl) (by kernel_rfl) (fun _ _ _ h => h) (Or.inl ⟨by rfl, ?hys1u_4_5x6⟩) hHeld ?rests1u_4_5x6
  case hys1u_4_5x6 => (intro w _; go_simp; try with_reducible rfl)
  simp only [Act.put, List.setIfInBounds_toArray, List.set_cons_zero, List.set_cons_succ]
  refine wpAnyH_done (by kernel_rfl) ?_ _
  clear hHeld
  go_wp2
  (try simp only [Exit.inBlock, Exit.then])
  refine bodyPost_ret (results_cell_row2 rfl _ _ (w.heap.size + 1) _ _ _ _ rfl HSm.out Try.underlying30 rfl (by kernel_rfl) rfl) rfl ?_
  exact ⟨rfl, HBs.out⟩

set_option maxHeartbeats 1000000 in
theorem refPeek0 (f t i : Int) (w : World) : Calls Try.prog 24 #[.agg #[.int .i64 0, .slice none 0 0], .int .i64 f, .int .i64 t, .int .i64 i] w fun e w' => e = .returned (.tuple #[.slice none 0 0, .int .i64 1]) ∧ Below w.heap.size w w' := by
  have hb0 : Below w.heap.size w (w.alloc (.cells #[.int .i64 0, .slice none 0 0] 30)) := (Below.refl _ _).alloc (Nat.le_refl _) _
  have HX0 : Hid (BxN w.heap.size (w.alloc (.cells #[.int .i64 0, .slice none 0 0] 30))) := heap_alloc_new w _
  go_enter Try.func24, Try.ntmps24
  go_wp2_with fail
  refine (refLink0 f t _).mono ?_
  rintro e w1 ⟨rfl, hb1⟩
  have HB1 : Hid (Below w.heap.size w w1) := hb0.trans (hb1.mono hb0.size)
  have HX : Hid (BxN w.heap.size w1) := HX0.out.below hb1
  obtain ⟨x0, x1, _, _⟩ := row2_cells HX.out
  clear hb1 HX0
  go_wp2_with fail
  refine (refLink0 f t _).mono ?_
  rintro e w2 ⟨rfl, hb2⟩
  have HB2 : Hid (Below w.heap.size w w2) := HB1.out.trans (hb2.mono HB1.out.size)
  clear hb2 x0 x1
  go_wp2
  go_ret2
  exact ⟨rfl, HB2.out⟩

set_option maxRecDepth 100000 in
set_option maxHeartbeats 4000000 in
theorem refDeliver0 (f t i : Int) (w : World) : Calls Try.prog 18 #[.agg #[.int .i64 0, .slice none 0 0], .int .i64 f, .int .i64 t, .int .i64 i] w fun e w' => e = .returned (.tuple #[.agg #[.int .i64 0, .slice none 0 0], .slice none 0 0, .int .i64 1]) ∧ Below w.heap.size w w' := by
  obtain ⟨W0, eW⟩ : ∃ X, X = (w.alloc (.cells #[.int .i64 0, .slice none 0 0] 30)).alloc (.cells #[.int .i64 0, .slice none 0 0] 30) := ⟨_, rfl⟩
  have hb0 : Below w.heap.size w W0 := by rw [eW]; exact ((Below.refl _ _).alloc (Nat.le_refl _) _).alloc (by simp) _
  have HX0 : Hid (BxN w.heap.size W0) := by rw [eW]; exact (Below.heap_alloc _ _ _ (by simp)).trans (heap_alloc_new w _)
  have HZ0 : Hid (BxN (w.heap.size + 1) W0) := by
    rw [eW]
    have h0 := heap_alloc_new (w.alloc (.cells #[.int .i64 0, .slice none 0 0] 30)) (.cells #[.int .i64 0, .slice none 0 0] 30)
    rw [show (w.alloc (.cells #[.int .i64 0, .slice none 0 0] 30)).heap.size = w.heap.size + 1 by simp] at h0
    exact h0
  go_enter Try.func18, Try.ntmps18
  go_wp2_with fail
  rw [← eW]
  refine (refPeek0 f t i _).mono ?_
  rintro e w1 ⟨rfl, hb1⟩
  have HX : Hid (BxN w.heap.size w1) := HX0.out.below hb1
  have HRz : Hid (BxN (w.heap.size + 1) w1) := HZ0.out.below hb1
  have HBw : Hid (BelowH w w1) := hb0.trans (hb1.mono hb0.size)
  obtain ⟨k_0, k_1, _, _⟩ := row2_cells HX.out
  obtain ⟨r_0, r_1, r_2, r_3⟩ := row2_cells HRz.out
  clear eW hb0 hb1 HX0 HZ0
  go_wp2
  (try simp only [Exit.inBlock, Exit.then])
  refine bodyPost_ret (results_cell_row3 rfl _ _ (w.heap.size + 1) _ _ _ _ rfl (row_set2 HRz.out) Try.underlying30 rfl (by kernel_rfl) rfl rfl) rfl ?_
  exact ⟨rfl, (Below.setCell HBw.out (p := ⟨w.heap.size + 1, 0, none⟩) (by show w.heap.size ≤ w.heap.size + 1; omega) _).setCell (p := ⟨w.heap.size + 1, 1, none⟩) (by show w.heap.size ≤ w.heap.size + 1; omega) _⟩

set_option maxRecDepth 100000 in
set_option maxHeartbeats 4000000 in
theorem refDouble0 (f t i : Int) (w : World) : Calls Try.prog 20 #[.agg #[.int .i64 0, .slice none 0 0], .int .i64 f, .int .i64 t, .int .i64 i] w fun e w' => e = .returned (.tuple #[.agg #[.int .i64 0, .slice none 0 0], .int .i64 1]) ∧ Below w.heap.size w w' := by
  obtain ⟨W0, eW⟩ : ∃ X, X = (w.alloc (.cells #[.int .i64 0, .slice none 0 0] 30)).alloc (.cells #[.int .i64 0, .slice none 0 0] 30) := ⟨_, rfl⟩
  have hb0 : Below w.heap.size w W0 := by rw [eW]; exact ((Below.refl _ _).alloc (Nat.le_refl _) _).alloc (by simp) _
  have HX0 : Hid (BxN w.heap.size W0) := by rw [eW]; exact (Below.heap_alloc _ _ _ (by simp)).trans (heap_alloc_new w _)
  have HZ0 : Hid (BxN (w.heap.size + 1) W0) := by
    rw [eW]
    have h0 := heap_alloc_new (w.alloc (.cells #[.int .i64 0, .slice none 0 0] 30)) (.cells #[.int .i64 0, .slice none 0 0] 30)
    rw [show (w.alloc (.cells #[.int .i64 0, .slice none 0 0] 30)).heap.size = w.heap.size + 1 by simp] at h0
    exact h0
  go_enter Try.func20, Try.ntmps20
  go_wp2_with fail
  rw [← eW]
  refine (refPeek0 f t i _).mono ?_
  rintro e w1 ⟨rfl, hb1⟩
  have HX : Hid (BxN w.heap.size w1) := HX0.out.below hb1
  have HRz : Hid (BxN (w.heap.size + 1) w1) := HZ0.out.below hb1
  have HBw : Hid (BelowH w w1) := hb0.trans (hb1.mono hb0.size)
  obtain ⟨k_0, k_1, _, _⟩ := row2_cells HX.out
  obtain ⟨r_0, r_1, r_2, r_3⟩ := row2_cells HRz.out
  clear eW hb0 hb1 HX0 HZ0
  go_wp2
  (try simp only [Exit.inBlock, Exit.then])
  refine bodyPost_ret (results_cell_row2 rfl _ _ (w.heap.size + 1) _ _ _ _ rfl (row_set2 HRz.out) Try.underlying30 rfl (by kernel_rfl) rfl) rfl ?_
  exact ⟨rfl, (Below.setCell HBw.out (p := ⟨w.heap.size + 1, 0, none⟩) (by show w.heap.size ≤ w.heap.size + 1; omega) _).setCell (p := ⟨w.heap.size + 1, 1, none⟩) (by show w.heap.size ≤ w.heap.size + 1; omega) _⟩

set_option maxRecDepth 100000 in
set_option maxHeartbeats 4000000 in
theorem refSpoil0 (f t i at_ mask : Int) (w : World) : Calls Try.prog 22 #[.agg #[.int .i64 0, .slice none 0 0], .int .i64 f, .int .i64 t, .int .i64 i, .int .i64 at_, .int .i64 mask] w fun e w' => e = .returned (.tuple #[.agg #[.int .i64 0, .slice none 0 0], .int .i64 1]) ∧ Below w.heap.size w w' := by
  obtain ⟨W0, eW⟩ : ∃ X, X = (w.alloc (.cells #[.int .i64 0, .slice none 0 0] 30)).alloc (.cells #[.int .i64 0, .slice none 0 0] 30) := ⟨_, rfl⟩
  have hb0 : Below w.heap.size w W0 := by rw [eW]; exact ((Below.refl _ _).alloc (Nat.le_refl _) _).alloc (by simp) _
  have HX0 : Hid (BxN w.heap.size W0) := by rw [eW]; exact (Below.heap_alloc _ _ _ (by simp)).trans (heap_alloc_new w _)
  have HZ0 : Hid (BxN (w.heap.size + 1) W0) := by
    rw [eW]
    have h0 := heap_alloc_new (w.alloc (.cells #[.int .i64 0, .slice none 0 0] 30)) (.cells #[.int .i64 0, .slice none 0 0] 30)
    rw [show (w.alloc (.cells #[.int .i64 0, .slice none 0 0] 30)).heap.size = w.heap.size + 1 by simp] at h0
    exact h0
  go_enter Try.func22, Try.ntmps22
  go_wp2_with fail
  rw [← eW]
  refine (refPeek0 f t i _).mono ?_
  rintro e w1 ⟨rfl, hb1⟩
  have HX : Hid (BxN w.heap.size w1) := HX0.out.below hb1
  have HRz : Hid (BxN (w.heap.size + 1) w1) := HZ0.out.below hb1
  have HBw : Hid (BelowH w w1) := hb0.trans (hb1.mono hb0.size)
  obtain ⟨k_0, k_1, _, _⟩ := row2_cells HX.out
  obtain ⟨r_0, r_1, r_2, r_3⟩ := row2_cells HRz.out
  clear eW hb0 hb1 HX0 HZ0
  go_wp2
  (try simp only [Exit.inBlock, Exit.then])
  refine bodyPost_ret (results_cell_row2 rfl _ _ (w.heap.size + 1) _ _ _ _ rfl (row_set2 HRz.out) Try.underlying30 rfl (by kernel_rfl) rfl) rfl ?_
  exact ⟨rfl, (Below.setCell HBw.out (p := ⟨w.heap.size + 1, 0, none⟩) (by show w.heap.size ≤ w.heap.size + 1; omega) _).setCell (p := ⟨w.heap.size + 1, 1, none⟩) (by show w.heap.size ≤ w.heap.size + 1; omega) _⟩

end Go.Proofs.Ytlcnfoljkcfplaa
