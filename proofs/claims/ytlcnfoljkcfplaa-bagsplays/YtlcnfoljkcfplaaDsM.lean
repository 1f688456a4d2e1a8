/- The document's Spoil of a frame. -/
import Derived.Test.YtlcnfoljkcfplaaDsL
namespace Go.Proofs.Ytlcnfoljkcfplaa
open Go.RowKit Go.Shelf
set_option linter.unusedVariables false
set_option linter.unusedSimpArgs false

/-- What a Spoil tells, and what there is then. -/
def SpP (n : Nat) (L : List Sn) (f t i at_ mask : Int) (c : Int) (L' : List Sn) : Prop := (peekE n L f t i ≠ 0 ∧ c = peekE n L f t i ∧ L' = L) ∨ ∃ (j : Nat) (hj : j < L.length), peekE n L f t i = 0 ∧ placeL L f t i = (j : Int) ∧ ((L[j].sp = true ∧ c = 5 ∧ L' = L) ∨ (L[j].sp = false ∧ c = (spoilL L[j].p at_ mask).2 ∧ L' = if (spoilL L[j].p at_ mask).2 = 0 then L.set j ⟨f, t, (spoilL L[j].p at_ mask).1, true⟩ else L))
theorem flatS_set (E : List (Sn × Value)) (j : Nat) (x : Sn × Value) (hj : j < E.length) : flatS (E.set j x) = ((((flatS E).set (j * 4) (.int .i64 x.1.fr)).set (j * 4 + 1) (.int .i64 x.1.to)).set (j * 4 + 2) x.2).set (j * 4 + 3) (.bool x.1.sp) := by
  obtain ⟨A, y, D, rfl, rfl⟩ : ∃ A y D, E = A ++ y :: D ∧ A.length = j := ⟨E.take j, E[j], E.drop (j + 1), by rw [List.getElem_cons_drop, List.take_append_drop], by rw [List.length_take]; omega⟩
  have e1 : (A ++ y :: D).set A.length x = A ++ x :: D := by rw [List.set_append_right _ _ (Nat.le_refl _)]; simp
  rw [e1]
  have e2 : ∀ z : Sn × Value, flatS (A ++ z :: D) = flatS A ++ (snCells z.1 z.2 ++ flatS D) := fun z => by simp [flatS]
  rw [e2, e2]
  have hl := flatS_length A
  rw [List.set_append_right _ _ (by omega), List.set_append_right _ _ (by omega), List.set_append_right _ _ (by omega), List.set_append_right _ _ (by omega), hl]
  congr 1
  rw [show A.length * 4 - A.length * 4 = 0 by omega, show A.length * 4 + 1 - A.length * 4 = 1 by omega, show A.length * 4 + 2 - A.length * 4 = 2 by omega, show A.length * 4 + 3 - A.length * 4 = 3 by omega]
  rfl
def W4 (w : World) (g k : Nat) (s : Sn) (pv : Value) : World := (((w.setCell ⟨g, k, none⟩ (.int .i64 s.fr)).setCell ⟨g, k + 1, none⟩ (.int .i64 s.to)).setCell ⟨g, k + 2, none⟩ pv).setCell ⟨g, k + 3, none⟩ (.bool s.sp)
theorem OwnFl.set4 {G : Nat → Prop} {N : Nat} {w : World} {g c : Nat} {L : List Sn} (h : OwnFl G N w (.slice (some ⟨g, 0, none⟩) L.length c) L) {j : Nat} (hj : j < L.length) (s : Sn) (pv : Value) (hp : IsBG (fun k => (G k ∨ (N ≤ k ∧ k < w.heap.size)) ∧ k ≠ g) w pv s.p) :
    OwnFl G N (W4 w g (j * 4) s pv) (.slice (some ⟨g, 0, none⟩) L.length c) (L.set j s) := by
  obtain ⟨E, g', cap, e, h1, h2, h3⟩ := h
  simp at e
  obtain ⟨rfl, rfl⟩ := e
  have hEl : E.length = L.length := by rw [← h2]; simp
  have h1' : w.ownsRow N 76 4 (.slice (some ⟨g, 0, none⟩) L.length c) L.length (flatS E) := by have h9 := h1; unfold OwnS at h9; rw [hEl] at h9; exact h9
  obtain ⟨q1, _⟩ := World.ownsRow.stored h1' (j * 4) (.int .i64 s.fr)
  obtain ⟨q2, _⟩ := World.ownsRow.stored q1 (j * 4 + 1) (.int .i64 s.to)
  obtain ⟨q3, _⟩ := World.ownsRow.stored q2 (j * 4 + 2) pv
  obtain ⟨q4, _⟩ := World.ownsRow.stored q3 (j * 4 + 3) (.bool s.sp)
  have hk : ∀ k, k ≠ g → (W4 w g (j * 4) s pv).heap[k]? = w.heap[k]? := fun k q => by
    unfold W4
    exact (RowKit.Below.heap_setCell _ _ _ _ q).trans ((RowKit.Below.heap_setCell _ _ _ _ q).trans ((RowKit.Below.heap_setCell _ _ _ _ q).trans (RowKit.Below.heap_setCell _ _ _ _ q)))
  have hz : (W4 w g (j * 4) s pv).heap.size = w.heap.size := by simp [W4, World.setCell]
  refine ⟨E.set j (s, pv), g, c, by simp, ?_, by rw [List.map_set, h2], fun x hx => ?_⟩
  · unfold OwnS
    rw [List.length_set, hEl, flatS_set E j (s, pv) (by omega)]
    exact q4
  · rw [hz]
    rcases List.mem_or_eq_of_mem_set hx with hx | hx
    · exact (h3 x hx).keep fun k q => hk k q.2
    · subst hx
      exact hp.keep fun k q => hk k q.2
theorem OwnFl.four {G : Nat → Prop} {N : Nat} {w : World} {g c : Nat} {L : List Sn} (h : OwnFl G N w (.slice (some ⟨g, 0, none⟩) L.length c) L) {j : Nat} (hj : j < L.length) : ∃ pv, (∀ q u, (snCells L[j] pv)[q]? = some u → w.cell? ⟨g, j * 4 + q, none⟩ = some u) ∧ (∀ q, w.frozen? ⟨g, q, none⟩ = false) ∧ ∃ a n c, pv = .slice a n c := by
  obtain ⟨E, g', cap, e, h1, h2, h3⟩ := h
  simp at e
  obtain ⟨rfl, rfl⟩ := e
  have hEl : E.length = L.length := by rw [← h2]; simp
  have h1' : w.ownsRow N 76 4 (.slice (some ⟨g, 0, none⟩) L.length c) L.length (flatS E) := by have h9 := h1; unfold OwnS at h9; rw [hEl] at h9; exact h9
  obtain ⟨cur, hc⟩ := ownsRow_type h1 g rfl
  have h7 : (E[j]'(by omega)).1 = L[j] := by have h6 := congrArg (fun l => l[j]?) h2; simp [hj, show j < E.length by omega] at h6; exact h6
  refine ⟨(E[j]'(by omega)).2, fun q u hq => ?_, fun q => frozen_of_row w g _ _ _ hc, ?_⟩
  · have hq2 : q < 4 := (List.getElem?_eq_some_iff.1 hq).1
    rw [← h7] at hq
    exact (World.ownsRow.cellAt h1' (j * 4 + q) (by omega)).trans (flatS_get E j (by omega) q u hq)
  · obtain ⟨a, c, e, _⟩ := h3 (E[j]'(by omega)) (List.getElem_mem _)
    exact ⟨a, _, c, e⟩

set_option maxRecDepth 100000 in
set_option maxHeartbeats 8000000 in
theorem refNSpoil_any (G : Nat → Prop) (n : Nat) (v : Value) (L : List Sn) (f t i at_ mask : Int) (w : World) (h : SFirm G w v L) (hl : L.length ≤ 4000) (hpl : ∀ s ∈ L, s.p.length ≤ 65545) (hmw : -9223372036854775808 ≤ mask ∧ mask < 9223372036854775808) :
    Calls Try.prog 22 #[.agg #[.int .i64 (n : Int), v], .int .i64 f, .int .i64 t, .int .i64 i, .int .i64 at_, .int .i64 mask] w fun e w' => ∃ v' L' c G', e = .returned (.tuple #[.agg #[.int .i64 (n : Int), v'], .int .i64 c]) ∧ SpP n L f t i at_ mask c L' ∧ SFirm G' w' v' L' ∧ (∀ k, G' k → G k ∨ w.heap.size ≤ k) ∧ Below w.heap.size w w' := by
  have HGl : Hid (∀ k, G k → k < w.heap.size) := h.1
  have HPl0 : Hid (∀ s ∈ L, s.p.length ≤ 65545) := hpl
  clear hpl
  obtain ⟨a1, c1, e1⟩ := h.isS.form
  subst e1
  obtain ⟨W0, eW⟩ : ∃ X, X = (w.alloc (.cells #[.int .i64 (n : Int), .slice a1 L.length c1] 30)).alloc (.cells #[.int .i64 0, .slice none 0 0] 30) := ⟨_, rfl⟩
  have hb : Below w.heap.size w W0 := by rw [eW]; exact ((Below.refl _ _).alloc (Nat.le_refl _) _).alloc (by simp) _
  have HS : Hid (SFirm G W0 (.slice a1 L.length c1) L) := h.below hb
  have HX : Hid (W0.heap[w.heap.size]? = some (.cells #[.int .i64 (n : Int), .slice a1 L.length c1] 30)) := by rw [eW]; exact (Below.heap_alloc _ _ _ (by simp)).trans (heap_alloc_new w _)
  have HZ : Hid (W0.heap[(w.heap.size + 1)]? = some (.cells #[.int .i64 0, .slice none 0 0] 30)) := by
    rw [eW]
    have h0 := heap_alloc_new (w.alloc (.cells #[.int .i64 (n : Int), .slice a1 L.length c1] 30)) (.cells #[.int .i64 0, .slice none 0 0] 30)
    rw [show (w.alloc (.cells #[.int .i64 (n : Int), .slice a1 L.length c1] 30)).heap.size = w.heap.size + 1 by simp] at h0
    exact h0
  have HB : Hid (Below w.heap.size w W0) := hb
  have HS0 : Hid (SFirm G w (.slice a1 L.length c1) L) := h
  have x_0 : W0.cell? ⟨w.heap.size, 0, none⟩ = some (.int .i64 (n : Int)) := (by rw [cell_of_row _ _ _ _ _ _ HX.out]; rfl)
  have x_1 : W0.cell? ⟨w.heap.size, 1, none⟩ = some (.slice a1 L.length c1) := (by rw [cell_of_row _ _ _ _ _ _ HX.out]; rfl)
  rw [eW] at x_0 x_1
  have HsW : Hid (W0.heap.size = w.heap.size + 2) := (by rw [eW]; show _ = _; simp)
  clear hb h
  go_enter Try.func22, Try.ntmps22
  go_wp2_with fail
  rw [← eW]
  clear eW x_0 x_1
  refine (refPeek_any G n _ L f t i _ HS.out).mono ?_
  rintro e w1 ⟨pv, rfl, hpk, hb⟩
  have HPk : Hid (PeekP G n L f t i w1 pv) := hpk
  clear hpk
  have HW1 : Hid (w.heap.size + 2 ≤ w1.heap.size) := (by show _ ≤ _; rw [← HsW.out]; exact hb.size)
  replace HS : Hid (SFirm G w1 (.slice a1 L.length c1) L) := HS.out.below hb
  replace HX : Hid (w1.heap[w.heap.size]? = some (.cells #[.int .i64 (n : Int), .slice a1 L.length c1] 30)) := (hb.block _ (row_lt HX.out)).trans HX.out
  replace HZ : Hid (w1.heap[(w.heap.size + 1)]? = some (.cells #[.int .i64 0, .slice none 0 0] 30)) := (hb.block _ (row_lt HZ.out)).trans HZ.out
  replace HB : Hid (Below w.heap.size w w1) := HB.out.trans (hb.mono HB.out.size)
  clear hb
  by_cases hpe : peekE n L f t i = 0
  rotate_left
  · have g1 : (peekE n L f t i == 0) = false := by simp [hpe]
    obtain rfl : pv = .slice none 0 0 := HPk.out.1 hpe
    have HNz : Hid (peekE n L f t i ≠ 0) := hpe
    clear hpe
    obtain ⟨le, ele⟩ : ∃ x, x = peekE n L f t i := ⟨_, rfl⟩
    rw [← ele] at g1 ⊢
    have HpE : Hid (le = peekE n L f t i) := ele
    clear ele
    have x_0 : w1.cell? ⟨w.heap.size, 0, none⟩ = some (.int .i64 (n : Int)) := (by rw [cell_of_row _ _ _ _ _ _ HX.out]; rfl)
    have x_1 : w1.cell? ⟨w.heap.size, 1, none⟩ = some (.slice a1 L.length c1) := (by rw [cell_of_row _ _ _ _ _ _ HX.out]; rfl)
    obtain ⟨z_0, z_1, z_2, z_3⟩ := row2_cells HZ.out
    go_wp2
    (try simp only [Exit.inBlock, Exit.then])
    have HR : Hid (((w1.setCell ⟨w.heap.size + 1, 0, none⟩ (.int .i64 (n : Int))).setCell ⟨w.heap.size + 1, 1, none⟩ (.slice a1 L.length c1)).heap[w.heap.size + 1]? = some (.cells #[.int .i64 (n : Int), .slice a1 L.length c1] 30)) := row_set2 HZ.out
    have HBs : Hid (Below w.heap.size w ((w1.setCell ⟨w.heap.size + 1, 0, none⟩ (.int .i64 (n : Int))).setCell ⟨w.heap.size + 1, 1, none⟩ (.slice a1 L.length c1))) := (HB.out.setCell (p := ⟨w.heap.size + 1, 0, none⟩) (by show w.heap.size ≤ w.heap.size + 1; omega) _).setCell (p := ⟨w.heap.size + 1, 1, none⟩) (by show w.heap.size ≤ w.heap.size + 1; omega) _
    have HSs : Hid (SFirm G ((w1.setCell ⟨w.heap.size + 1, 0, none⟩ (.int .i64 (n : Int))).setCell ⟨w.heap.size + 1, 1, none⟩ (.slice a1 L.length c1)) (.slice a1 L.length c1) L) := HS0.out.keep HBs.out.size (fun k q => HBs.out.block k (HGl.out k q))
    refine bodyPost_ret (results_cell_row2 rfl _ _ (w.heap.size + 1) _ _ _ _ rfl HR.out Try.underlying30 rfl (by kernel_rfl) rfl) rfl ?_
    exact ⟨_, L, le, G, rfl, .inl ⟨HNz.out, HpE.out, rfl⟩, HSs.out, fun k q => .inl q, HBs.out⟩
  have HpE : Hid (peekE n L f t i = 0) := hpe
  rw [hpe]
  clear hpe
  obtain ⟨j, hj, hpl⟩ : ∃ j : Nat, j < L.length ∧ placeL L f t i = (j : Int) := place_of HpE.out
  have HPl : Hid (placeL L f t i = (j : Int)) := hpl
  have hpb : IsBG G w1 pv L[j].p := HPk.out.2 j hj HpE.out hpl
  have HPs : Hid (L[j].p.length ≤ 65545) := HPl0.out _ (List.getElem_mem hj)
  obtain ⟨p, ep⟩ : ∃ p, p = L[j].p := ⟨_, rfl⟩
  obtain ⟨sj, es⟩ : ∃ s, s = L[j].sp := ⟨_, rfl⟩
  rw [← ep] at hpb HPs
  have HPj : Hid (p = L[j].p) := ep
  have HSj : Hid (sj = L[j].sp) := es
  obtain ⟨ap, cp, eap, _⟩ := id hpb
  subst eap
  have HPv : Hid (IsB w1 (.slice ap p.length cp) p) := hpb.isB
  clear ep es hpb hpl HPk
  have x_0 : w1.cell? ⟨w.heap.size, 0, none⟩ = some (.int .i64 (n : Int)) := (by rw [cell_of_row _ _ _ _ _ _ HX.out]; rfl)
  have x_1 : w1.cell? ⟨w.heap.size, 1, none⟩ = some (.slice a1 L.length c1) := (by rw [cell_of_row _ _ _ _ _ _ HX.out]; rfl)
  go_wp2_with fail
  clear x_0 x_1
  refine (refPlace_any (n : Int) _ L f t i _ HS.out.isS).mono ?_
  rintro e w2 ⟨rfl, hb⟩
  have HW2 : Hid (w.heap.size + 2 ≤ w2.heap.size) := Nat.le_trans HW1.out hb.size
  replace HS : Hid (SFirm G w2 (.slice a1 L.length c1) L) := HS.out.below hb
  replace HX : Hid (w2.heap[w.heap.size]? = some (.cells #[.int .i64 (n : Int), .slice a1 L.length c1] 30)) := (hb.block _ (row_lt HX.out)).trans HX.out
  replace HZ : Hid (w2.heap[(w.heap.size + 1)]? = some (.cells #[.int .i64 0, .slice none 0 0] 30)) := (hb.block _ (row_lt HZ.out)).trans HZ.out
  replace HB : Hid (Below w.heap.size w w2) := HB.out.trans (hb.mono HB.out.size)
  replace HPv : Hid (IsB w2 (.slice ap p.length cp) p) := HPv.out.below hb
  clear hb
  rw [HPl.out]
  obtain ⟨b, o, cap, E, ev, hcap, hGb, hEm, hEd, hc⟩ := HS.out.row (by intro e; rw [e] at hj; simp at hj)
  injection ev with ev1 ev2 ev3
  subst ev1
  subst ev3
  clear ev2
  have HSc : Hid (w2.cell? ⟨b, o + j * 4 + 3, none⟩ = some (.bool sj)) := (by have hjE : j < E.length := (by have := congrArg List.length hEm; simp at this; omega); have h9 := flatS_get E j hjE 3 (.bool E[j].1.sp) rfl; have h8 := hc _ _ h9; have h7 : E[j].1 = L[j] := (by have h6 := congrArg (fun l => l[j]?) hEm; simp [hjE, hj] at h6; exact h6); rw [h7, ← HSj.out] at h8; rw [Nat.add_assoc]; exact h8)
  have hs3 := HSc.out
  clear hcap hGb hEm hEd hc
  have j1 : (j : Int) < (L.length : Int) := by omega
  have j0 : (0 : Int) ≤ (j : Int) := by omega
  cases sj with
  | true =>
    have x_0 : w2.cell? ⟨w.heap.size, 0, none⟩ = some (.int .i64 (n : Int)) := (by rw [cell_of_row _ _ _ _ _ _ HX.out]; rfl)
    have x_1 : w2.cell? ⟨w.heap.size, 1, none⟩ = some (.slice (some ⟨b, o, none⟩) L.length c1) := (by rw [cell_of_row _ _ _ _ _ _ HX.out]; rfl)
    obtain ⟨z_0, z_1, z_2, z_3⟩ := row2_cells HZ.out
    go_wp2
    (try simp only [Exit.inBlock, Exit.then])
    have HR : Hid (((w2.setCell ⟨w.heap.size + 1, 0, none⟩ (.int .i64 (n : Int))).setCell ⟨w.heap.size + 1, 1, none⟩ (.slice (some ⟨b, o, none⟩) L.length c1)).heap[w.heap.size + 1]? = some (.cells #[.int .i64 (n : Int), .slice (some ⟨b, o, none⟩) L.length c1] 30)) := row_set2 HZ.out
    have HBs : Hid (Below w.heap.size w ((w2.setCell ⟨w.heap.size + 1, 0, none⟩ (.int .i64 (n : Int))).setCell ⟨w.heap.size + 1, 1, none⟩ (.slice (some ⟨b, o, none⟩) L.length c1))) := (HB.out.setCell (p := ⟨w.heap.size + 1, 0, none⟩) (by show w.heap.size ≤ w.heap.size + 1; omega) _).setCell (p := ⟨w.heap.size + 1, 1, none⟩) (by show w.heap.size ≤ w.heap.size + 1; omega) _
    have HSs : Hid (SFirm G ((w2.setCell ⟨w.heap.size + 1, 0, none⟩ (.int .i64 (n : Int))).setCell ⟨w.heap.size + 1, 1, none⟩ (.slice (some ⟨b, o, none⟩) L.length c1)) (.slice (some ⟨b, o, none⟩) L.length c1) L) := HS0.out.keep HBs.out.size (fun k q => HBs.out.block k (HGl.out k q))
    refine bodyPost_ret (results_cell_row2 rfl _ _ (w.heap.size + 1) _ _ _ _ rfl HR.out Try.underlying30 rfl (by kernel_rfl) rfl) rfl ?_
    exact ⟨_, L, 5, G, rfl, .inr ⟨j, hj, HpE.out, HPl.out, .inl ⟨HSj.out.symm, rfl, rfl⟩⟩, HSs.out, fun k q => .inl q, HBs.out⟩
  | false =>
    have x_0 : w2.cell? ⟨w.heap.size, 0, none⟩ = some (.int .i64 (n : Int)) := (by rw [cell_of_row _ _ _ _ _ _ HX.out]; rfl)
    have x_1 : w2.cell? ⟨w.heap.size, 1, none⟩ = some (.slice (some ⟨b, o, none⟩) L.length c1) := (by rw [cell_of_row _ _ _ _ _ _ HX.out]; rfl)
    go_wp2_with fail
    clear x_0 x_1 hs3 HSc
    refine (refSpoil_any _ p at_ mask _ HPv.out (by have := HPs.out; omega) hmw).mono ?_
    rintro e w4 ⟨qv, rfl, hqo, hb⟩
    have HW4 : Hid (w.heap.size + 2 ≤ w4.heap.size) := Nat.le_trans HW2.out hb.size
    have HN3 : Hid (w.heap.size + 2 ≤ w2.heap.size ∧ w2.heap.size ≤ w4.heap.size) := ⟨HW2.out, hb.size⟩
    obtain ⟨N3, eN3⟩ : ∃ x, x = w2.heap.size := ⟨_, rfl⟩
    rw [← eN3] at hqo HN3
    clear eN3
    replace HS : Hid (SFirm G w4 (.slice (some ⟨b, o, none⟩) L.length c1) L) := HS.out.below hb
    replace HX : Hid (w4.heap[w.heap.size]? = some (.cells #[.int .i64 (n : Int), .slice (some ⟨b, o, none⟩) L.length c1] 30)) := (hb.block _ (row_lt HX.out)).trans HX.out
    replace HZ : Hid (w4.heap[(w.heap.size + 1)]? = some (.cells #[.int .i64 0, .slice none 0 0] 30)) := (hb.block _ (row_lt HZ.out)).trans HZ.out
    replace HB : Hid (Below w.heap.size w w4) := HB.out.trans (hb.mono HB.out.size)
    clear hb
    obtain ⟨z, ez⟩ : ∃ z, z = (spoilL p at_ mask).1 := ⟨_, rfl⟩
    obtain ⟨ec, eec⟩ : ∃ c, c = (spoilL p at_ mask).2 := ⟨_, rfl⟩
    have HZz : Hid (z = (spoilL p at_ mask).1 ∧ z.length ≤ p.length) := ⟨ez, by rw [ez]; exact spoilL_length p at_ mask⟩
    have HEc : Hid (ec = (spoilL p at_ mask).2) := eec
    rw [← ez] at hqo
    rw [← eec]
    clear ez eec
    obtain ⟨aq, cq, eq⟩ := hqo.form
    subst eq
    have HQ : Hid (OwnB N3 w4 (.slice aq z.length cq) z) := hqo
    clear hqo HPv
    by_cases hec : ec = 0
    rotate_left
    · have g1 : (ec == 0) = false := by simp [hec]
      have HNe : Hid (ec ≠ 0) := hec
      clear hec
      have x_0 : w4.cell? ⟨w.heap.size, 0, none⟩ = some (.int .i64 (n : Int)) := (by rw [cell_of_row _ _ _ _ _ _ HX.out]; rfl)
      have x_1 : w4.cell? ⟨w.heap.size, 1, none⟩ = some (.slice (some ⟨b, o, none⟩) L.length c1) := (by rw [cell_of_row _ _ _ _ _ _ HX.out]; rfl)
      obtain ⟨z_0, z_1, z_2, z_3⟩ := row2_cells HZ.out
      go_wp2
      (try simp only [Exit.inBlock, Exit.then])
      have HR : Hid (((w4.setCell ⟨w.heap.size + 1, 0, none⟩ (.int .i64 (n : Int))).setCell ⟨w.heap.size + 1, 1, none⟩ (.slice (some ⟨b, o, none⟩) L.length c1)).heap[w.heap.size + 1]? = some (.cells #[.int .i64 (n : Int), .slice (some ⟨b, o, none⟩) L.length c1] 30)) := row_set2 HZ.out
      have HBs : Hid (Below w.heap.size w ((w4.setCell ⟨w.heap.size + 1, 0, none⟩ (.int .i64 (n : Int))).setCell ⟨w.heap.size + 1, 1, none⟩ (.slice (some ⟨b, o, none⟩) L.length c1))) := (HB.out.setCell (p := ⟨w.heap.size + 1, 0, none⟩) (by show w.heap.size ≤ w.heap.size + 1; omega) _).setCell (p := ⟨w.heap.size + 1, 1, none⟩) (by show w.heap.size ≤ w.heap.size + 1; omega) _
      have HSs : Hid (SFirm G ((w4.setCell ⟨w.heap.size + 1, 0, none⟩ (.int .i64 (n : Int))).setCell ⟨w.heap.size + 1, 1, none⟩ (.slice (some ⟨b, o, none⟩) L.length c1)) (.slice (some ⟨b, o, none⟩) L.length c1) L) := HS0.out.keep HBs.out.size (fun k q => HBs.out.block k (HGl.out k q))
      refine bodyPost_ret (results_cell_row2 rfl _ _ (w.heap.size + 1) _ _ _ _ rfl HR.out Try.underlying30 rfl (by kernel_rfl) rfl) rfl ?_
      exact ⟨_, L, ec, G, rfl, .inr ⟨j, hj, HpE.out, HPl.out, .inr ⟨HSj.out.symm, (by rw [← HPj.out]; exact HEc.out), (by rw [← HPj.out, ← HEc.out, if_neg HNe.out])⟩⟩, HSs.out, fun k q => .inl q, HBs.out⟩
    have HE0 : Hid (0 = (spoilL p at_ mask).2) := (by rw [← HEc.out]; exact hec.symm)
    subst hec
    have y_1 : (w4.alloc (.cells #[] 76)).cell? ⟨w.heap.size, 1, none⟩ = some (.slice (some ⟨b, o, none⟩) L.length c1) := (((Below.refl _ _).alloc (Nat.le_refl _) (.cells #[] 76)).cell (p := ⟨w.heap.size, 1, none⟩) (row_lt HX.out)).trans (by rw [cell_of_row _ _ _ _ _ _ HX.out]; rfl)
    go_upto_region 11 with (at_builtin; refine wpList_appSL rfl (.tmp 55) (.tmp 57) rfl w4.heap.size w4.heap.size rfl (World.ownsRow_made w4 #[] 0 (Nat.le_refl _) (by unfold maxLen; omega) (by simp)) (some ⟨b, o, none⟩) c1 L G rfl (HS.out.below ((Below.refl _ _).alloc (Nat.le_refl _) _)) (by omega) (by simp) ?_; intro E g7 c7 w7 hEm hEd hown7 hg7; have hb : Below w4.heap.size w4 w7 := ((Below.refl _ _).alloc (Nat.le_refl _) (.cells #[] 76)).grown hg7 (by simp) (fun k e => Nat.le_of_eq (Option.some.inj e)))
    have HO : Hid (OwnFl G N3 w7 (.slice (some ⟨g7, 0, none⟩) L.length c7) L) := ⟨E, g7, c7, rfl, ownsRow_low hown7 (by have := HN3.out; omega), hEm, fun x hx => ((hEd x hx).keep (fun k q => hg7.block k (by have := HGl.out k q; have := HW4.out; simp; omega) (fun e => by have h1 := Option.some.inj e; have := HGl.out k q; have := HW4.out; omega))).mono (fun k q => ⟨.inl q, by have h1 := (World.ownsRow.lt hown7 g7 rfl).1; have := HGl.out k q; have := HW4.out; omega⟩)⟩
    have HG7 : Hid (w4.heap.size ≤ g7 ∧ g7 < w7.heap.size) := World.ownsRow.lt hown7 g7 rfl
    have HQ7 : Hid (IsBG (fun k => (G k ∨ (N3 ≤ k ∧ k < w7.heap.size)) ∧ k ≠ g7) w7 (.slice aq z.length cq) z) := IsBG.ownb (HQ.out.below hb) (by have := HZz.out.2; have := HPs.out; omega) (fun k e => by (have h1 := World.ownsRow.lt HQ.out k e; have h2 := HG7.out; exact (⟨.inr ⟨h1.1, by omega⟩, by omega⟩ : (G k ∨ (N3 ≤ k ∧ k < w7.heap.size)) ∧ k ≠ g7)))
    replace HZ : Hid (w7.heap[(w.heap.size + 1)]? = some (.cells #[.int .i64 0, .slice none 0 0] 30)) := (hb.block _ (row_lt HZ.out)).trans HZ.out
    replace HX : Hid (w7.heap[w.heap.size]? = some (.cells #[.int .i64 (n : Int), .slice (some ⟨b, o, none⟩) L.length c1] 30)) := (hb.block _ (row_lt HX.out)).trans HX.out
    replace HB : Hid (Below w.heap.size w w7) := HB.out.trans (hb.mono HB.out.size)
    clear hb hg7 hown7 hEm hEd y_1 HS HQ
    obtain ⟨pq, hq4, hfz, aq2, nq2, cq2, epq⟩ := HO.out.four hj
    subst epq
    have c_0 : w7.cell? ⟨g7, j * 4, none⟩ = some (.int .i64 L[j].fr) := hq4 0 _ rfl
    have c_1 : w7.cell? ⟨g7, j * 4 + 1, none⟩ = some (.int .i64 L[j].to) := hq4 1 _ rfl
    have c_2 : w7.cell? ⟨g7, j * 4 + 2, none⟩ = some (.slice aq2 nq2 cq2) := hq4 2 _ rfl
    have c_3 : w7.cell? ⟨g7, j * 4 + 3, none⟩ = some (.bool L[j].sp) := hq4 3 _ rfl
    have f_0 := hfz (j * 4)
    have f_1 := hfz (j * 4 + 1)
    have f_2 := hfz (j * 4 + 2)
    have f_3 := hfz (j * 4 + 3)
    clear hq4 hfz
    go_upto_region 12 with fail
    have W8 : True := trivial
    obtain ⟨w8, ew8⟩ : ∃ X, X = W4 w7 g7 (j * 4) ⟨f, t, z, true⟩ (.slice aq z.length cq) := ⟨_, rfl⟩
    have HOn : Hid (OwnFl G N3 w8 (.slice (some ⟨g7, 0, none⟩) L.length c7) (L.set j ⟨f, t, z, true⟩)) := (by rw [ew8]; exact HO.out.set4 hj ⟨f, t, z, true⟩ _ HQ7.out)
    have hne : w.heap.size ≠ g7 ∧ w.heap.size + 1 ≠ g7 := (by have := HG7.out; have := HW4.out; omega)
    replace HX : Hid (w8.heap[w.heap.size]? = some (.cells #[.int .i64 (n : Int), .slice (some ⟨b, o, none⟩) L.length c1] 30)) := (by rw [ew8]; exact row_set_other (row_set_other (row_set_other (row_set_other HX.out hne.1) hne.1) hne.1) hne.1)
    replace HZ : Hid (w8.heap[(w.heap.size + 1)]? = some (.cells #[.int .i64 0, .slice none 0 0] 30)) := (by rw [ew8]; exact row_set_other (row_set_other (row_set_other (row_set_other HZ.out hne.2) hne.2) hne.2) hne.2)
    replace HB : Hid (Below w.heap.size w w8) := (by have h9 : w.heap.size ≤ g7 := (by have := HG7.out; have := HW4.out; omega); rw [ew8]; exact (((HB.out.setCell (p := ⟨g7, j * 4, none⟩) h9 _).setCell (p := ⟨g7, j * 4 + 1, none⟩) h9 _).setCell (p := ⟨g7, j * 4 + 2, none⟩) h9 _).setCell (p := ⟨g7, j * 4 + 3, none⟩) h9 _)
    have ew9 := ew8
    simp only [W4] at ew9
    rw [← ew9]
    clear ew8 ew9 c_0 c_1 c_2 c_3 f_0 f_1 f_2 f_3 HO HQ7 hne W8
    have x_0 : w8.cell? ⟨w.heap.size, 0, none⟩ = some (.int .i64 (n : Int)) := (by rw [cell_of_row _ _ _ _ _ _ HX.out]; rfl)
    have x_1 : w8.cell? ⟨w.heap.size, 1, none⟩ = some (.slice (some ⟨b, o, none⟩) L.length c1) := (by rw [cell_of_row _ _ _ _ _ _ HX.out]; rfl)
    obtain ⟨z_0, z_1, z_2, z_3⟩ := row2_cells HZ.out
    go_wp2
    (try simp only [Exit.inBlock, Exit.then])
    have HR : Hid (((w8.setCell ⟨w.heap.size + 1, 0, none⟩ (.int .i64 (n : Int))).setCell ⟨w.heap.size + 1, 1, none⟩ (.slice (some ⟨g7, 0, none⟩) L.length c7)).heap[w.heap.size + 1]? = some (.cells #[.int .i64 (n : Int), .slice (some ⟨g7, 0, none⟩) L.length c7] 30)) := row_set2 HZ.out
    have HBs : Hid (Below w.heap.size w ((w8.setCell ⟨w.heap.size + 1, 0, none⟩ (.int .i64 (n : Int))).setCell ⟨w.heap.size + 1, 1, none⟩ (.slice (some ⟨g7, 0, none⟩) L.length c7))) := (HB.out.setCell (p := ⟨w.heap.size + 1, 0, none⟩) (by show w.heap.size ≤ w.heap.size + 1; omega) _).setCell (p := ⟨w.heap.size + 1, 1, none⟩) (by show w.heap.size ≤ w.heap.size + 1; omega) _
    have HSs := ((HOn.out.set2 (b := w.heap.size + 1) (v0 := .int .i64 (n : Int)) (v1 := .slice (some ⟨g7, 0, none⟩) L.length c7) (fun q => by (have h3 := HN3.out; rcases q with q | q; have := HGl.out _ q; omega; omega))).firm (by simp; omega) (fun k q => by (have h1 := HGl.out k q; have h2 := HBs.out.size; omega)))
    refine bodyPost_ret (results_cell_row2 rfl _ _ (w.heap.size + 1) _ _ _ _ rfl HR.out Try.underlying30 rfl (by kernel_rfl) rfl) rfl ?_
    exact ⟨_, _, 0, _, rfl, .inr ⟨j, hj, HpE.out, HPl.out, .inr ⟨HSj.out.symm, (by rw [← HPj.out]; exact HE0.out), (by rw [← HPj.out, if_pos HE0.out.symm, ← HZz.out.1])⟩⟩, HSs, fun k q => Or.imp id (fun q => by have := HN3.out; omega) q, HBs.out⟩

end Go.Proofs.Ytlcnfoljkcfplaa
