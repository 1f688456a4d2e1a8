/- The document's Double. -/
import Derived.Test.YtlcnfoljkcfplaaDsK
namespace Go.Proofs.Ytlcnfoljkcfplaa
open Go.RowKit Go.Shelf
set_option linter.unusedVariables false
set_option linter.unusedSimpArgs false

/-- What a Double tells, and what there is then. -/
def DbP (n : Nat) (L : List Sn) (f t i : Int) (c : Int) (L' : List Sn) : Prop := (peekE n L f t i ≠ 0 ∧ c = peekE n L f t i ∧ L' = L) ∨ ∃ (j : Nat) (hj : j < L.length), peekE n L f t i = 0 ∧ placeL L f t i = (j : Int) ∧ c = dsE n L f t L[j].p ∧ L' = if dsE n L f t L[j].p = 0 then L ++ [⟨f, t, L[j].p, L[j].sp⟩] else L
theorem cellB_lt {w : World} {p : Addr} {v : Value} (h : w.cell? p = some v) : p.block < w.heap.size := by
  rcases Nat.lt_or_ge p.block w.heap.size with h' | h'
  · exact h'
  · simp [World.cell?, h'] at h
theorem RowKit.cell_set_ne {W : World} {b g i k : Nat} {v u : Value} (h : W.cell? ⟨b, i, none⟩ = some v) (hne : b ≠ g) : (W.setCell ⟨g, k, none⟩ u).cell? ⟨b, i, none⟩ = some v := (World.cell?_of_block (w := W) (RowKit.Below.heap_setCell _ _ _ _ hne)).trans h
theorem OwnFl.glt {G : Nat → Prop} {N : Nat} {w : World} {g m c : Nat} {L : List Sn} (h : OwnFl G N w (.slice (some ⟨g, 0, none⟩) m c) L) : N ≤ g ∧ g < w.heap.size := by
  obtain ⟨E, g', cap, e, h1, _⟩ := h
  exact World.ownsRow.lt h1 g rfl
theorem OwnFl.last {G : Nat → Prop} {N : Nat} {w : World} {g c : Nat} {L : List Sn} {f t : Int} {p : List UInt8} (h : OwnFl G N w (.slice (some ⟨g, 0, none⟩) (L.length + 1) c) (L ++ [⟨f, t, p, false⟩])) (s : Bool) :
    w.cell? ⟨g, L.length * 4 + 3, none⟩ = some (.bool false) ∧ w.frozen? ⟨g, L.length * 4 + 3, none⟩ = false ∧ OwnFl G N (w.setCell ⟨g, L.length * 4 + 3, none⟩ (.bool s)) (.slice (some ⟨g, 0, none⟩) (L.length + 1) c) (L ++ [⟨f, t, p, s⟩]) ∧ N ≤ g ∧ g < w.heap.size := by
  have hgl := h.glt
  obtain ⟨E, g', cap, e, h1, h2, h3⟩ := h
  simp at e
  obtain ⟨rfl, rfl⟩ := e
  have hEl : E.length = L.length + 1 := by have := congrArg List.length h2; simpa using this
  obtain ⟨E0, y, rfl⟩ : ∃ E0 y, E = E0 ++ [y] := by
    rcases List.eq_nil_or_concat E with h9 | ⟨E0, y, h9⟩
    · rw [h9] at hEl; simp at hEl
    · exact ⟨E0, y, by rw [h9]; simp⟩
  have hE0 : E0.length = L.length := by simpa using hEl
  have h1' : w.ownsRow N 76 4 (.slice (some ⟨g, 0, none⟩) (L.length + 1) c) (L.length + 1) (flatS (E0 ++ [y])) := by have h9 := h1; unfold OwnS at h9; rw [hEl] at h9; exact h9
  rw [List.map_append] at h2
  obtain ⟨hm, hy⟩ := List.append_inj h2 (by simp [hE0])
  simp at hy
  obtain ⟨cur, hc⟩ := ownsRow_type h1 g rfl
  refine ⟨?_, frozen_of_row w g _ _ _ hc, ?_, hgl.1, hgl.2⟩
  · have h9 := World.ownsRow.cellAt h1' (L.length * 4 + 3) (by omega)
    rw [h9, flatS_snoc, List.getElem?_append_right (by rw [flatS_length, hE0]; omega), flatS_length, hE0, show L.length * 4 + 3 - L.length * 4 = 3 by omega, hy]
    rfl
  · obtain ⟨q1, q2⟩ := World.ownsRow.stored h1' (L.length * 4 + 3) (.bool s)
    refine ⟨E0 ++ [(⟨f, t, p, s⟩, y.2)], g, c, by simp, ?_, by rw [List.map_append, hm]; rfl, fun x hx => ?_⟩
    · unfold OwnS
      rw [show (E0 ++ [((⟨f, t, p, s⟩ : Sn), y.2)]).length = L.length + 1 by simp [hE0]]
      have e9 : flatS (E0 ++ [((⟨f, t, p, s⟩ : Sn), y.2)]) = (flatS (E0 ++ [y])).set (L.length * 4 + 3) (.bool s) := by
        rw [flatS_snoc, flatS_snoc, List.set_append_right _ _ (by rw [flatS_length, hE0]; omega), flatS_length, hE0, show L.length * 4 + 3 - L.length * 4 = 3 by omega, hy]
        rfl
      rw [e9]
      exact q1
    · have hk : ∀ k, ((G k ∨ (N ≤ k ∧ k < w.heap.size)) ∧ k ≠ g) → (w.setCell ⟨g, L.length * 4 + 3, none⟩ (.bool s)).heap[k]? = w.heap[k]? := fun k q => RowKit.Below.heap_setCell _ _ _ _ q.2
      have hz : (w.setCell ⟨g, L.length * 4 + 3, none⟩ (.bool s)).heap.size = w.heap.size := by simp [World.setCell]
      rw [hz]
      rcases List.mem_append.1 hx with hx | hx
      · exact (h3 x (List.mem_append_left _ hx)).keep hk
      · simp at hx
        subst hx
        have h9 := h3 y (by simp)
        rw [hy] at h9
        exact h9.keep hk

set_option maxRecDepth 100000 in
set_option maxHeartbeats 8000000 in
theorem refDouble_any (G : Nat → Prop) (n : Nat) (v : Value) (L : List Sn) (f t i : Int) (w : World) (h : SFirm G w v L) (hl : L.length ≤ 4000) :
    Calls Try.prog 20 #[.agg #[.int .i64 (n : Int), v], .int .i64 f, .int .i64 t, .int .i64 i] w fun e w' => ∃ v' L' c G', e = .returned (.tuple #[.agg #[.int .i64 (n : Int), v'], .int .i64 c]) ∧ DbP n L f t i c L' ∧ SFirm G' w' v' L' ∧ (∀ k, G' k → G k ∨ w.heap.size ≤ k) ∧ Below w.heap.size w w' := by
  have HGl : Hid (∀ k, G k → k < w.heap.size) := h.1
  obtain ⟨a1, c1, e1⟩ := h.isS.form
  subst e1
  obtain ⟨W0, eW⟩ : ∃ X, X = (w.alloc (.cells #[.int .i64 (n : Int), .slice a1 L.length c1] 30)).alloc (.cells #[.int .i64 0, .slice none 0 0] 30) := ⟨_, rfl⟩
  have hb : Below w.heap.size w W0 := by rw [eW]; exact ((Below.refl _ _).alloc (Nat.le_refl _) _).alloc (by simp) _
  have HS : Hid (SFirm G W0 (.slice a1 L.length c1) L) := h.below hb
  have HX : Hid (W0.heap[w.heap.size]? = some (.cells #[.int .i64 (n : Int), .slice a1 L.length c1] 30)) := by rw [eW]; exact (Below.heap_alloc _ _ _ (by simp)).trans (heap_alloc_new w _)
  have HZ : Hid (W0.heap[(w.heap.size + 1)]? = some (.cells #[.int .i64 0, .slice none 0 0] 30)) := by
    rw [eW]
    have h0 := heap_alloc_new (w.alloc (.cells #[.int .i64 (n : Int), .slice a1 L.length c1] 30)) (.cells #[.int .i64 0, .slice none 0 0] 30)
    rw [show (w.alloc (.cells #[.int .i64 (n : Int), .slice a1 L.length c1] 30)).heap.size = w.heap.size + 1 by simp] at h0
    exact h0
  have HB : Hid (Below w.heap.size w W0) := hb
  have HS0 : Hid (SFirm G w (.slice a1 L.length c1) L) := h
  have x_0 : W0.cell? ⟨w.heap.size, 0, none⟩ = some (.int .i64 (n : Int)) := (by rw [cell_of_row _ _ _ _ _ _ HX.out]; rfl)
  have x_1 : W0.cell? ⟨w.heap.size, 1, none⟩ = some (.slice a1 L.length c1) := (by rw [cell_of_row _ _ _ _ _ _ HX.out]; rfl)
  rw [eW] at x_0 x_1
  have HsW : Hid (W0.heap.size = w.heap.size + 2) := (by rw [eW]; show _ = _; simp)
  clear hb h
  go_enter Try.func20, Try.ntmps20
  go_wp2_with fail
  rw [← eW]
  clear eW x_0 x_1
  refine (refPeek_any G n _ L f t i _ HS.out).mono ?_
  rintro e w1 ⟨pv, rfl, hpk, hb⟩
  have HPk : Hid (PeekP G n L f t i w1 pv) := hpk
  clear hpk
  have HW1 : Hid (w.heap.size + 2 ≤ w1.heap.size) := (by show _ ≤ _; rw [← HsW.out]; exact hb.size)
  replace HS : Hid (SFirm G w1 (.slice a1 L.length c1) L) := HS.out.below hb
  replace HX : Hid (w1.heap[w.heap.size]? = some (.cells #[.int .i64 (n : Int), .slice a1 L.length c1] 30)) := (hb.block _ (row_lt HX.out)).trans HX.out
  replace HZ : Hid (w1.heap[(w.heap.size + 1)]? = some (.cells #[.int .i64 0, .slice none 0 0] 30)) := (hb.block _ (row_lt HZ.out)).trans HZ.out
  replace HB : Hid (Below w.heap.size w w1) := HB.out.trans (hb.mono HB.out.size)
  clear hb
  by_cases hpe : peekE n L f t i = 0
  rotate_left
  · have g1 : (peekE n L f t i == 0) = false := by simp [hpe]
    obtain rfl : pv = .slice none 0 0 := HPk.out.1 hpe
    have HNz : Hid (peekE n L f t i ≠ 0) := hpe
    clear hpe
    obtain ⟨le, ele⟩ : ∃ x, x = peekE n L f t i := ⟨_, rfl⟩
    rw [← ele] at g1 ⊢
    have HpE : Hid (le = peekE n L f t i) := ele
    clear ele
    have x_0 : w1.cell? ⟨w.heap.size, 0, none⟩ = some (.int .i64 (n : Int)) := (by rw [cell_of_row _ _ _ _ _ _ HX.out]; rfl)
    have x_1 : w1.cell? ⟨w.heap.size, 1, none⟩ = some (.slice a1 L.length c1) := (by rw [cell_of_row _ _ _ _ _ _ HX.out]; rfl)
    obtain ⟨z_0, z_1, z_2, z_3⟩ := row2_cells HZ.out
    go_wp2
    (try simp only [Exit.inBlock, Exit.then])
    have HR : Hid (((w1.setCell ⟨w.heap.size + 1, 0, none⟩ (.int .i64 (n : Int))).setCell ⟨w.heap.size + 1, 1, none⟩ (.slice a1 L.length c1)).heap[w.heap.size + 1]? = some (.cells #[.int .i64 (n : Int), .slice a1 L.length c1] 30)) := row_set2 HZ.out
    have HBs : Hid (Below w.heap.size w ((w1.setCell ⟨w.heap.size + 1, 0, none⟩ (.int .i64 (n : Int))).setCell ⟨w.heap.size + 1, 1, none⟩ (.slice a1 L.length c1))) := (HB.out.setCell (p := ⟨w.heap.size + 1, 0, none⟩) (by show w.heap.size ≤ w.heap.size + 1; omega) _).setCell (p := ⟨w.heap.size + 1, 1, none⟩) (by show w.heap.size ≤ w.heap.size + 1; omega) _
    have HSs : Hid (SFirm G ((w1.setCell ⟨w.heap.size + 1, 0, none⟩ (.int .i64 (n : Int))).setCell ⟨w.heap.size + 1, 1, none⟩ (.slice a1 L.length c1)) (.slice a1 L.length c1) L) := HS0.out.keep HBs.out.size (fun k q => HBs.out.block k (HGl.out k q))
    refine bodyPost_ret (results_cell_row2 rfl _ _ (w.heap.size + 1) _ _ _ _ rfl HR.out Try.underlying30 rfl (by kernel_rfl) rfl) rfl ?_
    exact ⟨_, L, le, G, rfl, .inl ⟨HNz.out, HpE.out, rfl⟩, HSs.out, fun k q => .inl q, HBs.out⟩
  have HpE : Hid (peekE n L f t i = 0) := hpe
  rw [hpe]
  clear hpe
  obtain ⟨j, hj, hpl⟩ : ∃ j : Nat, j < L.length ∧ placeL L f t i = (j : Int) := place_of HpE.out
  have HPl : Hid (placeL L f t i = (j : Int)) := hpl
  have hpb : IsBG G w1 pv L[j].p := HPk.out.2 j hj HpE.out hpl
  obtain ⟨p, ep⟩ : ∃ p, p = L[j].p := ⟨_, rfl⟩
  obtain ⟨sj, es⟩ : ∃ s, s = L[j].sp := ⟨_, rfl⟩
  rw [← ep] at hpb
  have HPj : Hid (p = L[j].p) := ep
  have HSj : Hid (sj = L[j].sp) := es
  obtain ⟨ap, cp, eap, _⟩ := id hpb
  subst eap
  have HPv : Hid (IsB w1 (.slice ap p.length cp) p) := hpb.isB
  clear ep es hpb hpl HPk
  have x_0 : w1.cell? ⟨w.heap.size, 0, none⟩ = some (.int .i64 (n : Int)) := (by rw [cell_of_row _ _ _ _ _ _ HX.out]; rfl)
  have x_1 : w1.cell? ⟨w.heap.size, 1, none⟩ = some (.slice a1 L.length c1) := (by rw [cell_of_row _ _ _ _ _ _ HX.out]; rfl)
  go_wp2_with fail
  clear x_0 x_1
  refine (refSend_any G n _ L f t _ p _ HS.out hl HPv.out).mono ?_
  rintro e w2 ⟨v2, G2, rfl, hS2, hO2, hG2, hb⟩
  have HW2 : Hid (w.heap.size + 2 ≤ w2.heap.size) := Nat.le_trans HW1.out hb.size
  replace HS : Hid (SFirm G w2 (.slice a1 L.length c1) L) := HS.out.below hb
  replace HX : Hid (w2.heap[w.heap.size]? = some (.cells #[.int .i64 (n : Int), .slice a1 L.length c1] 30)) := (hb.block _ (row_lt HX.out)).trans HX.out
  replace HZ : Hid (w2.heap[(w.heap.size + 1)]? = some (.cells #[.int .i64 0, .slice none 0 0] 30)) := (hb.block _ (row_lt HZ.out)).trans HZ.out
  replace HB : Hid (Below w.heap.size w w2) := HB.out.trans (hb.mono HB.out.size)
  clear hb
  obtain ⟨ce, ece⟩ : ∃ c, c = dsE n L f t p := ⟨_, rfl⟩
  have HcD : Hid (ce = dsE n L f t p) := ece
  by_cases hce : dsE n L f t p = 0
  rotate_left
  · obtain ⟨a2, c2, e2⟩ := hS2.isS.form
    subst e2
    have HdL : Hid (dsL n L f t p = L) := by (show _ = _; unfold dsL; rw [if_neg hce])
    rw [HdL.out]
    have g1 : (ce == 0) = false := by rw [ece]; simp [hce]
    have HNz : Hid (dsE n L f t p ≠ 0) := hce
    rw [← ece]
    clear hce hO2 hG2 hS2 ece
    obtain ⟨w3, ew3⟩ : ∃ X, X = w2.alloc (.cells #[.int .i64 (n : Int), .slice a2 L.length c2] 30) := ⟨_, rfl⟩
    have hb : Below w2.heap.size w2 w3 := by rw [ew3]; exact (Below.refl _ _).alloc (Nat.le_refl _) _
    replace HS : Hid (SFirm G w3 (.slice a1 L.length c1) L) := HS.out.below hb
    replace HX : Hid (w3.heap[w.heap.size]? = some (.cells #[.int .i64 (n : Int), .slice a1 L.length c1] 30)) := (hb.block _ (row_lt HX.out)).trans HX.out
    replace HZ : Hid (w3.heap[(w.heap.size + 1)]? = some (.cells #[.int .i64 0, .slice none 0 0] 30)) := (hb.block _ (row_lt HZ.out)).trans HZ.out
    replace HB : Hid (Below w.heap.size w w3) := HB.out.trans (hb.mono HB.out.size)
    clear hb
    have x_0 : w3.cell? ⟨w.heap.size, 0, none⟩ = some (.int .i64 (n : Int)) := (by rw [cell_of_row _ _ _ _ _ _ HX.out]; rfl)
    have x_1 : w3.cell? ⟨w.heap.size, 1, none⟩ = some (.slice a1 L.length c1) := (by rw [cell_of_row _ _ _ _ _ _ HX.out]; rfl)
    obtain ⟨z_0, z_1, z_2, z_3⟩ := row2_cells HZ.out
    rw [ew3] at x_0 x_1 z_0 z_1 z_2 z_3
    go_wp2
    rw [← ew3]
    (try simp only [Exit.inBlock, Exit.then])
    have HR : Hid (((w3.setCell ⟨w.heap.size + 1, 0, none⟩ (.int .i64 (n : Int))).setCell ⟨w.heap.size + 1, 1, none⟩ (.slice a1 L.length c1)).heap[w.heap.size + 1]? = some (.cells #[.int .i64 (n : Int), .slice a1 L.length c1] 30)) := row_set2 HZ.out
    have HBs : Hid (Below w.heap.size w ((w3.setCell ⟨w.heap.size + 1, 0, none⟩ (.int .i64 (n : Int))).setCell ⟨w.heap.size + 1, 1, none⟩ (.slice a1 L.length c1))) := (HB.out.setCell (p := ⟨w.heap.size + 1, 0, none⟩) (by show w.heap.size ≤ w.heap.size + 1; omega) _).setCell (p := ⟨w.heap.size + 1, 1, none⟩) (by show w.heap.size ≤ w.heap.size + 1; omega) _
    have HSs : Hid (SFirm G ((w3.setCell ⟨w.heap.size + 1, 0, none⟩ (.int .i64 (n : Int))).setCell ⟨w.heap.size + 1, 1, none⟩ (.slice a1 L.length c1)) (.slice a1 L.length c1) L) := HS0.out.keep HBs.out.size (fun k q => HBs.out.block k (HGl.out k q))
    refine bodyPost_ret (results_cell_row2 rfl _ _ (w.heap.size + 1) _ _ _ _ rfl HR.out Try.underlying30 rfl (by kernel_rfl) rfl) rfl ?_
    exact ⟨_, L, ce, G, rfl, .inr ⟨j, hj, HpE.out, HPl.out, (by rw [← HPj.out]; exact HcD.out), (by rw [← HPj.out, if_neg HNz.out])⟩, HSs.out, fun k q => .inl q, HBs.out⟩
  have HcE : Hid (dsE n L f t p = 0) := hce
  obtain ⟨N2, hN2, hOw⟩ := hO2 hce
  have HdL : Hid (dsL n L f t p = L ++ [⟨f, t, p, false⟩]) := by (show _ = _; unfold dsL; rw [if_pos hce])
  rw [HdL.out] at hOw
  obtain ⟨E2, g2, c2, e2, _⟩ := id hOw
  rw [List.length_append, List.length_singleton] at e2
  subst e2
  rw [hce]
  clear hO2 hG2 hS2 hce ece
  obtain ⟨w3, ew3⟩ : ∃ X, X = w2.alloc (.cells #[.int .i64 (n : Int), .slice (some ⟨g2, 0, none⟩) (L.length + 1) c2] 30) := ⟨_, rfl⟩
  have hb : Below w2.heap.size w2 w3 := by rw [ew3]; exact (Below.refl _ _).alloc (Nat.le_refl _) _
  obtain ⟨yb, eyb⟩ : ∃ x, x = w2.heap.size := ⟨_, rfl⟩
  have HY : Hid (w3.heap[yb]? = some (.cells #[.int .i64 (n : Int), .slice (some ⟨g2, 0, none⟩) (L.length + 1) c2] 30)) := (by rw [ew3, eyb]; exact heap_alloc_new _ _)
  have HN2 : Hid (w.heap.size + 1 < g2 ∧ w.heap.size + 1 < N2) := (by have h1 := hOw.glt; have h2 := HW1.out; show _ ∧ _; omega)
  have HYb : Hid (g2 < yb) := (by rw [eyb]; exact hOw.glt.2)
  have HO : Hid (OwnFl G N2 w3 (.slice (some ⟨g2, 0, none⟩) (L.length + 1) c2) (L ++ [⟨f, t, p, false⟩])) := hOw.keep hb.size (fun k q => hb.block k (q.elim (fun q => by have h1 := HGl.out k q; have := HW2.out; omega) (fun q => q.2)))
  replace HS : Hid (SFirm G w3 (.slice a1 L.length c1) L) := HS.out.below hb
  replace HX : Hid (w3.heap[w.heap.size]? = some (.cells #[.int .i64 (n : Int), .slice a1 L.length c1] 30)) := (hb.block _ (row_lt HX.out)).trans HX.out
  replace HZ : Hid (w3.heap[(w.heap.size + 1)]? = some (.cells #[.int .i64 0, .slice none 0 0] 30)) := (hb.block _ (row_lt HZ.out)).trans HZ.out
  replace HB : Hid (Below w.heap.size w w3) := HB.out.trans (hb.mono HB.out.size)
  clear hb
  clear hOw hN2
  obtain ⟨b, o, cap, E, ev, hcap, hGb, hEm, hEd, hc⟩ := HS.out.row (by intro e; rw [e] at hj; simp at hj)
  injection ev with ev1 ev2 ev3
  subst ev1
  subst ev3
  clear ev2
  have HGb : Hid (G b) := hGb
  have HSc : Hid (w3.cell? ⟨b, o + j * 4 + 3, none⟩ = some (.bool sj)) := (by have hjE : j < E.length := (by have := congrArg List.length hEm; simp at this; omega); have h9 := flatS_get E j hjE 3 (.bool E[j].1.sp) rfl; have h8 := hc _ _ h9; have h7 : E[j].1 = L[j] := (by have h6 := congrArg (fun l => l[j]?) hEm; simp [hjE, hj] at h6; exact h6); rw [h7, ← HSj.out] at h8; rw [Nat.add_assoc]; exact h8)
  have HSr : Hid (SFirm G w3 (.slice (some ⟨b, o, none⟩) L.length c1) L) := HS.out
  clear hcap hGb hEm hEd hc HS HS0 HPv
  have j1 : (j : Int) < (L.length : Int) := by omega
  have j0 : (0 : Int) ≤ (j : Int) := by omega
  have n5 : IntKind.i64.wrap ((L.length : Int) + 1 - 1) = (L.length : Int) := by rw [IntKind.wrap_i64]; omega
  have n6 : IntKind.i64.wrap (L.length : Int) = (L.length : Int) := by rw [IntKind.wrap_i64]; omega
  have n7 : (L.length : Int) < (L.length : Int) + 1 := by omega
  have n8 : (0 : Int) ≤ (L.length : Int) := by omega
  go_upto_region 7 with fail
  rw [← ew3, ← eyb]
  clear ew3 eyb
  refine wp_region_held_drew (S := fun W' => W'.heap[w.heap.size]? = some (.cells #[.int .i64 (n : Int), .slice (some ⟨b, o, none⟩) L.length c1] 30) ∧ W'.heap[yb]? = some (.cells #[.int .i64 (n : Int), .slice (some ⟨g2, 0, none⟩) (L.length + 1) c2] 30) ∧ W'.cell? ⟨b, o + j * 4 + 3, none⟩ = some (.bool sj)) (by kernel_rfl) ⟨HX.out, HY.out, HSc.out⟩ (fun hHeld => ?_)
  obtain ⟨Uu4u0, eW⟩ : ∃ X, X = w3.drew := ⟨_, rfl⟩
  have hb : Below w3.heap.size w3 Uu4u0 := by rw [eW]; exact (Below.refl _ _).drew
  replace HO : Hid (OwnFl G N2 Uu4u0 (.slice (some ⟨g2, 0, none⟩) (L.length + 1) c2) (L ++ [⟨f, t, p, false⟩])) := HO.out.keep hb.size (fun k q => hb.block k (q.elim (fun q => by have h1 := HGl.out k q; have h2 := HB.out.size; omega) (fun q => q.2)))
  replace HZ : Hid (Uu4u0.heap[(w.heap.size + 1)]? = some (.cells #[.int .i64 0, .slice none 0 0] 30)) := (hb.block _ (row_lt HZ.out)).trans HZ.out
  replace HB : Hid (Below w.heap.size w Uu4u0) := HB.out.trans (hb.mono HB.out.size)
  replace HX : Hid (Uu4u0.heap[w.heap.size]? = some (.cells #[.int .i64 (n : Int), .slice (some ⟨b, o, none⟩) L.length c1] 30)) := (hb.block _ (row_lt HX.out)).trans HX.out
  replace HY : Hid (Uu4u0.heap[yb]? = some (.cells #[.int .i64 (n : Int), .slice (some ⟨g2, 0, none⟩) (L.length + 1) c2] 30)) := (hb.block _ (row_lt HY.out)).trans HY.out
  replace HSr : Hid (SFirm G Uu4u0 (.slice (some ⟨b, o, none⟩) L.length c1) L) := HSr.out.below hb
  rw [← eW] at hHeld ⊢
  clear eW hb
  refine tkW 0 (some 38) (v := ?_) ?_ hHeld ?_
  rotate_left
  · (intro w _; go_simp; try with_reducible rfl)
  refine tkW 1 (some 39) (v := ?_) ?_ hHeld ?_
  rotate_left
  · (intro w hSw; (try dsimp only at hSw); obtain ⟨hx, hy, hs⟩ := hSw; obtain ⟨k_0, k_1, _, _⟩ := row2_cells hx; obtain ⟨y_0, y_1, _, _⟩ := row2_cells hy; go_simp; try with_reducible rfl)
  refine tkW 2 (some 40) (v := ?_) ?_ hHeld ?_
  rotate_left
  · (intro w _; go_simp; try with_reducible rfl)
  refine tkW 3 (some 41) (v := ?_) ?_ hHeld ?_
  rotate_left
  · (intro w hSw; (try dsimp only at hSw); obtain ⟨hx, hy, hs⟩ := hSw; obtain ⟨k_0, k_1, _, _⟩ := row2_cells hx; obtain ⟨y_0, y_1, _, _⟩ := row2_cells hy; go_simp; try with_reducible rfl)
  refine tkW 4 (some 42) (v := ?_) ?_ hHeld ?_
  rotate_left
  · (intro w hSw; (try dsimp only at hSw); obtain ⟨hx, hy, hs⟩ := hSw; obtain ⟨k_0, k_1, _, _⟩ := row2_cells hx; obtain ⟨y_0, y_1, _, _⟩ := row2_cells hy; go_simp; try with_reducible rfl)
  refine tkW 5 (some 43) (v := .int .i64 (L.length : Int)) ?_ hHeld ?_
  · (intro w hSw; (try dsimp only at hSw); obtain ⟨hx, hy, hs⟩ := hSw; obtain ⟨k_0, k_1, _, _⟩ := row2_cells hx; obtain ⟨y_0, y_1, _, _⟩ := row2_cells hy; go_simp; try with_reducible rfl)
  refine tkW 6 (some 44) (v := ?_) ?_ hHeld ?_
  rotate_left
  · (intro w _; go_simp; try with_reducible rfl)
  refine tkW 7 (some 45) (v := ?_) ?_ hHeld ?_
  rotate_left
  · (intro w hSw; (try dsimp only at hSw); obtain ⟨hx, hy, hs⟩ := hSw; obtain ⟨k_0, k_1, _, _⟩ := row2_cells hx; obtain ⟨y_0, y_1, _, _⟩ := row2_cells hy; go_simp; try with_reducible rfl)
  refine tkW 8 (some 46) (v := ?_) ?_ hHeld ?_
  rotate_left
  · (intro w hSw; (try dsimp only at hSw); obtain ⟨hx, hy, hs⟩ := hSw; obtain ⟨k_0, k_1, _, _⟩ := row2_cells hx; obtain ⟨y_0, y_1, _, _⟩ := row2_cells hy; go_simp; try with_reducible rfl)
  refine tkW 9 (some 47) (v := ?_) ?_ hHeld ?_
  rotate_left
  · (intro w _; go_simp; try with_reducible rfl)
  refine tkW 10 (some 48) (v := ?_) ?_ hHeld ?_
  rotate_left
  · (intro w _; go_simp; try with_reducible rfl)
  refine tkW 11 (some 49) (v := ?_) ?_ hHeld ?_
  rotate_left
  · (intro w _; go_simp; try with_reducible rfl)
  refine wpAnyH_ready (rs := [12]) (by kernel_rfl) (by simp) ?_
  refine AllReadyH.cons (o := ⟨some 50, _, _, _, _, _⟩) rfl (fun K hK => ?_) AllReadyH.nil
  go_simp
  refine (refPlace_any (n : Int) _ L f t i _ HSr.out.isS).mono ?_
  rintro e Uu4u1 ⟨rfl, hb⟩
  rw [HPl.out]
  (try go_wp2_with fail)
  refine hK.out _ _ (⟨(hb.block _ (row_lt hHeld.1)).trans hHeld.1, (hb.block _ (row_lt hHeld.2.1)).trans hHeld.2.1, (hb.cell (p := ⟨b, _, none⟩) (cellB_lt hHeld.2.2)).trans hHeld.2.2⟩) (fun hHeld2 => ?_)
  clear hK K hHeld
  have hHeld := hHeld2
  clear hHeld2
  (try simp only [Act.put, List.setIfInBounds_toArray, List.set_cons_zero, List.set_cons_succ])
  replace HO : Hid (OwnFl G N2 Uu4u1 (.slice (some ⟨g2, 0, none⟩) (L.length + 1) c2) (L ++ [⟨f, t, p, false⟩])) := HO.out.keep hb.size (fun k q => hb.block k (q.elim (fun q => by have h1 := HGl.out k q; have h2 := HB.out.size; omega) (fun q => q.2)))
  replace HZ : Hid (Uu4u1.heap[(w.heap.size + 1)]? = some (.cells #[.int .i64 0, .slice none 0 0] 30)) := (hb.block _ (row_lt HZ.out)).trans HZ.out
  replace HB : Hid (Below w.heap.size w Uu4u1) := HB.out.trans (hb.mono HB.out.size)
  replace HX : Hid (Uu4u1.heap[w.heap.size]? = some (.cells #[.int .i64 (n : Int), .slice (some ⟨b, o, none⟩) L.length c1] 30)) := (hb.block _ (row_lt HX.out)).trans HX.out
  replace HY : Hid (Uu4u1.heap[yb]? = some (.cells #[.int .i64 (n : Int), .slice (some ⟨g2, 0, none⟩) (L.length + 1) c2] 30)) := (hb.block _ (row_lt HY.out)).trans HY.out
  replace HSr : Hid (SFirm G Uu4u1 (.slice (some ⟨b, o, none⟩) L.length c1) L) := HSr.out.below hb
  clear hb
  refine tkW 13 (some 51) (v := ?_) ?_ hHeld ?_
  rotate_left
  · (intro w hSw; (try dsimp only at hSw); obtain ⟨hx, hy, hs⟩ := hSw; obtain ⟨k_0, k_1, _, _⟩ := row2_cells hx; obtain ⟨y_0, y_1, _, _⟩ := row2_cells hy; go_simp; try with_reducible rfl)
  refine tkW 14 (some 52) (v := ?_) ?_ hHeld ?_
  rotate_left
  · (intro w _; go_simp; try with_reducible rfl)
  refine tkW 15 (some 53) (v := ?_) ?_ hHeld ?_
  rotate_left
  · (intro w hSw; (try dsimp only at hSw); obtain ⟨hx, hy, hs⟩ := hSw; obtain ⟨k_0, k_1, _, _⟩ := row2_cells hx; obtain ⟨y_0, y_1, _, _⟩ := row2_cells hy; go_simp; try with_reducible rfl)
  refine tkW 16 (some 54) (v := ?_) ?_ hHeld ?_
  rotate_left
  · (intro w hSw; (try dsimp only at hSw); obtain ⟨hx, hy, hs⟩ := hSw; obtain ⟨k_0, k_1, _, _⟩ := row2_cells hx; obtain ⟨y_0, y_1, _, _⟩ := row2_cells hy; go_simp; try with_reducible rfl)
  refine tkW 17 (some 55) (v := ?_) ?_ hHeld ?_
  rotate_left
  · (intro w _; go_simp; try with_reducible rfl)
  refine wpAnyH_ready (rs := [18]) (by kernel_rfl) (by simp) ?_
  refine AllReadyH.cons (o := ⟨none, _, _, _, _, _⟩) rfl (fun K hK => ?_) AllReadyH.nil
  obtain ⟨y1, y2, y3, y4, y5⟩ := HO.out.last sj
  go_simp
  refine hK.out _ _ (⟨row_set_other hHeld.1 (by have := HN2.out; omega), row_set_other hHeld.2.1 (by have h1 := HO.out.glt; have := HYb.out; omega), (RowKit.cell_set_ne hHeld.2.2 (by have h1 := HGl.out b HGb.out; have := HN2.out; omega))⟩) (fun hHeld2 => ?_)
  clear hK K hHeld
  have hHeld := hHeld2
  clear hHeld2
  (try simp only [Act.put, List.setIfInBounds_toArray, List.set_cons_zero, List.set_cons_succ])
  obtain ⟨Uu4u2, eWn⟩ : ∃ X, X = Uu4u1.setCell ⟨g2, L.length * 4 + 3, none⟩ (.bool sj) := ⟨_, rfl⟩
  rw [← eWn] at hHeld ⊢
  have HOn : Hid (OwnFl G N2 Uu4u2 (.slice (some ⟨g2, 0, none⟩) (L.length + 1) c2) (L ++ [⟨f, t, p, sj⟩])) := (by rw [eWn]; exact y3)
  replace HZ : Hid (Uu4u2.heap[(w.heap.size + 1)]? = some (.cells #[.int .i64 0, .slice none 0 0] 30)) := (by rw [eWn]; exact row_set_other HZ.out (by have := HN2.out; omega))
  replace HY : Hid (Uu4u2.heap[yb]? = some (.cells #[.int .i64 (n : Int), .slice (some ⟨g2, 0, none⟩) (L.length + 1) c2] 30)) := hHeld.2.1
  replace HB : Hid (Below w.heap.size w Uu4u2) := (by rw [eWn]; exact HB.out.setCell (p := ⟨g2, L.length * 4 + 3, none⟩) (by show w.heap.size ≤ g2; have := HN2.out; omega) _)
  clear y1 y2 y3 y4 y5 HO eWn
  refine wpAnyH_done (by kernel_rfl) ?_ _
  clear hHeld
  obtain ⟨k_0, k_1, _, _⟩ := row2_cells HY.out
  obtain ⟨z_0, z_1, z_2, z_3⟩ := row2_cells HZ.out
  go_wp2
  (try simp only [Exit.inBlock, Exit.then])
  have HR : Hid (((Uu4u2.setCell ⟨w.heap.size + 1, 0, none⟩ (.int .i64 (n : Int))).setCell ⟨w.heap.size + 1, 1, none⟩ (.slice (some ⟨g2, 0, none⟩) (L.length + 1) c2)).heap[w.heap.size + 1]? = some (.cells #[.int .i64 (n : Int), .slice (some ⟨g2, 0, none⟩) (L.length + 1) c2] 30)) := row_set2 HZ.out
  have HBs : Hid (Below w.heap.size w ((Uu4u2.setCell ⟨w.heap.size + 1, 0, none⟩ (.int .i64 (n : Int))).setCell ⟨w.heap.size + 1, 1, none⟩ (.slice (some ⟨g2, 0, none⟩) (L.length + 1) c2))) := (HB.out.setCell (p := ⟨w.heap.size + 1, 0, none⟩) (by show w.heap.size ≤ w.heap.size + 1; omega) _).setCell (p := ⟨w.heap.size + 1, 1, none⟩) (by show w.heap.size ≤ w.heap.size + 1; omega) _
  have HSs := ((HOn.out.set2 (b := w.heap.size + 1) (v0 := .int .i64 (n : Int)) (v1 := .slice (some ⟨g2, 0, none⟩) (L.length + 1) c2) (fun q => by (have h3 := HN2.out; rcases q with q | q; have := HGl.out _ q; omega; omega))).firm (by simp; omega) (fun k q => by (have h1 := HGl.out k q; have h2 := HBs.out.size; omega)))
  refine bodyPost_ret (results_cell_row2 rfl _ _ (w.heap.size + 1) _ _ _ _ rfl HR.out Try.underlying30 rfl (by kernel_rfl) rfl) rfl ?_
  exact ⟨_, _, _, _, rfl, .inr ⟨j, hj, HpE.out, HPl.out, (by rw [← HPj.out, HcE.out]), (by rw [← HPj.out, if_pos HcE.out, ← HSj.out])⟩, HSs, fun k q => Or.imp id (fun q => by have := HN2.out; omega) q, HBs.out⟩

end Go.Proofs.Ytlcnfoljkcfplaa
