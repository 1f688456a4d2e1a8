/- Clone. -/
import Derived.Test.YtfgkdbidgbpobaaRdX
namespace Go.Proofs.Ytfgkdbidgbpobaa
open Go.RowKit
set_option linter.unusedVariables false
set_option linter.unusedSimpArgs false

theorem nodup_apart {Q1 Q2 : List (St × Value)} {x : St × Value} (h : ((Q1 ++ x :: Q2).map Prod.fst).Nodup) : ∀ y ∈ Q1 ++ Q2, y.1 ≠ x.1 := by
  intro y hy e
  rw [List.map_append, List.map_cons, List.nodup_append] at h
  obtain ⟨_, h2, h3⟩ := h
  rcases List.mem_append.1 hy with h4 | h4
  · exact h3 y.1 (List.mem_map.2 ⟨y, h4, rfl⟩) x.1 (by simp) e
  · exact (List.nodup_cons.1 h2).1 (by rw [← e]; exact List.mem_map.2 ⟨y, h4, rfl⟩)

set_option maxRecDepth 100000 in
set_option maxHeartbeats 8000000 in
theorem clone_any (F : Nat → Prop) (rb : Nat) (L : List Sl) (w : World) (h : RowOk F w rb L) :
    Calls Try.prog 7 #[.pointer (some ⟨rb, 0, none⟩)] w fun e w' => ∃ rb2 F2, e = .returned (.pointer (some ⟨rb2, 0, none⟩)) ∧ RowOk F2 w' rb2 L ∧ (∀ k, F2 k → w.heap.size ≤ k) ∧ Below w.heap.size w w' := by
  obtain ⟨ma, mb, fv, E, h, hl⟩ := h
  obtain ⟨av, cv, ev⟩ := h.own.form
  subst ev
  have HFl : Hid (∀ k, F k → k < w.heap.size) := h.lt
  have HSrc : Hid (RowIs F w rb L (behZ L) (frL L) ma mb (.slice av (frL L).length cv) E) := h
  have HB : Hid (Below w.heap.size w w) := Below.refl _ _
  clear h
  go_enter Try.func7, Try.ntmps7
  go_wp2_with fail
  refine wp_region_held_drew (S := fun W' => RowIs F W' rb L (behZ L) (frL L) ma mb (.slice av (frL L).length cv) E) (by kernel_rfl) (HSrc.out.below (Below.refl _ _).drew) (fun hHeld => ?_)
  obtain ⟨Uc11u0, eW⟩ : ∃ X, X = w.drew := ⟨_, rfl⟩
  have hb : Below w.heap.size w Uc11u0 := by rw [eW]; exact (Below.refl _ _).drew
  replace HB : Hid (Below w.heap.size w Uc11u0) := HB.out.trans (hb.mono HB.out.size)
  replace HSrc : Hid (RowIs F Uc11u0 rb L (behZ L) (frL L) ma mb (.slice av (frL L).length cv) E) := HSrc.out.below hb
  rw [← eW] at hHeld ⊢
  clear eW hb
  refine tkW 0 (some 8) (v := ?_) ?_ hHeld ?_
  rotate_left
  · (intro ww _; go_simp; try with_reducible rfl)
  refine tkW 1 (some 9) (v := ?_) ?_ hHeld ?_
  rotate_left
  · (intro ww hSw; (try dsimp only at hSw); go_simp; try with_reducible rfl)
  refine tkW 2 (some 10) (v := ?_) ?_ hHeld ?_
  rotate_left
  · (intro ww _; go_simp; try with_reducible rfl)
  refine tkW 3 (some 11) (v := ?_) ?_ hHeld ?_
  rotate_left
  · (intro ww hSw; (try dsimp only at hSw); have c0 := hSw.c0; go_simp; try with_reducible rfl)
  refine tkW 5 (some 13) (v := ?_) ?_ hHeld ?_
  rotate_left
  · (intro ww _; go_simp; try with_reducible rfl)
  refine tkW 6 (some 14) (v := ?_) ?_ hHeld ?_
  rotate_left
  · (intro ww hSw; (try dsimp only at hSw); go_simp; try with_reducible rfl)
  refine tkW 7 (some 15) (v := ?_) ?_ hHeld ?_
  rotate_left
  · (intro ww _; go_simp; try with_reducible rfl)
  refine tkW 8 (some 16) (v := ?_) ?_ hHeld ?_
  rotate_left
  · (intro ww hSw; (try dsimp only at hSw); have c1 := hSw.c1; go_simp; try with_reducible rfl)
  refine tkW 11 (some 19) (v := ?_) ?_ hHeld ?_
  rotate_left
  · (intro ww _; go_simp; try with_reducible rfl)
  refine tkW 12 (some 20) (v := ?_) ?_ hHeld ?_
  rotate_left
  · (intro ww hSw; (try dsimp only at hSw); go_simp; try with_reducible rfl)
  refine tkW 13 (some 21) (v := ?_) ?_ hHeld ?_
  rotate_left
  · (intro ww _; go_simp; try with_reducible rfl)
  refine tkW 14 (some 22) (v := ?_) ?_ hHeld ?_
  rotate_left
  · (intro ww hSw; (try dsimp only at hSw); have c2 := hSw.c2; go_simp; try with_reducible rfl)
  refine wpAnyH_ready (rs := [4]) (by kernel_rfl) (by simp) ?_
  refine AllReadyH.cons (o := ⟨some 12, _, _, _, _, _⟩) rfl (fun K hK => ?_) AllReadyH.nil
  obtain ⟨es, cl, hes, hcut⟩ := hHeld.am.cut
  go_simp
  refine (cloneA ma es cl _ hes).mono ?_
  rintro e Uc11u1 ⟨rfl, eWv⟩
  obtain ⟨ma2, emh⟩ : ∃ b, b = Uc11u0.heap.size := ⟨_, rfl⟩
  have hb : Below Uc11u0.heap.size Uc11u0 Uc11u1 := by rw [eWv]; exact (Below.refl _ _).alloc (Nat.le_refl _) _
  have HM2 : Hid (AMap Uc11u1 ma2 L) := hcut Uc11u1 ma2 (by rw [eWv, emh]; exact heap_alloc_new _ _)
  have HL1 : Hid (w.heap.size ≤ ma2) := (by show _ ≤ _; rw [emh]; exact HB.out.size)
  clear eWv hes hcut es cl
  rw [← emh]
  clear emh
  (try go_wp2_with fail)
  refine hK.out _ _ (hHeld.below hb) (fun hHeld2 => ?_)
  clear hK K hHeld
  have hHeld := hHeld2
  clear hHeld2
  (try simp only [Act.put, List.setIfInBounds_toArray, List.set_cons_zero, List.set_cons_succ])
  replace HB : Hid (Below w.heap.size w Uc11u1) := HB.out.trans (hb.mono HB.out.size)
  replace HSrc : Hid (RowIs F Uc11u1 rb L (behZ L) (frL L) ma mb (.slice av (frL L).length cv) E) := HSrc.out.below hb
  clear hb
  refine tkW 9 (some 17) (v := ?_) ?_ hHeld ?_
  rotate_left
  · (intro ww hSw; (try dsimp only at hSw); have hln := len_bh hSw.bm; go_simp; try with_reducible rfl)
  refine wpAnyH_ready (rs := [10, 15]) (by kernel_rfl) (by simp) ?_
  refine AllReadyH.cons (o := ⟨some 18, _, _, _, _, _⟩) rfl (fun K hK => ?_) (AllReadyH.cons (o := ⟨some 23, _, _, _, _, _⟩) rfl (fun K hK => ?_) AllReadyH.nil)
  · have hmk := makeBh E.length Uc11u1
    have hb : Below Uc11u1.heap.size Uc11u1 (Uc11u1.alloc (.map #[] 0)) := (Below.refl _ _).alloc (Nat.le_refl _) _
    go_simp
    obtain ⟨Uc11u2, eW⟩ : ∃ X, X = Uc11u1.alloc (.map #[] 0) := ⟨_, rfl⟩
    rw [← eW] at hb ⊢
    obtain ⟨mb2, emn⟩ : ∃ b, b = Uc11u1.heap.size := ⟨_, rfl⟩
    have HN2 : Hid (MapIs Prod.fst Prod.snd Uc11u2 mb2 ([] : List (St × Value))) := ⟨#[], 0, by rw [eW, emn]; exact heap_alloc_new _ _, ⟨rfl, List.nodup_nil, fun x h => by simp at h⟩⟩
    have HL2 : Hid (w.heap.size ≤ mb2 ∧ ma2 ≠ mb2) := (by refine ⟨by rw [emn]; exact HB.out.size, fun e => ?_⟩; have := HM2.out.lt; omega)
    rw [← emn]
    clear emn hmk eW
    refine hK.out _ _ (hHeld.below hb) (fun hHeld2 => ?_)
    clear hK K hHeld
    have hHeld := hHeld2
    clear hHeld2
    (try simp only [Act.put, List.setIfInBounds_toArray, List.set_cons_zero, List.set_cons_succ])
    replace HB : Hid (Below w.heap.size w Uc11u2) := HB.out.trans (hb.mono HB.out.size)
    replace HSrc : Hid (RowIs F Uc11u2 rb L (behZ L) (frL L) ma mb (.slice av (frL L).length cv) E) := HSrc.out.below hb
    replace HM2 : Hid (AMap Uc11u2 ma2 L) := HM2.out.keep (hb.block _ HM2.out.lt)
    clear hb
    refine wpAnyH_ready (rs := [15]) (by kernel_rfl) (by simp) ?_
    refine AllReadyH.cons (o := ⟨some 23, _, _, _, _, _⟩) rfl (fun K hK => ?_) AllReadyH.nil
    go_simp
    refine (cloneSt _ (frL L) _ hHeld.own (by have := frL_length L; omega)).mono ?_
    rintro e Uc11u3 ⟨vf, rfl, hof, hb⟩
    obtain ⟨af, cf, ef⟩ := hof.form
    subst ef
    have HO2 : Hid (OwnSt w.heap.size Uc11u3 (.slice af (frL L).length cf) (frL L)) := hof.low HB.out.size
    clear hof
    (try go_wp2_with fail)
    refine hK.out _ _ (hHeld.below hb) (fun hHeld2 => ?_)
    clear hK K hHeld
    have hHeld := hHeld2
    clear hHeld2
    (try simp only [Act.put, List.setIfInBounds_toArray, List.set_cons_zero, List.set_cons_succ])
    replace HB : Hid (Below w.heap.size w Uc11u3) := HB.out.trans (hb.mono HB.out.size)
    replace HSrc : Hid (RowIs F Uc11u3 rb L (behZ L) (frL L) ma mb (.slice av (frL L).length cv) E) := HSrc.out.below hb
    replace HM2 : Hid (AMap Uc11u3 ma2 L) := HM2.out.keep (hb.block _ HM2.out.lt)
    replace HN2 : Hid (MapIs Prod.fst Prod.snd Uc11u3 mb2 ([] : List (St × Value))) := HN2.out.keep (hb.block _ HN2.out.lt)
    clear hb
    refine tkW 16 (some 24) (v := ?_) ?_ hHeld ?_
    rotate_left
    · (intro ww hSw; (try dsimp only at hSw); go_simp; try with_reducible rfl)
    refine wpAnyH_ready (rs := [17]) (by kernel_rfl) (by simp) ?_
    refine AllReadyH.cons (o := ⟨some 25, _, _, _, _, _⟩) rfl (fun K hK => ?_) AllReadyH.nil
    have hb : Below Uc11u3.heap.size Uc11u3 (Uc11u3.alloc (.cells #[.map (some ma2), .map (some mb2), .slice af (frL L).length cf] 57)) := (Below.refl _ _).alloc (Nat.le_refl _) _
    go_simp
    obtain ⟨Uc11u4, eW⟩ : ∃ X, X = Uc11u3.alloc (.cells #[.map (some ma2), .map (some mb2), .slice af (frL L).length cf] 57) := ⟨_, rfl⟩
    rw [← eW] at hb ⊢
    obtain ⟨rb2, erb⟩ : ∃ b, b = Uc11u3.heap.size := ⟨_, rfl⟩
    have HR2 : Hid (Uc11u4.heap[rb2]? = some (.cells #[.map (some ma2), .map (some mb2), .slice af (frL L).length cf] 57)) := (by rw [eW, erb]; exact heap_alloc_new _ _)
    have HL3 : Hid (w.heap.size ≤ rb2) := (by show _ ≤ _; rw [erb]; exact HB.out.size)
    rw [← erb]
    clear erb eW
    refine hK.out _ _ (hHeld.below hb) (fun hHeld2 => ?_)
    clear hK K hHeld
    have hHeld := hHeld2
    clear hHeld2
    (try simp only [Act.put, List.setIfInBounds_toArray, List.set_cons_zero, List.set_cons_succ])
    replace HB : Hid (Below w.heap.size w Uc11u4) := HB.out.trans (hb.mono HB.out.size)
    replace HSrc : Hid (RowIs F Uc11u4 rb L (behZ L) (frL L) ma mb (.slice av (frL L).length cv) E) := HSrc.out.below hb
    replace HM2 : Hid (AMap Uc11u4 ma2 L) := HM2.out.keep (hb.block _ HM2.out.lt)
    replace HN2 : Hid (MapIs Prod.fst Prod.snd Uc11u4 mb2 ([] : List (St × Value))) := HN2.out.keep (hb.block _ HN2.out.lt)
    replace HO2 : Hid (OwnSt w.heap.size Uc11u4 (.slice af (frL L).length cf) (frL L)) := HO2.out.below hb
    clear hb
    refine tkW 18 (some 3) (v := ?_) ?_ hHeld ?_
    rotate_left
    · (intro ww _; go_simp; try with_reducible rfl)
    refine wpAnyH_done (by kernel_rfl) ?_ _
    clear hHeld
    have HS0 : Hid (RowIs F Uc11u4 rb L (behZ L) (frL L) ma mb (.slice av (frL L).length cv) E) := HSrc.out
    obtain ⟨oo, hrg, hIt⟩ := range_st _ _ uBehind HS0.out.bm
    obtain ⟨it, eit⟩ : ∃ b, b = Uc11u4.heap.size := ⟨_, rfl⟩
    obtain ⟨W2, eW2⟩ : ∃ X, X = Uc11u4.alloc oo := ⟨_, rfl⟩
    have hb2 : Below Uc11u4.heap.size Uc11u4 W2 := by rw [eW2]; exact (Below.refl _ _).alloc (Nat.le_refl _) _
    rw [← eW2, ← eit] at hrg hIt
    have HC0 : Hid (ClS F w rb L ma mb (.slice av (frL L).length cv) E rb2 ma2 mb2 (.slice af (frL L).length cf) it none E [] W2) := ⟨HS0.out.below hb2, HFl.out, hIt, fun x h => h, HS0.out.nod, (hb2.block _ (row_lt HR2.out)).trans HR2.out, HM2.out.keep (hb2.block _ HM2.out.lt), HN2.out.keep (hb2.block _ HN2.out.lt), List.nodup_nil, fun x h => absurd h (by simp), fun a h => .inl h, fun x hx y hy => absurd hy (by simp), HO2.out.below hb2, fun x h => absurd h (by simp), fun x h => absurd h (by simp), ⟨HL3.out, HL1.out, HL2.out.1, by rw [eit]; exact HB.out.size⟩, HL2.out.2, HB.out.trans (hb2.mono HB.out.size)⟩
    have c1 := HS0.out.c1
    clear hIt hb2 eW2 HSrc HM2 HN2 HR2 HO2 eit
    go_wp2
    clear hrg c1 HS0
    go_loopw [32] (fun _ wr => ∃ Q E2 : List (St × Value), Hid (ClS F w rb L ma mb (.slice av (frL L).length cv) E rb2 ma2 mb2 (.slice af (frL L).length cf) it none Q E2 wr)) (fun _ wr => itLeft wr it)
    case atStart => exact ⟨E, [], HC0⟩
    case round =>
      clear HC0
      obtain ⟨Q, E2, HC⟩ := hrel
      rcases next_st HC.out.iter 0 with ⟨hR, hnx⟩ | ⟨Q1, x, Q2, w1, hR, hnx, hI1, hg1, hz1, hen⟩
      · subst hR
        have HE : Hid (RowOk (fun k => w.heap.size ≤ k ∧ k < wr.heap.size) wr rb2 L) := ⟨ma2, mb2, _, E2, HC.out.done, hl⟩
        have HBe : Hid (Below w.heap.size w wr) := HC.out.bel
        clear HC
        go_wp2
        go_ret
        exact ⟨rb2, _, rfl, HE.out, fun k hk => hk.1, HBe.out⟩
      · obtain ⟨hc1, hxE, hx2⟩ := HC.out.next hR hI1 hg1 hz1
        have hxq : ∀ y ∈ Q1 ++ Q2, y.1 ≠ x.1 := nodup_apart (by rw [← hR]; exact HC.out.rnod)
        have HxE : Hid (x ∈ E) := hxE
        have Hx2 : Hid (∀ y ∈ E2, y.1 ≠ x.1) := hx2
        have Hxq : Hid (∀ y ∈ Q1 ++ Q2, y.1 ≠ x.1) := hxq
        have HRl : Hid (Q.length = (Q1 ++ Q2).length + 1) := by (rw [hR]; show _ = _; simp; omega)
        have HLf : Hid (itLeft wr it = Q.length) := HC.out.iter.left
        have HBl : Hid ((behZ L x.1).length ≤ 4096) := (by have h9 := behL_length L x.1; show (behZ L x.1).length ≤ _; unfold behZ; split; exact Nat.zero_le _; omega)
        obtain ⟨a5, c5, e5⟩ := (HC.out.src.beh x hxE).form
        have hnx2 : (Instr.next (.pointer (some ⟨it, 0, none⟩)) false 0).run Try.prog wr = .ok (.tuple #[.bool true, .agg #[.int .i64 x.1.1, .int .i64 x.1.2], .slice a5 (behZ L x.1).length c5]) w1 := (by rw [← e5]; exact hnx)
        have hen2 : (Instr.entry (.pointer (some ⟨it, 0, none⟩))).run Try.prog w1 = .ok (.tuple #[.agg #[.int .i64 x.1.1, .int .i64 x.1.2], .slice a5 (behZ L x.1).length c5]) w1 := (by rw [← e5]; exact hen)
        obtain ⟨W4, eW4⟩ : ∃ X, X = w1.alloc (.cells (stCells x.1).toArray 33) := ⟨_, rfl⟩
        have hb4 : Below w1.heap.size w1 W4 := by rw [eW4]; exact (Below.refl _ _).alloc (Nat.le_refl _) _
        have HC4 : Hid (ClS F w rb L ma mb (.slice av (frL L).length cv) E rb2 ma2 mb2 (.slice af (frL L).length cf) it (some x.1) (Q1 ++ Q2) E2 W4) := hc1.below hb4
        obtain ⟨b4, eb4⟩ : ∃ b, b = w1.heap.size := ⟨_, rfl⟩
        have HX4 : Hid (BxC b4 (stCells x.1) 33 W4) := by rw [eW4, eb4]; exact BxC.new _ _ _
        have eW5 := eW4
        simp only [stCells] at eW5
        clear hc1 hxE hx2 hxq hR hnx hen hI1 hg1 hz1 hb4 HC eW4
        go_wp2_with fail
        rw [← eW5, ← eb4, ← e5]
        clear eW5 eb4 hnx2 hen2 e5
        have HC : Hid (ClS F w rb L ma mb (.slice av (frL L).length cv) E rb2 ma2 mb2 (.slice af (frL L).length cf) it (some x.1) (Q1 ++ Q2) E2 W4) := HC4
        clear HC4
        refine wp_region_held_drew (S := fun W' => W'.heap[rb2]? = some (.cells #[.map (some ma2), .map (some mb2), .slice af (frL L).length cf] 57) ∧ BxC b4 (stCells x.1) 33 W') (by kernel_rfl) ⟨HC.out.row2, HX4.out.below (Below.refl _ _).drew⟩ (fun hHeld => ?_)
        obtain ⟨Uk12u0, eW⟩ : ∃ X, X = W4.drew := ⟨_, rfl⟩
        have hb : Below W4.heap.size W4 Uk12u0 := by rw [eW]; exact (Below.refl _ _).drew
        replace HC : Hid (ClS F w rb L ma mb (.slice av (frL L).length cv) E rb2 ma2 mb2 (.slice af (frL L).length cf) it (some x.1) (Q1 ++ Q2) E2 Uk12u0) := HC.out.below hb
        rw [← eW] at hHeld ⊢
        clear eW hb
        refine tkW 0 (some 36) (v := ?_) ?_ hHeld ?_
        rotate_left
        · (intro ww _; go_simp; try with_reducible rfl)
        refine tkW 1 (some 37) (v := ?_) ?_ hHeld ?_
        rotate_left
        · (intro ww hSw; (try dsimp only at hSw); go_simp; try with_reducible rfl)
        refine tkW 2 (some 38) (v := ?_) ?_ hHeld ?_
        rotate_left
        · (intro ww _; go_simp; try with_reducible rfl)
        refine tkW 3 (some 39) (v := ?_) ?_ hHeld ?_
        rotate_left
        · (intro ww hSw; (try dsimp only at hSw); have r1 : ww.cell? ⟨rb2, 1, none⟩ = some (.map (some mb2)) := (by rw [cell_of_row ww rb2 1 _ _ _ hSw.1]; rfl); go_simp; try with_reducible rfl)
        refine tkW 4 (some 40) (v := ?_) ?_ hHeld ?_
        rotate_left
        · (intro ww hSw; (try dsimp only at hSw); have s0 := hSw.2.cell 0 _ rfl; have s1 := hSw.2.cell 1 _ rfl; go_simp; try with_reducible rfl)
        refine tkW 5 (some 41) (v := ?_) ?_ hHeld ?_
        rotate_left
        · (intro ww _; go_simp; try with_reducible rfl)
        refine wpAnyH_ready (rs := [6]) (by kernel_rfl) (by simp) ?_
        refine AllReadyH.cons (o := ⟨some 42, _, _, _, _, _⟩) rfl (fun K hK => ?_) AllReadyH.nil
        go_simp
        refine (cloneSt _ (behZ L x.1) _ (HC.out.src.beh x HxE.out) (by have := HBl.out; omega)).mono ?_
        rintro e Uk12u1 ⟨v6, rfl, ho6, hb⟩
        obtain ⟨a6, c6, e6⟩ := ho6.form
        subst e6
        obtain ⟨Wp, eWp⟩ : ∃ X, X = Uk12u0 := ⟨_, rfl⟩
        have HP : Hid (ClS F w rb L ma mb (.slice av (frL L).length cv) E rb2 ma2 mb2 (.slice af (frL L).length cf) it (some x.1) (Q1 ++ Q2) E2 Wp ∧ Below Wp.heap.size Wp Uk12u1 ∧ OwnSt Wp.heap.size Uk12u1 (.slice a6 (behZ L x.1).length c6) (behZ L x.1)) := (by rw [eWp]; exact ⟨HC.out, hb, ho6⟩)
        have hS6 : Uk12u1.heap[rb2]? = some (.cells #[.map (some ma2), .map (some mb2), .slice af (frL L).length cf] 57) ∧ BxC b4 (stCells x.1) 33 Uk12u1 := ⟨(hb.block _ (row_lt hHeld.1)).trans hHeld.1, hHeld.2.below hb⟩
        clear ho6 eWp HC
        (try go_wp2_with fail)
        refine hK.out _ _ (hS6) (fun hHeld2 => ?_)
        clear hK K hHeld
        have hHeld := hHeld2
        clear hHeld2
        (try simp only [Act.put, List.setIfInBounds_toArray, List.set_cons_zero, List.set_cons_succ])
        clear hb hS6
        refine wpAnyH_ready (rs := [7]) (by kernel_rfl) (by simp) ?_
        refine AllReadyH.cons (o := ⟨none, _, _, _, _, _⟩) rfl (fun K hK => ?_) AllReadyH.nil
        obtain ⟨Uk12u2, hup, hg, hcl⟩ := HP.out.1.put HP.out.2.1 HP.out.2.2 HxE.out Hx2.out
        have hup2 : (Instr.mapUpdate 55 (.map (some mb2)) (.agg #[.int .i64 x.1.1, .int .i64 x.1.2]) (.slice a6 (behZ L x.1).length c6)).run Try.prog Uk12u1 = .ok () Uk12u2 := hup
        have HC2 : Hid (ClS F w rb L ma mb (.slice av (frL L).length cv) E rb2 ma2 mb2 (.slice af (frL L).length cf) it none (Q1 ++ Q2) (E2 ++ [(x.1, .slice a6 (behZ L x.1).length c6)]) Uk12u2) := hcl Hxq.out
        have hS7 : Uk12u2.heap[rb2]? = some (.cells #[.map (some ma2), .map (some mb2), .slice af (frL L).length cf] 57) ∧ BxC b4 (stCells x.1) 33 Uk12u2 := ⟨HC2.out.row2, hHeld.2.keep (hg.block _ hHeld.2.lt (fun e => by (have h9 := HP.out.1.below HP.out.2.1; obtain ⟨_, _, hm9, _⟩ := h9.bm2; have h8 := hHeld.2; cases e; rw [BxC, hm9] at h8; cases h8)))⟩
        clear hup hg hcl
        go_simp
        refine hK.out _ _ (hS7) (fun hHeld2 => ?_)
        clear hK K hHeld
        have hHeld := hHeld2
        clear hHeld2
        (try simp only [Act.put, List.setIfInBounds_toArray, List.set_cons_zero, List.set_cons_succ])
        clear hup2 hS7 HP
        refine wpAnyH_done (by kernel_rfl) ?_ _
        clear hHeld
        have HLf3 : Hid (itLeft Uk12u2 it = (Q1 ++ Q2).length) := HC2.out.iter.left
        go_wp2
        go_roundw
        case rel => exact ⟨Q1 ++ Q2, _, HC2⟩
        case measure => rw [HLf.out, HLf3.out, HRl.out]; exact Nat.lt_succ_self _
  · go_simp
    refine (cloneSt _ (frL L) _ hHeld.own (by have := frL_length L; omega)).mono ?_
    rintro e Uc11u5 ⟨vf, rfl, hof, hb⟩
    obtain ⟨af, cf, ef⟩ := hof.form
    subst ef
    have HO2 : Hid (OwnSt w.heap.size Uc11u5 (.slice af (frL L).length cf) (frL L)) := hof.low HB.out.size
    clear hof
    (try go_wp2_with fail)
    refine hK.out _ _ (hHeld.below hb) (fun hHeld2 => ?_)
    clear hK K hHeld
    have hHeld := hHeld2
    clear hHeld2
    (try simp only [Act.put, List.setIfInBounds_toArray, List.set_cons_zero, List.set_cons_succ])
    replace HB : Hid (Below w.heap.size w Uc11u5) := HB.out.trans (hb.mono HB.out.size)
    replace HSrc : Hid (RowIs F Uc11u5 rb L (behZ L) (frL L) ma mb (.slice av (frL L).length cv) E) := HSrc.out.below hb
    replace HM2 : Hid (AMap Uc11u5 ma2 L) := HM2.out.keep (hb.block _ HM2.out.lt)
    clear hb
    refine wpAnyH_ready (rs := [10]) (by kernel_rfl) (by simp) ?_
    refine AllReadyH.cons (o := ⟨some 18, _, _, _, _, _⟩) rfl (fun K hK => ?_) AllReadyH.nil
    have hmk := makeBh E.length Uc11u5
    have hb : Below Uc11u5.heap.size Uc11u5 (Uc11u5.alloc (.map #[] 0)) := (Below.refl _ _).alloc (Nat.le_refl _) _
    go_simp
    obtain ⟨Uc11u6, eW⟩ : ∃ X, X = Uc11u5.alloc (.map #[] 0) := ⟨_, rfl⟩
    rw [← eW] at hb ⊢
    obtain ⟨mb2, emn⟩ : ∃ b, b = Uc11u5.heap.size := ⟨_, rfl⟩
    have HN2 : Hid (MapIs Prod.fst Prod.snd Uc11u6 mb2 ([] : List (St × Value))) := ⟨#[], 0, by rw [eW, emn]; exact heap_alloc_new _ _, ⟨rfl, List.nodup_nil, fun x h => by simp at h⟩⟩
    have HL2 : Hid (w.heap.size ≤ mb2 ∧ ma2 ≠ mb2) := (by refine ⟨by rw [emn]; exact HB.out.size, fun e => ?_⟩; have := HM2.out.lt; omega)
    rw [← emn]
    clear emn hmk eW
    refine hK.out _ _ (hHeld.below hb) (fun hHeld2 => ?_)
    clear hK K hHeld
    have hHeld := hHeld2
    clear hHeld2
    (try simp only [Act.put, List.setIfInBounds_toArray, List.set_cons_zero, List.set_cons_succ])
    replace HB : Hid (Below w.heap.size w Uc11u6) := HB.out.trans (hb.mono HB.out.size)
    replace HSrc : Hid (RowIs F Uc11u6 rb L (behZ L) (frL L) ma mb (.slice av (frL L).length cv) E) := HSrc.out.below hb
    replace HM2 : Hid (AMap Uc11u6 ma2 L) := HM2.out.keep (hb.block _ HM2.out.lt)
    replace HO2 : Hid (OwnSt w.heap.size Uc11u6 (.slice af (frL L).length cf) (frL L)) := HO2.out.below hb
    clear hb
    refine tkW 16 (some 24) (v := ?_) ?_ hHeld ?_
    rotate_left
    · (intro ww hSw; (try dsimp only at hSw); go_simp; try with_reducible rfl)
    refine wpAnyH_ready (rs := [17]) (by kernel_rfl) (by simp) ?_
    refine AllReadyH.cons (o := ⟨some 25, _, _, _, _, _⟩) rfl (fun K hK => ?_) AllReadyH.nil
    have hb : Below Uc11u6.heap.size Uc11u6 (Uc11u6.alloc (.cells #[.map (some ma2), .map (some mb2), .slice af (frL L).length cf] 57)) := (Below.refl _ _).alloc (Nat.le_refl _) _
    go_simp
    obtain ⟨Uc11u7, eW⟩ : ∃ X, X = Uc11u6.alloc (.cells #[.map (some ma2), .map (some mb2), .slice af (frL L).length cf] 57) := ⟨_, rfl⟩
    rw [← eW] at hb ⊢
    obtain ⟨rb2, erb⟩ : ∃ b, b = Uc11u6.heap.size := ⟨_, rfl⟩
    have HR2 : Hid (Uc11u7.heap[rb2]? = some (.cells #[.map (some ma2), .map (some mb2), .slice af (frL L).length cf] 57)) := (by rw [eW, erb]; exact heap_alloc_new _ _)
    have HL3 : Hid (w.heap.size ≤ rb2) := (by show _ ≤ _; rw [erb]; exact HB.out.size)
    rw [← erb]
    clear erb eW
    refine hK.out _ _ (hHeld.below hb) (fun hHeld2 => ?_)
    clear hK K hHeld
    have hHeld := hHeld2
    clear hHeld2
    (try simp only [Act.put, List.setIfInBounds_toArray, List.set_cons_zero, List.set_cons_succ])
    replace HB : Hid (Below w.heap.size w Uc11u7) := HB.out.trans (hb.mono HB.out.size)
    replace HSrc : Hid (RowIs F Uc11u7 rb L (behZ L) (frL L) ma mb (.slice av (frL L).length cv) E) := HSrc.out.below hb
    replace HM2 : Hid (AMap Uc11u7 ma2 L) := HM2.out.keep (hb.block _ HM2.out.lt)
    replace HO2 : Hid (OwnSt w.heap.size Uc11u7 (.slice af (frL L).length cf) (frL L)) := HO2.out.below hb
    replace HN2 : Hid (MapIs Prod.fst Prod.snd Uc11u7 mb2 ([] : List (St × Value))) := HN2.out.keep (hb.block _ HN2.out.lt)
    clear hb
    refine tkW 18 (some 3) (v := ?_) ?_ hHeld ?_
    rotate_left
    · (intro ww _; go_simp; try with_reducible rfl)
    refine wpAnyH_done (by kernel_rfl) ?_ _
    clear hHeld
    have HS0 : Hid (RowIs F Uc11u7 rb L (behZ L) (frL L) ma mb (.slice av (frL L).length cv) E) := HSrc.out
    obtain ⟨oo, hrg, hIt⟩ := range_st _ _ uBehind HS0.out.bm
    obtain ⟨it, eit⟩ : ∃ b, b = Uc11u7.heap.size := ⟨_, rfl⟩
    obtain ⟨W2, eW2⟩ : ∃ X, X = Uc11u7.alloc oo := ⟨_, rfl⟩
    have hb2 : Below Uc11u7.heap.size Uc11u7 W2 := by rw [eW2]; exact (Below.refl _ _).alloc (Nat.le_refl _) _
    rw [← eW2, ← eit] at hrg hIt
    have HC0 : Hid (ClS F w rb L ma mb (.slice av (frL L).length cv) E rb2 ma2 mb2 (.slice af (frL L).length cf) it none E [] W2) := ⟨HS0.out.below hb2, HFl.out, hIt, fun x h => h, HS0.out.nod, (hb2.block _ (row_lt HR2.out)).trans HR2.out, HM2.out.keep (hb2.block _ HM2.out.lt), HN2.out.keep (hb2.block _ HN2.out.lt), List.nodup_nil, fun x h => absurd h (by simp), fun a h => .inl h, fun x hx y hy => absurd hy (by simp), HO2.out.below hb2, fun x h => absurd h (by simp), fun x h => absurd h (by simp), ⟨HL3.out, HL1.out, HL2.out.1, by rw [eit]; exact HB.out.size⟩, HL2.out.2, HB.out.trans (hb2.mono HB.out.size)⟩
    have c1 := HS0.out.c1
    clear hIt hb2 eW2 HSrc HM2 HN2 HR2 HO2 eit
    go_wp2
    clear hrg c1 HS0
    go_loopw [32] (fun _ wr => ∃ Q E2 : List (St × Value), Hid (ClS F w rb L ma mb (.slice av (frL L).length cv) E rb2 ma2 mb2 (.slice af (frL L).length cf) it none Q E2 wr)) (fun _ wr => itLeft wr it)
    case atStart => exact ⟨E, [], HC0⟩
    case round =>
      clear HC0
      obtain ⟨Q, E2, HC⟩ := hrel
      rcases next_st HC.out.iter 0 with ⟨hR, hnx⟩ | ⟨Q1, x, Q2, w1, hR, hnx, hI1, hg1, hz1, hen⟩
      · subst hR
        have HE : Hid (RowOk (fun k => w.heap.size ≤ k ∧ k < wr.heap.size) wr rb2 L) := ⟨ma2, mb2, _, E2, HC.out.done, hl⟩
        have HBe : Hid (Below w.heap.size w wr) := HC.out.bel
        clear HC
        go_wp2
        go_ret
        exact ⟨rb2, _, rfl, HE.out, fun k hk => hk.1, HBe.out⟩
      · obtain ⟨hc1, hxE, hx2⟩ := HC.out.next hR hI1 hg1 hz1
        have hxq : ∀ y ∈ Q1 ++ Q2, y.1 ≠ x.1 := nodup_apart (by rw [← hR]; exact HC.out.rnod)
        have HxE : Hid (x ∈ E) := hxE
        have Hx2 : Hid (∀ y ∈ E2, y.1 ≠ x.1) := hx2
        have Hxq : Hid (∀ y ∈ Q1 ++ Q2, y.1 ≠ x.1) := hxq
        have HRl : Hid (Q.length = (Q1 ++ Q2).length + 1) := by (rw [hR]; show _ = _; simp; omega)
        have HLf : Hid (itLeft wr it = Q.length) := HC.out.iter.left
        have HBl : Hid ((behZ L x.1).length ≤ 4096) := (by have h9 := behL_length L x.1; show (behZ L x.1).length ≤ _; unfold behZ; split; exact Nat.zero_le _; omega)
        obtain ⟨a5, c5, e5⟩ := (HC.out.src.beh x hxE).form
        have hnx2 : (Instr.next (.pointer (some ⟨it, 0, none⟩)) false 0).run Try.prog wr = .ok (.tuple #[.bool true, .agg #[.int .i64 x.1.1, .int .i64 x.1.2], .slice a5 (behZ L x.1).length c5]) w1 := (by rw [← e5]; exact hnx)
        have hen2 : (Instr.entry (.pointer (some ⟨it, 0, none⟩))).run Try.prog w1 = .ok (.tuple #[.agg #[.int .i64 x.1.1, .int .i64 x.1.2], .slice a5 (behZ L x.1).length c5]) w1 := (by rw [← e5]; exact hen)
        obtain ⟨W4, eW4⟩ : ∃ X, X = w1.alloc (.cells (stCells x.1).toArray 33) := ⟨_, rfl⟩
        have hb4 : Below w1.heap.size w1 W4 := by rw [eW4]; exact (Below.refl _ _).alloc (Nat.le_refl _) _
        have HC4 : Hid (ClS F w rb L ma mb (.slice av (frL L).length cv) E rb2 ma2 mb2 (.slice af (frL L).length cf) it (some x.1) (Q1 ++ Q2) E2 W4) := hc1.below hb4
        obtain ⟨b4, eb4⟩ : ∃ b, b = w1.heap.size := ⟨_, rfl⟩
        have HX4 : Hid (BxC b4 (stCells x.1) 33 W4) := by rw [eW4, eb4]; exact BxC.new _ _ _
        have eW5 := eW4
        simp only [stCells] at eW5
        clear hc1 hxE hx2 hxq hR hnx hen hI1 hg1 hz1 hb4 HC eW4
        go_wp2_with fail
        rw [← eW5, ← eb4, ← e5]
        clear eW5 eb4 hnx2 hen2 e5
        have HC : Hid (ClS F w rb L ma mb (.slice av (frL L).length cv) E rb2 ma2 mb2 (.slice af (frL L).length cf) it (some x.1) (Q1 ++ Q2) E2 W4) := HC4
        clear HC4
        refine wp_region_held_drew (S := fun W' => W'.heap[rb2]? = some (.cells #[.map (some ma2), .map (some mb2), .slice af (frL L).length cf] 57) ∧ BxC b4 (stCells x.1) 33 W') (by kernel_rfl) ⟨HC.out.row2, HX4.out.below (Below.refl _ _).drew⟩ (fun hHeld => ?_)
        obtain ⟨Uk13u0, eW⟩ : ∃ X, X = W4.drew := ⟨_, rfl⟩
        have hb : Below W4.heap.size W4 Uk13u0 := by rw [eW]; exact (Below.refl _ _).drew
        replace HC : Hid (ClS F w rb L ma mb (.slice av (frL L).length cv) E rb2 ma2 mb2 (.slice af (frL L).length cf) it (some x.1) (Q1 ++ Q2) E2 Uk13u0) := HC.out.below hb
        rw [← eW] at hHeld ⊢
        clear eW hb
        refine tkW 0 (some 36) (v := ?_) ?_ hHeld ?_
        rotate_left
        · (intro ww _; go_simp; try with_reducible rfl)
        refine tkW 1 (some 37) (v := ?_) ?_ hHeld ?_
        rotate_left
        · (intro ww hSw; (try dsimp only at hSw); go_simp; try with_reducible rfl)
        refine tkW 2 (some 38) (v := ?_) ?_ hHeld ?_
        rotate_left
        · (intro ww _; go_simp; try with_reducible rfl)
        refine tkW 3 (some 39) (v := ?_) ?_ hHeld ?_
        rotate_left
        · (intro ww hSw; (try dsimp only at hSw); have r1 : ww.cell? ⟨rb2, 1, none⟩ = some (.map (some mb2)) := (by rw [cell_of_row ww rb2 1 _ _ _ hSw.1]; rfl); go_simp; try with_reducible rfl)
        refine tkW 4 (some 40) (v := ?_) ?_ hHeld ?_
        rotate_left
        · (intro ww hSw; (try dsimp only at hSw); have s0 := hSw.2.cell 0 _ rfl; have s1 := hSw.2.cell 1 _ rfl; go_simp; try with_reducible rfl)
        refine tkW 5 (some 41) (v := ?_) ?_ hHeld ?_
        rotate_left
        · (intro ww _; go_simp; try with_reducible rfl)
        refine wpAnyH_ready (rs := [6]) (by kernel_rfl) (by simp) ?_
        refine AllReadyH.cons (o := ⟨some 42, _, _, _, _, _⟩) rfl (fun K hK => ?_) AllReadyH.nil
        go_simp
        refine (cloneSt _ (behZ L x.1) _ (HC.out.src.beh x HxE.out) (by have := HBl.out; omega)).mono ?_
        rintro e Uk13u1 ⟨v6, rfl, ho6, hb⟩
        obtain ⟨a6, c6, e6⟩ := ho6.form
        subst e6
        obtain ⟨Wp, eWp⟩ : ∃ X, X = Uk13u0 := ⟨_, rfl⟩
        have HP : Hid (ClS F w rb L ma mb (.slice av (frL L).length cv) E rb2 ma2 mb2 (.slice af (frL L).length cf) it (some x.1) (Q1 ++ Q2) E2 Wp ∧ Below Wp.heap.size Wp Uk13u1 ∧ OwnSt Wp.heap.size Uk13u1 (.slice a6 (behZ L x.1).length c6) (behZ L x.1)) := (by rw [eWp]; exact ⟨HC.out, hb, ho6⟩)
        have hS6 : Uk13u1.heap[rb2]? = some (.cells #[.map (some ma2), .map (some mb2), .slice af (frL L).length cf] 57) ∧ BxC b4 (stCells x.1) 33 Uk13u1 := ⟨(hb.block _ (row_lt hHeld.1)).trans hHeld.1, hHeld.2.below hb⟩
        clear ho6 eWp HC
        (try go_wp2_with fail)
        refine hK.out _ _ (hS6) (fun hHeld2 => ?_)
        clear hK K hHeld
        have hHeld := hHeld2
        clear hHeld2
        (try simp only [Act.put, List.setIfInBounds_toArray, List.set_cons_zero, List.set_cons_succ])
        clear hb hS6
        refine wpAnyH_ready (rs := [7]) (by kernel_rfl) (by simp) ?_
        refine AllReadyH.cons (o := ⟨none, _, _, _, _, _⟩) rfl (fun K hK => ?_) AllReadyH.nil
        obtain ⟨Uk13u2, hup, hg, hcl⟩ := HP.out.1.put HP.out.2.1 HP.out.2.2 HxE.out Hx2.out
        have hup2 : (Instr.mapUpdate 55 (.map (some mb2)) (.agg #[.int .i64 x.1.1, .int .i64 x.1.2]) (.slice a6 (behZ L x.1).length c6)).run Try.prog Uk13u1 = .ok () Uk13u2 := hup
        have HC2 : Hid (ClS F w rb L ma mb (.slice av (frL L).length cv) E rb2 ma2 mb2 (.slice af (frL L).length cf) it none (Q1 ++ Q2) (E2 ++ [(x.1, .slice a6 (behZ L x.1).length c6)]) Uk13u2) := hcl Hxq.out
        have hS7 : Uk13u2.heap[rb2]? = some (.cells #[.map (some ma2), .map (some mb2), .slice af (frL L).length cf] 57) ∧ BxC b4 (stCells x.1) 33 Uk13u2 := ⟨HC2.out.row2, hHeld.2.keep (hg.block _ hHeld.2.lt (fun e => by (have h9 := HP.out.1.below HP.out.2.1; obtain ⟨_, _, hm9, _⟩ := h9.bm2; have h8 := hHeld.2; cases e; rw [BxC, hm9] at h8; cases h8)))⟩
        clear hup hg hcl
        go_simp
        refine hK.out _ _ (hS7) (fun hHeld2 => ?_)
        clear hK K hHeld
        have hHeld := hHeld2
        clear hHeld2
        (try simp only [Act.put, List.setIfInBounds_toArray, List.set_cons_zero, List.set_cons_succ])
        clear hup2 hS7 HP
        refine wpAnyH_done (by kernel_rfl) ?_ _
        clear hHeld
        have HLf3 : Hid (itLeft Uk13u2 it = (Q1 ++ Q2).length) := HC2.out.iter.left
        go_wp2
        go_roundw
        case rel => exact ⟨Q1 ++ Q2, _, HC2⟩
        case measure => rw [HLf.out, HLf3.out, HRl.out]; exact Nat.lt_succ_self _

end Go.Proofs.Ytfgkdbidgbpobaa
