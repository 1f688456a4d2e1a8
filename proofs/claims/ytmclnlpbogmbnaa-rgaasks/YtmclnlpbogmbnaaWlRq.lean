/- RgaAsks: whether a slot is there, and which one stands just ahead of it. -/
import Derived.Test.YtmclnlpbogmbnaaRdV
namespace Go.Proofs.Ytmclnlpbogmbnaa
open Go.RowKit
set_option linter.unusedVariables false
set_option linter.unusedSimpArgs false

theorem asks_ahead {L : List Sl} (h : GoodL L) {a r : St} {bo : Bool} {n : Int} (hp : PlR (ordL L) a n) (hr : AhR L a r bo) :
    (hasL L a = false ∧ n = -1 ∧ bo = false ∧ r = z0) ∨ (hasL L a = true ∧ n = 0 ∧ bo = true ∧ r = z0) ∨ (hasL L a = true ∧ bo = true ∧ ∃ N : Nat, n = (N : Int) + 1 ∧ ∃ hN : N < (ordL L).length, r = (ordL L)[N]) := by
  rcases hr with ⟨hf, rfl, rfl⟩ | ⟨ht, rfl, i, hi, rfl⟩
  · refine .inl ⟨hf, ?_, rfl, rfl⟩
    rcases hp with ⟨p, q, e, _⟩ | ⟨_, e⟩
    · have : a ∈ ordL L := by rw [e]; simp
      rw [mem_ord h, hf] at this
      cases this
    · exact e
  · right
    obtain ⟨p2, q2, e2, hl⟩ := ord_ahead h ht hi
    have hnd := ord_nodup h
    have hp2 : a ∉ p2 := fun hm => by
      rw [e2, List.nodup_append] at hnd
      exact hnd.2.2 _ hm _ (List.mem_cons_self ..) rfl
    rcases hp with ⟨p, q, e, hnp, rfl⟩ | ⟨hn, _⟩
    · obtain ⟨rfl, rfl⟩ := nodup_split e e2 hnp hp2
      rcases List.eq_nil_or_concat p with rfl | ⟨p3, y, rfl⟩
      · left
        simp at hl
        exact ⟨ht, rfl, rfl, hl.symm⟩
      · right
        refine ⟨ht, rfl, p3.length, by simp, by rw [e]; simp, ?_⟩
        have h3 : aheadO L a i = y := by
          have : (z0 :: (p3.concat y)).getLast? = some y := by simp [List.getLast?_cons]
          rw [this] at hl
          exact (Option.some.inj hl).symm
        rw [h3]
        simp only [e]
        simp
    · exact absurd ((mem_ord h).2 ht) hn

set_option maxRecDepth 100000 in
set_option maxHeartbeats 8000000 in
theorem rgaAsks_walk (v : Value) (l : List Sl) (a : St) (w : World) (h : IsSl w v l) :
    Calls Try.prog 4 #[v, .agg #[.int .i64 a.1, .int .i64 a.2]] w fun e w' => e = .returned (.bool true) ∧ Below w.heap.size w w' := by
  obtain ⟨W0, eW⟩ : ∃ X, X = w.alloc (.cells (stCells a).toArray 30) := ⟨_, rfl⟩
  have hb01 : Below w.heap.size w W0 := by rw [eW]; exact (Below.refl _ _).alloc (Nat.le_refl _) _
  have HA0 : Hid (BxC w.heap.size (stCells a) 30 W0) := by rw [eW]; exact BxC.new w _ _
  have HLs : Hid (IsSl W0 v l) := h.below hb01
  obtain ⟨a1, c1, e1⟩ := h.form
  subst e1
  clear h
  go_enter Try.func4, Try.ntmps4
  go_wp2_with fail
  have eW2 := eW
  simp only [stCells] at eW2
  rw [← eW2]
  clear eW2 eW
  refine (laid_any _ l _ HLs.out).mono ?_
  rintro e w1 ⟨rb, F, b, o, c, rfl, hM⟩
  have HG : Hid (GoodL (laidL l)) := hM.row.good
  have HLn0 : Hid ((laidL l).length ≤ 120) := laidL_len l
  obtain ⟨L, eL⟩ : ∃ L, L = laidL l := ⟨_, rfl⟩
  rw [← eL] at hM HG HLn0
  rw [← eL]
  clear eL HLs
  have HLn : Hid ((ordL L).length ≤ 120) := by (show _ ≤ _; rw [ord_length HG.out]; exact HLn0.out)
  have HM : Hid (LdS W0 rb F (.slice (some ⟨b, o, none⟩) L.length c) L L w1) := hM
  have HA : Hid (BxC w.heap.size (stCells a) 30 w1) := HA0.out.below hM.bel
  clear hM HA0
  go_wp2_with fail
  refine (refOrder_any (fun j => ¬ F j) _ L _ (by have := HLn0.out; omega) HG.out HM.out.doc).mono ?_
  rintro e w2 ⟨D, dg, dc, hD, rfl, hd, hb⟩
  replace HM : Hid (LdS W0 rb F (.slice (some ⟨b, o, none⟩) L.length c) L L w2) := HM.out.below hb
  replace HA : Hid (BxC w.heap.size (stCells a) 30 w2) := HA.out.below hb
  clear hb
  have HD : Hid (D = (bel L z0).map (slO L)) := hD
  have HDo : Hid (OwnSl w1.heap.size w2 (.slice (some ⟨dg, 0, none⟩) D.length dc) D) := hd
  clear hd hD
  have hDl : D.length ≤ 4096 := by (rw [HD.out, List.length_map]; exact Nat.le_trans (bel_length HG.out (.inl rfl)) (by have := HLn0.out; omega))
  go_wp2_with fail
  refine (refStamps_any (fun _ => True) _ D _ hDl (HDo.out.lsE slCells_len (by omega) fun _ _ => trivial)).mono ?_
  rintro e w3 ⟨D2, og, oc, hD2, rfl, hs, hb⟩
  replace HM : Hid (LdS W0 rb F (.slice (some ⟨b, o, none⟩) L.length c) L L w3) := HM.out.below hb
  replace HA : Hid (BxC w.heap.size (stCells a) 30 w3) := HA.out.below hb
  clear hb
  have hD3 : D2 = ordL L := by (rw [hD2, HD.out, List.map_map]; exact List.map_id'' (fun _ => rfl) _)
  subst hD3
  obtain ⟨ob, eob⟩ : ∃ x, x = w2.heap.size := ⟨_, rfl⟩
  rw [← eob] at hs
  have HO : Hid (OwnSt ob w3 (.slice (some ⟨og, 0, none⟩) (ordL L).length oc) (ordL L)) := hs
  clear hs hD2 eob hDl HD HDo
  have x0 : w3.cell? ⟨w.heap.size, 0, none⟩ = some (.int .i64 a.1) := HA.out.cell 0 _ rfl
  have x1 : w3.cell? ⟨w.heap.size, 1, none⟩ = some (.int .i64 a.2) := HA.out.cell 1 _ rfl
  go_wp2_with fail
  clear x0 x1
  refine (refPlace_any (fun _ => True) _ (ordL L) a _ (HO.out.lsE stCells_len (by have := HLn.out; omega) fun _ _ => trivial)).mono ?_
  rintro e w4 ⟨n, rfl, hp, hb⟩
  replace HM : Hid (LdS W0 rb F (.slice (some ⟨b, o, none⟩) L.length c) L L w4) := HM.out.below hb
  replace HA : Hid (BxC w.heap.size (stCells a) 30 w4) := HA.out.below hb
  replace HO : Hid (OwnSt ob w4 (.slice (some ⟨og, 0, none⟩) (ordL L).length oc) (ordL L)) := HO.out.below hb
  clear hb
  have HP : Hid (PlR (ordL L) a n) := hp
  clear hp
  have x0 : w4.cell? ⟨w.heap.size, 0, none⟩ = some (.int .i64 a.1) := HA.out.cell 0 _ rfl
  have x1 : w4.cell? ⟨w.heap.size, 1, none⟩ = some (.int .i64 a.2) := HA.out.cell 1 _ rfl
  go_wp2_with fail
  clear x0 x1
  refine (ahead_any F rb L a _ HM.out.row).mono ?_
  rintro e w5 ⟨r, bo, rfl, hr, hb⟩
  obtain ⟨w6, ew6⟩ : ∃ X, X = w5.alloc (.cells [.int .i64 r.1, .int .i64 r.2].toArray 30) := ⟨_, rfl⟩
  have hb6 : Below w5.heap.size w5 w6 := by rw [ew6]; exact (Below.refl _ _).alloc (Nat.le_refl _) _
  replace hb := hb.trans (hb6.mono hb.size)
  replace HM : Hid (LdS W0 rb F (.slice (some ⟨b, o, none⟩) L.length c) L L w6) := HM.out.below hb
  replace HA : Hid (BxC w.heap.size (stCells a) 30 w6) := HA.out.below hb
  replace HO : Hid (OwnSt ob w6 (.slice (some ⟨og, 0, none⟩) (ordL L).length oc) (ordL L)) := HO.out.below hb
  have HS0 : Hid (BxC w5.heap.size [.int .i64 r.1, .int .i64 r.2] 30 w6) := by rw [ew6]; exact BxC.new _ _ _
  obtain ⟨sb, esb⟩ : ∃ t, t = w5.heap.size := ⟨_, rfl⟩
  have HS : Hid (BxC sb [.int .i64 r.1, .int .i64 r.2] 30 w6) := by (rw [esb]; exact HS0.out)
  have hask := asks_ahead HG.out HP.out hr
  clear hb hb6 hr HP
  have x0 : w6.cell? ⟨w.heap.size, 0, none⟩ = some (.int .i64 a.1) := HA.out.cell 0 _ rfl
  have x1 : w6.cell? ⟨w.heap.size, 1, none⟩ = some (.int .i64 a.2) := HA.out.cell 1 _ rfl
  rw [ew6] at x0 x1
  go_wp2_with fail
  have ew7 := ew6
  rw [← ew7, ← esb]
  clear ew7 ew6 esb HS0 x0 x1
  refine (hasOk_any F rb L a _ HM.out.row).mono ?_
  rintro e w7 ⟨rfl, hb⟩
  replace HM : Hid (LdS W0 rb F (.slice (some ⟨b, o, none⟩) L.length c) L L w7) := HM.out.below hb
  replace HA : Hid (BxC w.heap.size (stCells a) 30 w7) := HA.out.below hb
  replace HO : Hid (OwnSt ob w7 (.slice (some ⟨og, 0, none⟩) (ordL L).length oc) (ordL L)) := HO.out.below hb
  replace HS : Hid (BxC sb [.int .i64 r.1, .int .i64 r.2] 30 w7) := HS.out.below hb
  clear hb
  have x0 : w7.cell? ⟨w.heap.size, 0, none⟩ = some (.int .i64 a.1) := HA.out.cell 0 _ rfl
  have x1 : w7.cell? ⟨w.heap.size, 1, none⟩ = some (.int .i64 a.2) := HA.out.cell 1 _ rfl
  rcases hask with ⟨hh, rfl, rfl, er⟩ | ⟨hh, rfl, rfl, er⟩ | ⟨hh, rfl, N, rfl, hN, er⟩
  · rw [hh]
    subst er
    clear x0 x1
    have y0 : w7.cell? ⟨sb, 0, none⟩ = some (.int .i64 0) := HS.out.cell 0 _ rfl
    have y1 : w7.cell? ⟨sb, 1, none⟩ = some (.int .i64 0) := HS.out.cell 1 _ rfl
    go_wp2_with fail
    refine (awake_any _).mono ?_
    rintro e w8 ⟨rfl, hb⟩
    replace HM : Hid (LdS W0 rb F (.slice (some ⟨b, o, none⟩) L.length c) L L w8) := HM.out.below hb
    replace HA : Hid (BxC w.heap.size (stCells a) 30 w8) := HA.out.below hb
    replace HO : Hid (OwnSt ob w8 (.slice (some ⟨og, 0, none⟩) (ordL L).length oc) (ordL L)) := HO.out.below hb
    replace HS : Hid (BxC sb [.int .i64 z0.1, .int .i64 z0.2] 30 w8) := HS.out.below hb
    clear hb
    clear y0 y1
    go_wp2
    go_ret
    exact ⟨rfl, hb01.trans (HM.out.bel.mono hb01.size)⟩
  · rw [hh]
    subst er
    clear x0 x1
    have y0 : w7.cell? ⟨sb, 0, none⟩ = some (.int .i64 0) := HS.out.cell 0 _ rfl
    have y1 : w7.cell? ⟨sb, 1, none⟩ = some (.int .i64 0) := HS.out.cell 1 _ rfl
    go_wp2_with fail
    refine (awake_any _).mono ?_
    rintro e w8 ⟨rfl, hb⟩
    replace HM : Hid (LdS W0 rb F (.slice (some ⟨b, o, none⟩) L.length c) L L w8) := HM.out.below hb
    replace HA : Hid (BxC w.heap.size (stCells a) 30 w8) := HA.out.below hb
    replace HO : Hid (OwnSt ob w8 (.slice (some ⟨og, 0, none⟩) (ordL L).length oc) (ordL L)) := HO.out.below hb
    replace HS : Hid (BxC sb [.int .i64 z0.1, .int .i64 z0.2] 30 w8) := HS.out.below hb
    clear hb
    clear y0 y1
    go_wp2
    go_ret
    exact ⟨rfl, hb01.trans (HM.out.bel.mono hb01.size)⟩
  · rw [hh]
    clear x0 x1
    obtain ⟨og2, oc2, eo, hoc, hcs, _⟩ := HO.out.cells stCells_len hN
    injection eo with eo1 eo2 eo3
    injection eo1 with eo1
    injection eo1 with eo1
    subst eo1
    rw [← er] at hcs
    have HZ0 : Hid (w7.cell? ⟨og, N * 2, none⟩ = some (.int .i64 r.1)) := hcs 0 _ rfl
    have HZ1 : Hid (w7.cell? ⟨og, N * 2 + 1, none⟩ = some (.int .i64 r.2)) := hcs 1 _ rfl
    have HGl : Hid (og < w7.heap.size) := cell_lt HZ0.out
    have HY0 : Hid (w7.cell? ⟨sb, 0, none⟩ = some (.int .i64 r.1)) := HS.out.cell 0 _ rfl
    have HY1 : Hid (w7.cell? ⟨sb, 1, none⟩ = some (.int .i64 r.2)) := HS.out.cell 1 _ rfl
    have HSl : Hid (sb < w7.heap.size) := cell_lt HY0.out
    have hll := HLn.out
    have n1 : (0 : Int) ≤ (N : Int) := by omega
    have n2 : (0 : Int) ≤ (N : Int) + 1 := by omega
    have n3 : (0 : Int) < (N : Int) + 1 := by omega
    have n4 : (N : Int) < ((ordL L).length : Int) := by omega
    have n6 : IntKind.i64.wrap (N : Int) = (N : Int) := by rw [IntKind.wrap_i64]; omega
    have n5 : IntKind.i64.wrap ((N : Int) + 1 - 1) = (N : Int) := by rw [IntKind.wrap_i64]; omega
    clear er hcs hoc eo2 eo3 hh
    go_wp2_with fail
    refine wp_region_held_drew (S := fun W' => Below w7.heap.size w7 W') (by kernel_rfl) (Below.refl _ _).drew (fun hHeld => ?_)
    obtain ⟨Ua11u0, eW⟩ : ∃ X, X = w7.drew := ⟨_, rfl⟩
    have hb : Below w7.heap.size w7 Ua11u0 := by rw [eW]; exact (Below.refl _ _).drew
    replace HM : Hid (LdS W0 rb F (.slice (some ⟨b, o, none⟩) L.length c) L L Ua11u0) := HM.out.below hb
    rw [← eW] at hHeld ⊢
    clear eW hb
    refine tkW 0 (some 42) (v := ?_) ?_ hHeld ?_
    rotate_left
    · (intro ww hSw; (try dsimp only at hSw); have hbw := hSw; have y0 := (hbw.cell (p := ⟨sb, 0, none⟩) HSl.out).trans HY0.out; have y1 := (hbw.cell (p := ⟨sb, 1, none⟩) HSl.out).trans HY1.out; have q0 := (hbw.cell (p := ⟨og, N * 2, none⟩) HGl.out).trans HZ0.out; have q1 := (hbw.cell (p := ⟨og, N * 2 + 1, none⟩) HGl.out).trans HZ1.out; go_simp; try with_reducible rfl)
    refine tkW 1 (some 43) (v := ?_) ?_ hHeld ?_
    rotate_left
    · (intro ww _; go_simp; try with_reducible rfl)
    refine tkW 2 (some 44) (v := ?_) ?_ hHeld ?_
    rotate_left
    · (intro ww _; go_simp; try with_reducible rfl)
    refine tkW 3 (some 45) (v := .int .i64 (N : Int)) ?_ hHeld ?_
    · (intro ww hSw; (try dsimp only at hSw); have hbw := hSw; have y0 := (hbw.cell (p := ⟨sb, 0, none⟩) HSl.out).trans HY0.out; have y1 := (hbw.cell (p := ⟨sb, 1, none⟩) HSl.out).trans HY1.out; have q0 := (hbw.cell (p := ⟨og, N * 2, none⟩) HGl.out).trans HZ0.out; have q1 := (hbw.cell (p := ⟨og, N * 2 + 1, none⟩) HGl.out).trans HZ1.out; go_simp; try with_reducible rfl)
    refine tkW 4 (some 46) (v := ?_) ?_ hHeld ?_
    rotate_left
    · (intro ww hSw; (try dsimp only at hSw); have hbw := hSw; have y0 := (hbw.cell (p := ⟨sb, 0, none⟩) HSl.out).trans HY0.out; have y1 := (hbw.cell (p := ⟨sb, 1, none⟩) HSl.out).trans HY1.out; have q0 := (hbw.cell (p := ⟨og, N * 2, none⟩) HGl.out).trans HZ0.out; have q1 := (hbw.cell (p := ⟨og, N * 2 + 1, none⟩) HGl.out).trans HZ1.out; go_simp; try with_reducible rfl)
    refine tkW 5 (some 47) (v := ?_) ?_ hHeld ?_
    rotate_left
    · (intro ww hSw; (try dsimp only at hSw); have hbw := hSw; have y0 := (hbw.cell (p := ⟨sb, 0, none⟩) HSl.out).trans HY0.out; have y1 := (hbw.cell (p := ⟨sb, 1, none⟩) HSl.out).trans HY1.out; have q0 := (hbw.cell (p := ⟨og, N * 2, none⟩) HGl.out).trans HZ0.out; have q1 := (hbw.cell (p := ⟨og, N * 2 + 1, none⟩) HGl.out).trans HZ1.out; go_simp; try with_reducible rfl)
    refine tkW 6 (some 48) (v := .bool true) ?_ hHeld ?_
    · (intro ww hSw; (try dsimp only at hSw); have hbw := hSw; have y0 := (hbw.cell (p := ⟨sb, 0, none⟩) HSl.out).trans HY0.out; have y1 := (hbw.cell (p := ⟨sb, 1, none⟩) HSl.out).trans HY1.out; have q0 := (hbw.cell (p := ⟨og, N * 2, none⟩) HGl.out).trans HZ0.out; have q1 := (hbw.cell (p := ⟨og, N * 2 + 1, none⟩) HGl.out).trans HZ1.out; go_simp; try simp)
    refine tkW 7 (some 49) (v := ?_) ?_ hHeld ?_
    rotate_left
    · (intro ww _; go_simp; try with_reducible rfl)
    refine wpAnyH_ready (rs := [8]) (by kernel_rfl) (by simp) ?_
    refine AllReadyH.cons (o := ⟨some 50, _, _, _, _, _⟩) rfl (fun K hK => ?_) AllReadyH.nil
    go_simp
    refine (awake_any _).mono ?_
    rintro e Ua11u1 ⟨rfl, hb⟩
    (try go_wp2_with fail)
    refine hK.out _ _ (hHeld.trans (hb.mono hHeld.size)) (fun hHeld2 => ?_)
    clear hK K hHeld
    have hHeld := hHeld2
    clear hHeld2
    (try simp only [Act.put, List.setIfInBounds_toArray, List.set_cons_zero, List.set_cons_succ])
    replace HM : Hid (LdS W0 rb F (.slice (some ⟨b, o, none⟩) L.length c) L L Ua11u1) := HM.out.below hb
    clear hb
    refine tkW 9 (some 51) (v := ?_) ?_ hHeld ?_
    rotate_left
    · (intro ww _; go_simp; try with_reducible rfl)
    refine tkW 10 (some 4) (v := ?_) ?_ hHeld ?_
    rotate_left
    · (intro ww _; go_simp; try with_reducible rfl)
    refine wpAnyH_done (by kernel_rfl) ?_ _
    clear hHeld
    go_wp2
    go_ret
    exact ⟨rfl, hb01.trans (HM.out.bel.mono hb01.size)⟩

end Go.Proofs.Ytmclnlpbogmbnaa
