/- RgaAdds: what each Add is told, and the order behind each. -/
import Derived.Test.YtmclnlpbogmbnaaRdV
namespace Go.Proofs.Ytmclnlpbogmbnaa
open Go.RowKit
set_option linter.unusedVariables false
set_option linter.unusedSimpArgs false

set_option maxRecDepth 100000 in
set_option maxHeartbeats 8000000 in
theorem rgaAdds_walk (v : Value) (l0 : List Sl) (w : World) (h : IsSl w v l0) :
    Calls Try.prog 3 #[v] w fun e w' => e = .returned (.bool true) ∧ Below w.heap.size w w' := by
  obtain ⟨a1, c1, e1⟩ := h.form
  subst e1
  have HLs0 : Hid (IsSl w (.slice a1 l0.length c1) l0) := h
  clear h
  go_enter Try.func3, Try.ntmps3
  go_wp2_with fail
  refine (new_any _).mono ?_
  rintro e w1 ⟨rb, F0, rfl, hT, hFh, hb1⟩
  obtain ⟨w2, ew2⟩ : ∃ X, X = w1.alloc (.cells #[] 32) := ⟨_, rfl⟩
  have hb2 : Below w1.heap.size w1 w2 := by rw [ew2]; exact (Below.refl _ _).alloc (Nat.le_refl _) _
  have HM0 : Hid (LdS w rb F0 (.slice (some ⟨w1.heap.size, 0, none⟩) 0 0) [] [] w2) := ⟨hT.below hb2, hFh, ⟨LsE.nil _ _ _, _, _, _, rfl⟩, hb1.trans (hb2.mono hb1.size)⟩
  have HeW : Hid (w2 = w1.alloc (.cells #[] 32)) := ew2
  clear hT hFh hb1 hb2 ew2
  go_wp2_with fail
  rw [← HeW.out]
  clear HeW
  refine (cut_any _ l0 _ (HLs0.out.below HM0.out.bel)).mono ?_
  rintro e w' ⟨l, a2, c2, rfl, el, hcut, hw⟩
  replace hw := hw.symm
  subst hw
  have hlen : l.length ≤ 120 := by (rw [el]; simp; omega)
  have HLs : Hid (IsSl w (.slice a2 l.length c2) l) := hcut w HLs0.out
  clear hcut HLs0 el
  go_wp2
  go_loopw [4, 5, 6, 7] (fun dv iv _ _ wr => ∃ (i : Nat) (F : Nat → Prop), iv = .int .i64 (i : Int) ∧ i ≤ l.length ∧ Hid (LdS w rb F dv (laidT (l.take i)) (laidT (l.take i)) wr)) (fun _ iv _ _ _ => l.length - (intOf iv).toNat)
  case atStart => exact ⟨0, F0, rfl, Nat.zero_le _, HM0⟩
  case round =>
    clear HM0
    obtain ⟨i, F, rfl, hil0, HM⟩ := hrel
    obtain ⟨b9, o9, c9, e9⟩ := HM.out.doc.sm
    subst e9
    have HLn : Hid ((laidT (l.take i)).length ≤ 120) := Nat.le_trans (laidT_len l i hil0) (by omega)
    by_cases hlt : i < l.length
    · obtain ⟨b, o, cap, ev, hgb, hbl, hrow⟩ := HLs.out.row4 (i := i) hlt
      injection ev with ev1 ev2 ev3
      subst ev1
      subst ev3
      obtain ⟨s, es⟩ : ∃ s, s = l[i] := ⟨_, rfl⟩
      rw [← es] at hrow
      have HGl : Hid (b < w.heap.size) := hbl
      have HX0 : Hid (w.cell? ⟨b, o + i * 4, none⟩ = some (.int .i64 s.ts.1)) := hrow 0 _ rfl
      have HX1 : Hid (w.cell? ⟨b, o + i * 4 + 1, none⟩ = some (.int .i64 s.ts.2)) := hrow 1 _ rfl
      have HX2 : Hid (w.cell? ⟨b, o + i * 4 + 2, none⟩ = some (.int .i64 s.af.1)) := hrow 2 _ rfl
      have HX3 : Hid (w.cell? ⟨b, o + i * 4 + 3, none⟩ = some (.int .i64 s.af.2)) := hrow 3 _ rfl
      have k1 : (i : Int) < (l.length : Int) := by omega
      have k0 : (0 : Int) ≤ (i : Int) := by omega
      have HNx0 : Hid (laidT (l.take (i + 1)) = addL (laidT (l.take i)) s) := by (show _ = _; rw [laidT_next l i hlt, ← es])
      clear es hrow hbl hgb HLs ev2
      have r0 := (HM.out.bel.cell (p := ⟨b, o + i * 4, none⟩) HGl.out).trans HX0.out
      have r1 := (HM.out.bel.cell (p := ⟨b, o + i * 4 + 1, none⟩) HGl.out).trans HX1.out
      have r2 := (HM.out.bel.cell (p := ⟨b, o + i * 4 + 2, none⟩) HGl.out).trans HX2.out
      have r3 := (HM.out.bel.cell (p := ⟨b, o + i * 4 + 3, none⟩) HGl.out).trans HX3.out
      go_wp2_with fail
      clear r0 r1 r2 r3
      refine (refAdd_any (fun j => ¬ F j ∧ j < wr.heap.size) _ (laidT (l.take i)) s _ HM.out.doc.lo (by have := HLn.out; omega)).mono ?_
      rintro e w8 ⟨v8, rfl, hd, hb⟩
      obtain ⟨L1, eL1⟩ : ∃ L1, L1 = addL (laidT (l.take i)) s := ⟨_, rfl⟩
      have HL1 : Hid (L1 = addL (laidT (l.take i)) s) := eL1
      rw [← eL1] at hd
      have HNx : Hid (laidT (l.take (i + 1)) = L1) := by (show _ = _; rw [HNx0.out]; exact eL1.symm)
      have HLn1 : Hid (L1.length ≤ 121) := by (show _ ≤ _; rw [eL1]; have h1 := addL_length (laidT (l.take i)) s; have h2 := HLn.out; omega)
      have HM8 : Hid (LdS w rb F v8 (laidT (l.take i)) L1 w8) := HM.out.doc2 (hd.mono fun k hk => hk.elim (fun h => h.1) (fun h hF => by have := HM.out.row.lt k hF; omega)) hb
      clear hd hb HM eL1 HNx0
      have HLo : Hid ((ordL L1).length ≤ 121) := by (show _ ≤ _; have hg : GoodL L1 := (by rw [HL1.out]; exact HM8.out.row.good.add s); rw [ord_length hg]; exact HLn1.out)
      obtain ⟨b8, o8, c8, e8⟩ := HM8.out.doc.sm
      subst e8
      have HM : Hid (LdS w rb F (.slice (some ⟨b8, o8, none⟩) L1.length c8) (laidT (l.take i)) L1 w8) := HM8
      clear HM8
      go_wp2_with fail
      refine wp_region_held_drew (S := fun W' => Below w.heap.size w W') (by kernel_rfl) HM.out.bel.drew (fun hHeld => ?_)
      obtain ⟨Ua11u0, eW⟩ : ∃ X, X = w8.drew := ⟨_, rfl⟩
      have hb : Below w8.heap.size w8 Ua11u0 := by rw [eW]; exact (Below.refl _ _).drew
      replace HM : Hid (LdS w rb F (.slice (some ⟨b8, o8, none⟩) L1.length c8) (laidT (l.take i)) L1 Ua11u0) := HM.out.below hb
      rw [← eW] at hHeld ⊢
      clear eW hb
      refine tkW 0 (some 30) (v := ?_) ?_ hHeld ?_
      rotate_left
      · (intro ww _; go_simp; try with_reducible rfl)
      refine tkW 1 (some 31) (v := ?_) ?_ hHeld ?_
      rotate_left
      · (intro ww _; go_simp; try with_reducible rfl)
      refine tkW 2 (some 32) (v := ?_) ?_ hHeld ?_
      rotate_left
      · (intro ww _; go_simp; try with_reducible rfl)
      refine tkW 3 (some 33) (v := ?_) ?_ hHeld ?_
      rotate_left
      · (intro ww hSw; (try dsimp only at hSw); have hbw := hSw; have r0 := (hbw.cell (p := ⟨b, o + i * 4, none⟩) HGl.out).trans HX0.out; have r1 := (hbw.cell (p := ⟨b, o + i * 4 + 1, none⟩) HGl.out).trans HX1.out; have r2 := (hbw.cell (p := ⟨b, o + i * 4 + 2, none⟩) HGl.out).trans HX2.out; have r3 := (hbw.cell (p := ⟨b, o + i * 4 + 3, none⟩) HGl.out).trans HX3.out; go_simp; try with_reducible rfl)
      refine tkW 4 (some 34) (v := ?_) ?_ hHeld ?_
      rotate_left
      · (intro ww _; go_simp; try with_reducible rfl)
      refine tkW 5 (some 35) (v := ?_) ?_ hHeld ?_
      rotate_left
      · (intro ww hSw; (try dsimp only at hSw); have hbw := hSw; have r0 := (hbw.cell (p := ⟨b, o + i * 4, none⟩) HGl.out).trans HX0.out; have r1 := (hbw.cell (p := ⟨b, o + i * 4 + 1, none⟩) HGl.out).trans HX1.out; have r2 := (hbw.cell (p := ⟨b, o + i * 4 + 2, none⟩) HGl.out).trans HX2.out; have r3 := (hbw.cell (p := ⟨b, o + i * 4 + 3, none⟩) HGl.out).trans HX3.out; go_simp; try with_reducible rfl)
      refine tkW 6 (some 36) (v := ?_) ?_ hHeld ?_
      rotate_left
      · (intro ww _; go_simp; try with_reducible rfl)
      refine tkW 7 (some 37) (v := ?_) ?_ hHeld ?_
      rotate_left
      · (intro ww _; go_simp; try with_reducible rfl)
      refine tkW 8 (some 38) (v := ?_) ?_ hHeld ?_
      rotate_left
      · (intro ww hSw; (try dsimp only at hSw); have hbw := hSw; have r0 := (hbw.cell (p := ⟨b, o + i * 4, none⟩) HGl.out).trans HX0.out; have r1 := (hbw.cell (p := ⟨b, o + i * 4 + 1, none⟩) HGl.out).trans HX1.out; have r2 := (hbw.cell (p := ⟨b, o + i * 4 + 2, none⟩) HGl.out).trans HX2.out; have r3 := (hbw.cell (p := ⟨b, o + i * 4 + 3, none⟩) HGl.out).trans HX3.out; go_simp; try with_reducible rfl)
      refine tkW 9 (some 39) (v := ?_) ?_ hHeld ?_
      rotate_left
      · (intro ww _; go_simp; try with_reducible rfl)
      refine tkW 10 (some 40) (v := ?_) ?_ hHeld ?_
      rotate_left
      · (intro ww hSw; (try dsimp only at hSw); have hbw := hSw; have r0 := (hbw.cell (p := ⟨b, o + i * 4, none⟩) HGl.out).trans HX0.out; have r1 := (hbw.cell (p := ⟨b, o + i * 4 + 1, none⟩) HGl.out).trans HX1.out; have r2 := (hbw.cell (p := ⟨b, o + i * 4 + 2, none⟩) HGl.out).trans HX2.out; have r3 := (hbw.cell (p := ⟨b, o + i * 4 + 3, none⟩) HGl.out).trans HX3.out; go_simp; try with_reducible rfl)
      refine tkW 12 (some 42) (v := ?_) ?_ hHeld ?_
      rotate_left
      · (intro ww _; go_simp; try with_reducible rfl)
      refine wpAnyH_ready (rs := [11]) (by kernel_rfl) (by simp) ?_
      refine AllReadyH.cons (o := ⟨some 41, _, _, _, _, _⟩) rfl (fun K hK => ?_) AllReadyH.nil
      go_simp
      refine (add_any F rb (laidT (l.take i)) s _ HM.out.row (by have := HLn.out; omega)).mono ?_
      rintro e Ua11u1 hd
      obtain ⟨he, _⟩ := id hd
      subst he
      (try go_wp2_with fail)
      obtain ⟨F2, hM2⟩ := HM.out.did hd
      rw [← HL1.out] at hM2
      replace HM : Hid (LdS w rb F2 (.slice (some ⟨b8, o8, none⟩) L1.length c8) L1 L1 Ua11u1) := hM2
      clear hd hM2
      refine hK.out _ _ (HM.out.bel) (fun hHeld2 => ?_)
      clear hK K hHeld
      have hHeld := hHeld2
      clear hHeld2
      (try simp only [Act.put, List.setIfInBounds_toArray, List.set_cons_zero, List.set_cons_succ])
      refine tkW 13 (some 43) (v := ?_) ?_ hHeld ?_
      rotate_left
      · (intro ww hSw; (try dsimp only at hSw); have hbw := hSw; have r0 := (hbw.cell (p := ⟨b, o + i * 4, none⟩) HGl.out).trans HX0.out; have r1 := (hbw.cell (p := ⟨b, o + i * 4 + 1, none⟩) HGl.out).trans HX1.out; have r2 := (hbw.cell (p := ⟨b, o + i * 4 + 2, none⟩) HGl.out).trans HX2.out; have r3 := (hbw.cell (p := ⟨b, o + i * 4 + 3, none⟩) HGl.out).trans HX3.out; go_simp; try with_reducible rfl)
      refine tkW 14 (some 44) (v := ?_) ?_ hHeld ?_
      rotate_left
      · (intro ww _; go_simp; try with_reducible rfl)
      refine tkW 15 (some 45) (v := ?_) ?_ hHeld ?_
      rotate_left
      · (intro ww _; go_simp; try with_reducible rfl)
      refine tkW 17 (some 47) (v := ?_) ?_ hHeld ?_
      rotate_left
      · (intro ww _; go_simp; try with_reducible rfl)
      refine tkW 18 (some 48) (v := ?_) ?_ hHeld ?_
      rotate_left
      · (intro ww hSw; (try dsimp only at hSw); have hbw := hSw; have r0 := (hbw.cell (p := ⟨b, o + i * 4, none⟩) HGl.out).trans HX0.out; have r1 := (hbw.cell (p := ⟨b, o + i * 4 + 1, none⟩) HGl.out).trans HX1.out; have r2 := (hbw.cell (p := ⟨b, o + i * 4 + 2, none⟩) HGl.out).trans HX2.out; have r3 := (hbw.cell (p := ⟨b, o + i * 4 + 3, none⟩) HGl.out).trans HX3.out; go_simp; try with_reducible rfl)
      refine wpAnyH_ready (rs := [16]) (by kernel_rfl) (by simp) ?_
      refine AllReadyH.cons (o := ⟨some 46, _, _, _, _, _⟩) rfl (fun K hK => ?_) AllReadyH.nil
      go_simp
      refine (lenIs_any F2 rb L1 _ HM.out.row).mono ?_
      rintro e w9 ⟨rfl, hw⟩
      replace hw := hw.symm
      subst hw
      (try go_wp2_with fail)
      refine hK.out _ _ (hHeld) (fun hHeld2 => ?_)
      clear hK K hHeld
      have hHeld := hHeld2
      clear hHeld2
      (try simp only [Act.put, List.setIfInBounds_toArray, List.set_cons_zero, List.set_cons_succ])
      refine tkW 19 (some 49) (v := ?_) ?_ hHeld ?_
      rotate_left
      · (intro ww hSw; (try dsimp only at hSw); have hbw := hSw; have r0 := (hbw.cell (p := ⟨b, o + i * 4, none⟩) HGl.out).trans HX0.out; have r1 := (hbw.cell (p := ⟨b, o + i * 4 + 1, none⟩) HGl.out).trans HX1.out; have r2 := (hbw.cell (p := ⟨b, o + i * 4 + 2, none⟩) HGl.out).trans HX2.out; have r3 := (hbw.cell (p := ⟨b, o + i * 4 + 3, none⟩) HGl.out).trans HX3.out; go_simp; try with_reducible rfl)
      refine tkW 20 (some 50) (v := ?_) ?_ hHeld ?_
      rotate_left
      · (intro ww _; go_simp; try with_reducible rfl)
      refine tkW 21 (some 51) (v := ?_) ?_ hHeld ?_
      rotate_left
      · (intro ww _; go_simp; try with_reducible rfl)
      refine tkW 22 (some 52) (v := ?_) ?_ hHeld ?_
      rotate_left
      · (intro ww _; go_simp; try with_reducible rfl)
      refine tkW 24 (some 54) (v := ?_) ?_ hHeld ?_
      rotate_left
      · (intro ww _; go_simp; try with_reducible rfl)
      refine wpAnyH_ready (rs := [23]) (by kernel_rfl) (by simp) ?_
      refine AllReadyH.cons (o := ⟨some 53, _, _, _, _, _⟩) rfl (fun K hK => ?_) AllReadyH.nil
      go_simp
      refine (order_any F2 _ L1 _ HM.out.rv).mono ?_
      rintro e Ua11u3 ⟨u, rfl, ho, hb⟩
      obtain ⟨oa, oc, eo⟩ := ho.form
      subst eo
      obtain ⟨ob, eob⟩ : ∃ x, x = Ua11u1.heap.size := ⟨_, rfl⟩
      rw [← eob] at ho
      have HO : Hid (OwnSt ob Ua11u3 (.slice oa (ordL L1).length oc) (ordL L1)) := ho
      clear ho eob
      (try go_wp2_with fail)
      refine hK.out _ _ (hHeld.trans (hb.mono hHeld.size)) (fun hHeld2 => ?_)
      clear hK K hHeld
      have hHeld := hHeld2
      clear hHeld2
      (try simp only [Act.put, List.setIfInBounds_toArray, List.set_cons_zero, List.set_cons_succ])
      replace HM : Hid (LdS w rb F2 (.slice (some ⟨b8, o8, none⟩) L1.length c8) L1 L1 Ua11u3) := HM.out.below hb
      clear hb
      refine wpAnyH_ready (rs := [25]) (by kernel_rfl) (by simp) ?_
      refine AllReadyH.cons (o := ⟨some 55, _, _, _, _, _⟩) rfl (fun K hK => ?_) AllReadyH.nil
      go_simp
      refine (refOrder_any (fun j => ¬ F2 j) _ L1 _ (by have := HLn1.out; omega) HM.out.row.good HM.out.doc).mono ?_
      rintro e Ua11u4 ⟨D, dg, dc, hD, rfl, hd, hb⟩
      obtain ⟨db, edb⟩ : ∃ x, x = Ua11u3.heap.size := ⟨_, rfl⟩
      rw [← edb] at hd
      have HDo : Hid (OwnSl db Ua11u4 (.slice (some ⟨dg, 0, none⟩) D.length dc) D) := hd
      have HD : Hid (D = (bel L1 z0).map (slO L1)) := hD
      clear hd hD edb
      (try go_wp2_with fail)
      refine hK.out _ _ (hHeld.trans (hb.mono hHeld.size)) (fun hHeld2 => ?_)
      clear hK K hHeld
      have hHeld := hHeld2
      clear hHeld2
      (try simp only [Act.put, List.setIfInBounds_toArray, List.set_cons_zero, List.set_cons_succ])
      replace HM : Hid (LdS w rb F2 (.slice (some ⟨b8, o8, none⟩) L1.length c8) L1 L1 Ua11u4) := HM.out.below hb
      replace HO : Hid (OwnSt ob Ua11u4 (.slice oa (ordL L1).length oc) (ordL L1)) := HO.out.below hb
      clear hb
      refine wpAnyH_ready (rs := [26]) (by kernel_rfl) (by simp) ?_
      refine AllReadyH.cons (o := ⟨some 56, _, _, _, _, _⟩) rfl (fun K hK => ?_) AllReadyH.nil
      have hDl : D.length ≤ 4096 := by (rw [HD.out, List.length_map]; exact Nat.le_trans (bel_length HM.out.row.good (.inl rfl)) (by have := HLn1.out; omega))
      go_simp
      refine (refStamps_any (fun _ => True) _ D _ hDl (HDo.out.lsE slCells_len (by omega) fun _ _ => trivial)).mono ?_
      rintro e Ua11u5 ⟨D2, sg, sc, hD2, rfl, hs, hb⟩
      obtain ⟨sb, esb⟩ : ∃ x, x = Ua11u4.heap.size := ⟨_, rfl⟩
      rw [← esb] at hs
      have HSo : Hid (OwnSt sb Ua11u5 (.slice (some ⟨sg, 0, none⟩) D2.length sc) D2) := hs
      have HD2 : Hid (D2 = ordL L1) := by (show _ = _; rw [hD2, HD.out, List.map_map]; exact List.map_id'' (fun _ => rfl) _)
      clear hs hD2 esb hDl
      (try go_wp2_with fail)
      refine hK.out _ _ (hHeld.trans (hb.mono hHeld.size)) (fun hHeld2 => ?_)
      clear hK K hHeld
      have hHeld := hHeld2
      clear hHeld2
      (try simp only [Act.put, List.setIfInBounds_toArray, List.set_cons_zero, List.set_cons_succ])
      replace HM : Hid (LdS w rb F2 (.slice (some ⟨b8, o8, none⟩) L1.length c8) L1 L1 Ua11u5) := HM.out.below hb
      replace HO : Hid (OwnSt ob Ua11u5 (.slice oa (ordL L1).length oc) (ordL L1)) := HO.out.below hb
      replace HDo : Hid (OwnSl db Ua11u5 (.slice (some ⟨dg, 0, none⟩) D.length dc) D) := HDo.out.below hb
      clear hb
      refine wpAnyH_ready (rs := [27]) (by kernel_rfl) (by simp) ?_
      refine AllReadyH.cons (o := ⟨some 57, _, _, _, _, _⟩) rfl (fun K hK => ?_) AllReadyH.nil
      go_simp
      refine (S.same_any _ _ (ordL L1) D2 _ (isS_of (HO.out.lsE (G := fun _ => True) stCells_len (by have := HLo.out; omega) (fun _ _ => trivial))) (isS_of (HSo.out.lsE (G := fun _ => True) stCells_len (by rw [HD2.out]; have := HLo.out; omega) (fun _ _ => trivial)))).mono ?_
      rintro e Ua11u6 ⟨rfl, hb⟩
      rw [decide_eq_true HD2.out.symm]
      (try go_wp2_with fail)
      refine hK.out _ _ (hHeld.trans (hb.mono hHeld.size)) (fun hHeld2 => ?_)
      clear hK K hHeld
      have hHeld := hHeld2
      clear hHeld2
      (try simp only [Act.put, List.setIfInBounds_toArray, List.set_cons_zero, List.set_cons_succ])
      replace HM : Hid (LdS w rb F2 (.slice (some ⟨b8, o8, none⟩) L1.length c8) L1 L1 Ua11u6) := HM.out.below hb
      replace HO : Hid (OwnSt ob Ua11u6 (.slice oa (ordL L1).length oc) (ordL L1)) := HO.out.below hb
      replace HDo : Hid (OwnSl db Ua11u6 (.slice (some ⟨dg, 0, none⟩) D.length dc) D) := HDo.out.below hb
      replace HSo : Hid (OwnSt sb Ua11u6 (.slice (some ⟨sg, 0, none⟩) D2.length sc) D2) := HSo.out.below hb
      clear hb
      refine tkW 28 (some 58) (v := ?_) ?_ hHeld ?_
      rotate_left
      · (intro ww _; go_simp; try with_reducible rfl)
      refine tkW 29 (some 59) (v := ?_) ?_ hHeld ?_
      rotate_left
      · (intro ww _; go_simp; try with_reducible rfl)
      refine wpAnyH_done (by kernel_rfl) ?_ _
      clear hHeld
      go_wp2
      go_roundw
      case rel => exact ⟨i + 1, F2, by go_num, by omega, by (rw [HNx.out]; exact HM)⟩
      case measure => simp [intOf]; omega
    · have HB : Hid (Below w.heap.size w wr) := HM.out.bel
      obtain rfl : i = l.length := by omega
      clear HM
      go_wp2_with fail
      refine (awake_any _).mono ?_
      rintro e w9 ⟨rfl, hb⟩
      replace HB : Hid (Below w.heap.size w w9) := HB.out.trans (hb.mono HB.out.size)
      clear hb
      go_wp2
      go_ret
      exact ⟨rfl, HB.out⟩

end Go.Proofs.Ytmclnlpbogmbnaa
