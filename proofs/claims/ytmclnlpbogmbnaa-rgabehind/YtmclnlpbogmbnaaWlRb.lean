/- RgaBehind: a slot stands behind its After, and all between are later. -/
import Derived.Test.YtmclnlpbogmbnaaRdP
namespace Go.Proofs.Ytmclnlpbogmbnaa
open Go.RowKit
set_option linter.unusedVariables false
set_option linter.unusedSimpArgs false

theorem behind_places {L : List Sl} (h : GoodL L) {s : Sl} (hs : s ∈ L) {n1 n2 : Int} (h1 : PlR (ordL L) s.ts n1) (h2 : PlR (ordL L) s.af n2) :
    ∃ N1 : Nat, n1 = (N1 : Int) ∧ N1 < (ordL L).length ∧ ((hasL L s.af = false ∧ n2 = -1 ∧ ∀ k (hk : k < (ordL L).length), 0 ≤ k → k < N1 → ltS s.ts (ordL L)[k] = true) ∨ (hasL L s.af = true ∧ ∃ R : Nat, n2 = (R : Int) ∧ R + 1 ≤ N1 ∧ ∀ k (hk : k < (ordL L).length), R + 1 ≤ k → k < N1 → ltS s.ts (ordL L)[k] = true)) := by
  obtain ⟨p, q, e, hc⟩ := ord_behind h hs
  have hnd := ord_nodup h
  have hp : s.ts ∉ p := fun hm => by
    rw [e, List.nodup_append] at hnd
    exact hnd.2.2 _ hm _ (List.mem_cons_self ..) rfl
  rcases h1 with ⟨p1, q1, e1, np1, rfl⟩ | ⟨h1, _⟩
  · obtain ⟨rfl, rfl⟩ := nodup_split e e1 hp np1
    refine ⟨p.length, rfl, by rw [e]; simp, ?_⟩
    rcases hc with ⟨hf, hy⟩ | ⟨ht, r, m, rfl, hy⟩
    · refine .inl ⟨hf, ?_, fun k hk _ hkn => ?_⟩
      · rcases h2 with ⟨p2, q2, e2, _⟩ | ⟨_, e2⟩
        · have : s.af ∈ ordL L := by rw [e2]; simp
          rw [mem_ord h, hf] at this
          cases this
        · exact e2
      · refine hy _ ?_
        have : (ordL L)[k] = p[k] := by simp only [e]; exact List.getElem_append_left hkn
        rw [this]
        exact List.getElem_mem hkn
    · refine .inr ⟨ht, r.length, ?_, by simp, fun k hk hkr hkn => ?_⟩
      · rcases h2 with ⟨p2, q2, e2, np2, rfl⟩ | ⟨h2, _⟩
        · have hr : s.af ∉ r := fun hm => by
            rw [e, List.append_assoc, List.nodup_append] at hnd
            exact hnd.2.2 _ hm _ (by simp) rfl
          obtain ⟨rfl, _⟩ := nodup_split (q := m ++ s.ts :: q) (by rw [e]; simp) e2 hr np2
          rfl
        · exact absurd ((mem_ord h).2 ht) h2
      · refine hy _ ?_
        have hkn2 : k < r.length + (m.length + 1) := by simpa using hkn
        have : (ordL L)[k] = m[k - (r.length + 1)]'(by omega) := by
          simp only [e, List.append_assoc, List.cons_append]
          rw [List.getElem_append_right (by omega)]
          rw [List.getElem_cons]
          rw [dif_neg (by omega)]
          rw [List.getElem_append_left (by omega)]
          congr 1
        rw [this]
        exact List.getElem_mem _
  · have : s.ts ∈ ordL L := by rw [e]; simp
    exact absurd this h1

set_option maxRecDepth 100000 in
set_option maxHeartbeats 8000000 in
theorem rgaBehind_walk (v : Value) (l : List Sl) (w : World) (h : IsSl w v l) :
    Calls Try.prog 8 #[v] w fun e w' => e = .returned (.bool true) ∧ Below w.heap.size w w' := by
  have HLs : Hid (IsSl w v l) := h
  obtain ⟨a1, c1, e1⟩ := h.form
  subst e1
  clear h
  go_enter Try.func8, Try.ntmps8
  go_wp2_with fail
  refine (laid_any _ l _ HLs.out).mono ?_
  rintro e w1 ⟨rb, F, b, o, c, rfl, hM⟩
  have HG : Hid (GoodL (laidL l)) := hM.row.good
  have HLn0 : Hid ((laidL l).length ≤ 120) := laidL_len l
  obtain ⟨L, eL⟩ : ∃ L, L = laidL l := ⟨_, rfl⟩
  rw [← eL] at hM HG HLn0
  rw [← eL]
  clear eL HLs
  have HLe : Hid ((ordL L).length = L.length) := ord_length HG.out
  have HLn : Hid ((ordL L).length ≤ 120) := by (show _ ≤ _; rw [HLe.out]; exact HLn0.out)
  have HM : Hid (LdS w rb F (.slice (some ⟨b, o, none⟩) L.length c) L L w1) := hM
  clear hM
  go_wp2_with fail
  refine (order_any F _ L _ HM.out.rv).mono ?_
  rintro e w2 ⟨u, rfl, ho, hb⟩
  replace HM : Hid (LdS w rb F (.slice (some ⟨b, o, none⟩) L.length c) L L w2) := HM.out.below hb
  obtain ⟨oa, oc, eo⟩ := ho.form
  subst eo
  obtain ⟨ob, eob⟩ : ∃ x, x = w1.heap.size := ⟨_, rfl⟩
  rw [← eob] at ho
  have HO : Hid (OwnSt ob w2 (.slice oa (ordL L).length oc) (ordL L)) := ho
  clear ho hb eob
  have hlL : L.length ≤ 120 := HLn0.out
  have hlO : (ordL L).length ≤ 120 := HLn.out
  go_wp2
  go_loopw [6, 7, 8, 9] (fun iv _ _ _ wr => ∃ i : Nat, i ≤ L.length ∧ iv = .int .i64 (i : Int) ∧ Hid (LdS w rb F (.slice (some ⟨b, o, none⟩) L.length c) L L wr) ∧ Hid (OwnSt ob wr (.slice oa (ordL L).length oc) (ordL L))) (fun iv _ _ _ _ => L.length - (intOf iv).toNat)
  case atStart => exact ⟨0, Nat.zero_le _, rfl, HM, HO⟩
  case round =>
    clear HM HO
    obtain ⟨i, hi0, rfl, HM, HO⟩ := hrel
    by_cases hil : i < L.length
    · obtain ⟨s, es⟩ : ∃ s, s = L[i] := ⟨_, rfl⟩
      have HSe : Hid (s = L[i]) := es
      have HSm : Hid (s ∈ L) := by (show _ ∈ _; rw [es]; exact List.getElem_mem hil)
      have k1 : (i : Int) < (L.length : Int) := by omega
      have k0 : (0 : Int) ≤ (i : Int) := by omega
      clear es
      have hr := HM.out.doc.ls.at4 (Below.refl _ _) hil HSe.out
      have d0 : wr.cell? ⟨b, o + i * 4, none⟩ = some (.int .i64 s.ts.1) := hr 0 _ rfl
      have d1 : wr.cell? ⟨b, o + i * 4 + 1, none⟩ = some (.int .i64 s.ts.2) := hr 1 _ rfl
      have d2 : wr.cell? ⟨b, o + i * 4 + 2, none⟩ = some (.int .i64 s.af.1) := hr 2 _ rfl
      have d3 : wr.cell? ⟨b, o + i * 4 + 3, none⟩ = some (.int .i64 s.af.2) := hr 3 _ rfl
      clear hr
      go_wp2_with fail
      clear d0 d1 d2 d3
      refine (refPlace_any (fun _ => True) _ (ordL L) s.ts _ (HO.out.lsE stCells_len (by have := HLn.out; omega) fun _ _ => trivial)).mono ?_
      rintro e w3 ⟨n1, rfl, hp1, hb⟩
      replace HM : Hid (LdS w rb F (.slice (some ⟨b, o, none⟩) L.length c) L L w3) := HM.out.below hb
      replace HO : Hid (OwnSt ob w3 (.slice oa (ordL L).length oc) (ordL L)) := HO.out.below hb
      clear hb
      have HP1 : Hid (PlR (ordL L) s.ts n1) := hp1
      clear hp1
      have hr := HM.out.doc.ls.at4 (Below.refl _ _) hil HSe.out
      have d0 : w3.cell? ⟨b, o + i * 4, none⟩ = some (.int .i64 s.ts.1) := hr 0 _ rfl
      have d1 : w3.cell? ⟨b, o + i * 4 + 1, none⟩ = some (.int .i64 s.ts.2) := hr 1 _ rfl
      have d2 : w3.cell? ⟨b, o + i * 4 + 2, none⟩ = some (.int .i64 s.af.1) := hr 2 _ rfl
      have d3 : w3.cell? ⟨b, o + i * 4 + 3, none⟩ = some (.int .i64 s.af.2) := hr 3 _ rfl
      clear hr
      go_wp2_with fail
      clear d0 d1 d2 d3
      refine (refPlace_any (fun _ => True) _ (ordL L) s.af _ (HO.out.lsE stCells_len (by have := HLn.out; omega) fun _ _ => trivial)).mono ?_
      rintro e w4 ⟨n2, rfl, hp2, hb⟩
      replace HM : Hid (LdS w rb F (.slice (some ⟨b, o, none⟩) L.length c) L L w4) := HM.out.below hb
      replace HO : Hid (OwnSt ob w4 (.slice oa (ordL L).length oc) (ordL L)) := HO.out.below hb
      clear hb
      have hbp := behind_places HG.out HSm.out HP1.out hp2
      clear hp2 HP1
      obtain ⟨N1, rfl, hN1, hcs⟩ := hbp
      have hr := HM.out.doc.ls.at4 (Below.refl _ _) hil HSe.out
      have d0 : w4.cell? ⟨b, o + i * 4, none⟩ = some (.int .i64 s.ts.1) := hr 0 _ rfl
      have d1 : w4.cell? ⟨b, o + i * 4 + 1, none⟩ = some (.int .i64 s.ts.2) := hr 1 _ rfl
      have d2 : w4.cell? ⟨b, o + i * 4 + 2, none⟩ = some (.int .i64 s.af.1) := hr 2 _ rfl
      have d3 : w4.cell? ⟨b, o + i * 4 + 3, none⟩ = some (.int .i64 s.af.2) := hr 3 _ rfl
      clear hr
      have n0 : ¬ ((N1 : Int) < 0) := by omega
      rcases hcs with ⟨hf, rfl, hall⟩ | ⟨hf, R, rfl, hRN, hall⟩
      · have HAll : Hid (∀ k (hk : k < (ordL L).length), 0 ≤ k → k < N1 → ltS s.ts (ordL L)[k] = true) := hall
        have HF : Hid (hasL L s.af = false) := hf
        clear hall hf
        have n2 : ¬ ((N1 : Int) ≤ -1) := by omega
        have HK0 : 0 ≤ N1 := Nat.zero_le _
        go_wp2_with fail
        clear d0 d1 d2 d3
        refine (refHas_any (fun _ => True) _ L s.af _ (HM.out.doc.ls.mono fun _ _ => trivial)).mono ?_
        rintro e w5 ⟨rfl, hb⟩
        replace HM : Hid (LdS w rb F (.slice (some ⟨b, o, none⟩) L.length c) L L w5) := HM.out.below hb
        replace HO : Hid (OwnSt ob w5 (.slice oa (ordL L).length oc) (ordL L)) := HO.out.below hb
        clear hb
        rw [HF.out]
        go_wp2
        go_loopw [9] (fun kv wr2 => ∃ k : Nat, 0 ≤ k ∧ k ≤ N1 ∧ kv = .int .i64 (k : Int) ∧ Hid (LdS w rb F (.slice (some ⟨b, o, none⟩) L.length c) L L wr2) ∧ Hid (OwnSt ob wr2 (.slice oa (ordL L).length oc) (ordL L))) (fun kv _ => N1 - (intOf kv).toNat)
        case atStart => exact ⟨0, Nat.le_refl _, HK0, by (first | rfl | go_num), HM, HO⟩
        case round =>
          rename World => wr2
          clear HM HO
          obtain ⟨k, hk0, hkn, rfl, HM, HO⟩ := hrel
          by_cases hkN : k < N1
          · have hkl : k < (ordL L).length := Nat.lt_trans hkN hN1
            have HLt : Hid (ltS s.ts (ordL L)[k] = true) := HAll.out k hkl hk0 hkN
            obtain ⟨og, oc2, eo, hoc, hcs, _⟩ := HO.out.cells stCells_len hkl
            injection eo with eo1 eo2 eo3
            subst eo1
            subst eo3
            have HZ0 : Hid (wr2.cell? ⟨og, k * 2, none⟩ = some (.int .i64 (ordL L)[k].1)) := hcs 0 _ rfl
            have HZ1 : Hid (wr2.cell? ⟨og, k * 2 + 1, none⟩ = some (.int .i64 (ordL L)[k].2)) := hcs 1 _ rfl
            have HGl : Hid (og < wr2.heap.size) := cell_lt HZ0.out
            have hr := HM.out.doc.ls.at4 (Below.refl _ _) hil HSe.out
            have HQ0 : Hid (wr2.cell? ⟨b, o + i * 4, none⟩ = some (.int .i64 s.ts.1)) := hr 0 _ rfl
            have HQ1 : Hid (wr2.cell? ⟨b, o + i * 4 + 1, none⟩ = some (.int .i64 s.ts.2)) := hr 1 _ rfl
            have HQl : Hid (b < wr2.heap.size) := cell_lt HQ0.out
            have kk1 : (k : Int) < (N1 : Int) := by omega
            have kk2 : (k : Int) < ((ordL L).length : Int) := by omega
            have kk3 : (0 : Int) ≤ (k : Int) := by omega
            clear hr hcs hoc eo2
            go_wp2_with fail
            refine wp_region_held_drew (S := fun W' => Below wr2.heap.size wr2 W') (by kernel_rfl) (Below.refl _ _).drew (fun hHeld => ?_)
            obtain ⟨Ub11u0, eW⟩ : ∃ X, X = wr2.drew := ⟨_, rfl⟩
            have hb : Below wr2.heap.size wr2 Ub11u0 := by rw [eW]; exact (Below.refl _ _).drew
            replace HM : Hid (LdS w rb F (.slice (some ⟨b, o, none⟩) L.length c) L L Ub11u0) := HM.out.below hb
            replace HO : Hid (OwnSt ob Ub11u0 (.slice (some ⟨og, 0, none⟩) (ordL L).length oc) (ordL L)) := HO.out.below hb
            rw [← eW] at hHeld ⊢
            clear eW hb
            refine tkW 0 (some 63) (v := ?_) ?_ hHeld ?_
            rotate_left
            · (intro ww _; go_simp; try with_reducible rfl)
            refine tkW 1 (some 64) (v := ?_) ?_ hHeld ?_
            rotate_left
            · (intro ww _; go_simp; try with_reducible rfl)
            refine tkW 2 (some 65) (v := ?_) ?_ hHeld ?_
            rotate_left
            · (intro ww hSw; (try dsimp only at hSw); have hbw := hSw; have q0 := (hbw.cell (p := ⟨b, o + i * 4, none⟩) HQl.out).trans HQ0.out; have q1 := (hbw.cell (p := ⟨b, o + i * 4 + 1, none⟩) HQl.out).trans HQ1.out; have z0 := (hbw.cell (p := ⟨og, k * 2, none⟩) HGl.out).trans HZ0.out; have z1 := (hbw.cell (p := ⟨og, k * 2 + 1, none⟩) HGl.out).trans HZ1.out; go_simp; try with_reducible rfl)
            refine tkW 3 (some 66) (v := ?_) ?_ hHeld ?_
            rotate_left
            · (intro ww _; go_simp; try with_reducible rfl)
            refine tkW 4 (some 67) (v := ?_) ?_ hHeld ?_
            rotate_left
            · (intro ww hSw; (try dsimp only at hSw); have hbw := hSw; have q0 := (hbw.cell (p := ⟨b, o + i * 4, none⟩) HQl.out).trans HQ0.out; have q1 := (hbw.cell (p := ⟨b, o + i * 4 + 1, none⟩) HQl.out).trans HQ1.out; have z0 := (hbw.cell (p := ⟨og, k * 2, none⟩) HGl.out).trans HZ0.out; have z1 := (hbw.cell (p := ⟨og, k * 2 + 1, none⟩) HGl.out).trans HZ1.out; go_simp; try with_reducible rfl)
            refine tkW 5 (some 68) (v := ?_) ?_ hHeld ?_
            rotate_left
            · (intro ww _; go_simp; try with_reducible rfl)
            refine tkW 6 (some 69) (v := ?_) ?_ hHeld ?_
            rotate_left
            · (intro ww _; go_simp; try with_reducible rfl)
            refine tkW 7 (some 70) (v := ?_) ?_ hHeld ?_
            rotate_left
            · (intro ww hSw; (try dsimp only at hSw); have hbw := hSw; have q0 := (hbw.cell (p := ⟨b, o + i * 4, none⟩) HQl.out).trans HQ0.out; have q1 := (hbw.cell (p := ⟨b, o + i * 4 + 1, none⟩) HQl.out).trans HQ1.out; have z0 := (hbw.cell (p := ⟨og, k * 2, none⟩) HGl.out).trans HZ0.out; have z1 := (hbw.cell (p := ⟨og, k * 2 + 1, none⟩) HGl.out).trans HZ1.out; go_simp; try with_reducible rfl)
            refine tkW 8 (some 71) (v := ?_) ?_ hHeld ?_
            rotate_left
            · (intro ww hSw; (try dsimp only at hSw); have hbw := hSw; have q0 := (hbw.cell (p := ⟨b, o + i * 4, none⟩) HQl.out).trans HQ0.out; have q1 := (hbw.cell (p := ⟨b, o + i * 4 + 1, none⟩) HQl.out).trans HQ1.out; have z0 := (hbw.cell (p := ⟨og, k * 2, none⟩) HGl.out).trans HZ0.out; have z1 := (hbw.cell (p := ⟨og, k * 2 + 1, none⟩) HGl.out).trans HZ1.out; go_simp; try with_reducible rfl)
            refine wpAnyH_ready (rs := [9]) (by kernel_rfl) (by simp) ?_
            refine AllReadyH.cons (o := ⟨some 72, _, _, _, _, _⟩) rfl (fun K hK => ?_) AllReadyH.nil
            go_simp
            refine (S.refLess_bel _ _ _ _ _).mono ?_
            rintro e Ub11u1 ⟨rfl, hb⟩
            (try go_wp2_with fail)
            refine hK.out _ _ (hHeld.trans (hb.mono hHeld.size)) (fun hHeld2 => ?_)
            clear hK K hHeld
            have hHeld := hHeld2
            clear hHeld2
            (try simp only [Act.put, List.setIfInBounds_toArray, List.set_cons_zero, List.set_cons_succ])
            replace HM : Hid (LdS w rb F (.slice (some ⟨b, o, none⟩) L.length c) L L Ub11u1) := HM.out.below hb
            replace HO : Hid (OwnSt ob Ub11u1 (.slice (some ⟨og, 0, none⟩) (ordL L).length oc) (ordL L)) := HO.out.below hb
            clear hb
            refine tkW 10 (some 73) (v := ?_) ?_ hHeld ?_
            rotate_left
            · (intro ww _; go_simp; try with_reducible rfl)
            refine wpAnyH_done (by kernel_rfl) ?_ _
            clear hHeld
            have hls : lessS s.ts.1 s.ts.2 (ordL L)[k].1 (ordL L)[k].2 = true := HLt.out
            rw [hls]
            clear hls
            go_wp2
            go_roundw
            case rel => first | exact ⟨k + 1, by omega, by omega, by go_num, HM, HO⟩ | (refine ⟨_, _, _, _, _, _, _, _, _, _, _, _, _, _, _, _, _, _, ⟨k + 1, by omega, by omega, ?_, HM, HO⟩, rfl⟩; go_num)
            case measure => simp [intOf]; omega
          · obtain rfl : k = N1 := by omega
            go_wp2
            go_roundw
            case rel => exact ⟨i + 1, by omega, by go_num, HM, HO⟩
            case measure => simp [intOf]; omega
      · have HAll : Hid (∀ k (hk : k < (ordL L).length), R + 1 ≤ k → k < N1 → ltS s.ts (ordL L)[k] = true) := hall
        have HF : Hid (hasL L s.af = true) := hf
        clear hall hf
        have n2 : ¬ ((N1 : Int) ≤ (R : Int)) := by omega
        have n3 : (0 : Int) ≤ (R : Int) := by omega
        have n4 : ¬ N1 ≤ R := by omega
        have HK0 : R + 1 ≤ N1 := hRN
        go_wp2_with fail
        clear d0 d1 d2 d3
        refine (refHas_any (fun _ => True) _ L s.af _ (HM.out.doc.ls.mono fun _ _ => trivial)).mono ?_
        rintro e w5 ⟨rfl, hb⟩
        replace HM : Hid (LdS w rb F (.slice (some ⟨b, o, none⟩) L.length c) L L w5) := HM.out.below hb
        replace HO : Hid (OwnSt ob w5 (.slice oa (ordL L).length oc) (ordL L)) := HO.out.below hb
        clear hb
        rw [HF.out]
        go_wp2
        go_loopw [9] (fun kv wr2 => ∃ k : Nat, R + 1 ≤ k ∧ k ≤ N1 ∧ kv = .int .i64 (k : Int) ∧ Hid (LdS w rb F (.slice (some ⟨b, o, none⟩) L.length c) L L wr2) ∧ Hid (OwnSt ob wr2 (.slice oa (ordL L).length oc) (ordL L))) (fun kv _ => N1 - (intOf kv).toNat)
        case atStart => exact ⟨R + 1, Nat.le_refl _, HK0, by (first | rfl | go_num), HM, HO⟩
        case round =>
          rename World => wr2
          clear HM HO
          obtain ⟨k, hk0, hkn, rfl, HM, HO⟩ := hrel
          by_cases hkN : k < N1
          · have hkl : k < (ordL L).length := Nat.lt_trans hkN hN1
            have HLt : Hid (ltS s.ts (ordL L)[k] = true) := HAll.out k hkl hk0 hkN
            obtain ⟨og, oc2, eo, hoc, hcs, _⟩ := HO.out.cells stCells_len hkl
            injection eo with eo1 eo2 eo3
            subst eo1
            subst eo3
            have HZ0 : Hid (wr2.cell? ⟨og, k * 2, none⟩ = some (.int .i64 (ordL L)[k].1)) := hcs 0 _ rfl
            have HZ1 : Hid (wr2.cell? ⟨og, k * 2 + 1, none⟩ = some (.int .i64 (ordL L)[k].2)) := hcs 1 _ rfl
            have HGl : Hid (og < wr2.heap.size) := cell_lt HZ0.out
            have hr := HM.out.doc.ls.at4 (Below.refl _ _) hil HSe.out
            have HQ0 : Hid (wr2.cell? ⟨b, o + i * 4, none⟩ = some (.int .i64 s.ts.1)) := hr 0 _ rfl
            have HQ1 : Hid (wr2.cell? ⟨b, o + i * 4 + 1, none⟩ = some (.int .i64 s.ts.2)) := hr 1 _ rfl
            have HQl : Hid (b < wr2.heap.size) := cell_lt HQ0.out
            have kk1 : (k : Int) < (N1 : Int) := by omega
            have kk2 : (k : Int) < ((ordL L).length : Int) := by omega
            have kk3 : (0 : Int) ≤ (k : Int) := by omega
            clear hr hcs hoc eo2
            go_wp2_with fail
            refine wp_region_held_drew (S := fun W' => Below wr2.heap.size wr2 W') (by kernel_rfl) (Below.refl _ _).drew (fun hHeld => ?_)
            obtain ⟨Ub12u0, eW⟩ : ∃ X, X = wr2.drew := ⟨_, rfl⟩
            have hb : Below wr2.heap.size wr2 Ub12u0 := by rw [eW]; exact (Below.refl _ _).drew
            replace HM : Hid (LdS w rb F (.slice (some ⟨b, o, none⟩) L.length c) L L Ub12u0) := HM.out.below hb
            replace HO : Hid (OwnSt ob Ub12u0 (.slice (some ⟨og, 0, none⟩) (ordL L).length oc) (ordL L)) := HO.out.below hb
            rw [← eW] at hHeld ⊢
            clear eW hb
            refine tkW 0 (some 63) (v := ?_) ?_ hHeld ?_
            rotate_left
            · (intro ww _; go_simp; try with_reducible rfl)
            refine tkW 1 (some 64) (v := ?_) ?_ hHeld ?_
            rotate_left
            · (intro ww _; go_simp; try with_reducible rfl)
            refine tkW 2 (some 65) (v := ?_) ?_ hHeld ?_
            rotate_left
            · (intro ww hSw; (try dsimp only at hSw); have hbw := hSw; have q0 := (hbw.cell (p := ⟨b, o + i * 4, none⟩) HQl.out).trans HQ0.out; have q1 := (hbw.cell (p := ⟨b, o + i * 4 + 1, none⟩) HQl.out).trans HQ1.out; have z0 := (hbw.cell (p := ⟨og, k * 2, none⟩) HGl.out).trans HZ0.out; have z1 := (hbw.cell (p := ⟨og, k * 2 + 1, none⟩) HGl.out).trans HZ1.out; go_simp; try with_reducible rfl)
            refine tkW 3 (some 66) (v := ?_) ?_ hHeld ?_
            rotate_left
            · (intro ww _; go_simp; try with_reducible rfl)
            refine tkW 4 (some 67) (v := ?_) ?_ hHeld ?_
            rotate_left
            · (intro ww hSw; (try dsimp only at hSw); have hbw := hSw; have q0 := (hbw.cell (p := ⟨b, o + i * 4, none⟩) HQl.out).trans HQ0.out; have q1 := (hbw.cell (p := ⟨b, o + i * 4 + 1, none⟩) HQl.out).trans HQ1.out; have z0 := (hbw.cell (p := ⟨og, k * 2, none⟩) HGl.out).trans HZ0.out; have z1 := (hbw.cell (p := ⟨og, k * 2 + 1, none⟩) HGl.out).trans HZ1.out; go_simp; try with_reducible rfl)
            refine tkW 5 (some 68) (v := ?_) ?_ hHeld ?_
            rotate_left
            · (intro ww _; go_simp; try with_reducible rfl)
            refine tkW 6 (some 69) (v := ?_) ?_ hHeld ?_
            rotate_left
            · (intro ww _; go_simp; try with_reducible rfl)
            refine tkW 7 (some 70) (v := ?_) ?_ hHeld ?_
            rotate_left
            · (intro ww hSw; (try dsimp only at hSw); have hbw := hSw; have q0 := (hbw.cell (p := ⟨b, o + i * 4, none⟩) HQl.out).trans HQ0.out; have q1 := (hbw.cell (p := ⟨b, o + i * 4 + 1, none⟩) HQl.out).trans HQ1.out; have z0 := (hbw.cell (p := ⟨og, k * 2, none⟩) HGl.out).trans HZ0.out; have z1 := (hbw.cell (p := ⟨og, k * 2 + 1, none⟩) HGl.out).trans HZ1.out; go_simp; try with_reducible rfl)
            refine tkW 8 (some 71) (v := ?_) ?_ hHeld ?_
            rotate_left
            · (intro ww hSw; (try dsimp only at hSw); have hbw := hSw; have q0 := (hbw.cell (p := ⟨b, o + i * 4, none⟩) HQl.out).trans HQ0.out; have q1 := (hbw.cell (p := ⟨b, o + i * 4 + 1, none⟩) HQl.out).trans HQ1.out; have z0 := (hbw.cell (p := ⟨og, k * 2, none⟩) HGl.out).trans HZ0.out; have z1 := (hbw.cell (p := ⟨og, k * 2 + 1, none⟩) HGl.out).trans HZ1.out; go_simp; try with_reducible rfl)
            refine wpAnyH_ready (rs := [9]) (by kernel_rfl) (by simp) ?_
            refine AllReadyH.cons (o := ⟨some 72, _, _, _, _, _⟩) rfl (fun K hK => ?_) AllReadyH.nil
            go_simp
            refine (S.refLess_bel _ _ _ _ _).mono ?_
            rintro e Ub12u1 ⟨rfl, hb⟩
            (try go_wp2_with fail)
            refine hK.out _ _ (hHeld.trans (hb.mono hHeld.size)) (fun hHeld2 => ?_)
            clear hK K hHeld
            have hHeld := hHeld2
            clear hHeld2
            (try simp only [Act.put, List.setIfInBounds_toArray, List.set_cons_zero, List.set_cons_succ])
            replace HM : Hid (LdS w rb F (.slice (some ⟨b, o, none⟩) L.length c) L L Ub12u1) := HM.out.below hb
            replace HO : Hid (OwnSt ob Ub12u1 (.slice (some ⟨og, 0, none⟩) (ordL L).length oc) (ordL L)) := HO.out.below hb
            clear hb
            refine tkW 10 (some 73) (v := ?_) ?_ hHeld ?_
            rotate_left
            · (intro ww _; go_simp; try with_reducible rfl)
            refine wpAnyH_done (by kernel_rfl) ?_ _
            clear hHeld
            have hls : lessS s.ts.1 s.ts.2 (ordL L)[k].1 (ordL L)[k].2 = true := HLt.out
            rw [hls]
            clear hls
            go_wp2
            go_roundw
            case rel => first | exact ⟨k + 1, by omega, by omega, by go_num, HM, HO⟩ | (refine ⟨_, _, _, _, _, _, _, _, _, _, _, _, _, _, _, _, _, _, ⟨k + 1, by omega, by omega, ?_, HM, HO⟩, rfl⟩; go_num)
            case measure => simp [intOf]; omega
          · obtain rfl : k = N1 := by omega
            go_wp2
            go_roundw
            case rel => exact ⟨i + 1, by omega, by go_num, HM, HO⟩
            case measure => simp [intOf]; omega
    · obtain rfl : i = L.length := by omega
      have hE := HLe.out
      have HB : Hid (Below w.heap.size w wr) := HM.out.bel
      clear HM HO
      go_wp2_with fail
      refine (awake_any _).mono ?_
      rintro e w9 ⟨rfl, hb⟩
      replace HB : Hid (Below w.heap.size w w9) := HB.out.trans (hb.mono HB.out.size)
      clear hb
      go_wp2
      go_ret
      exact ⟨rfl, HB.out⟩

end Go.Proofs.Ytmclnlpbogmbnaa
