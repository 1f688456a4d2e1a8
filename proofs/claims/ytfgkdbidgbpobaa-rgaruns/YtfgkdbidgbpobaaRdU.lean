/- The document's under. -/
import Derived.Test.YtfgkdbidgbpobaaRdB
namespace Go.Proofs.Ytfgkdbidgbpobaa
open Go.RowKit
set_option linter.unusedVariables false
set_option linter.unusedSimpArgs false

set_option maxRecDepth 100000 in
set_option maxHeartbeats 16000000 in
theorem refUnder_any (G : Nat → Prop) (v : Value) (L : List Sl) (a : St) (w : World) (h1 : LsN G w v L) (hl : L.length ≤ 4096) (hG : GoodL L) :
    Calls Try.prog 41 #[v, .agg #[.int .i64 a.1, .int .i64 a.2]] w fun e w' => ∃ g c, e = .returned (.slice (some ⟨g, 0, none⟩) (undF L a L).length c) ∧ OwnSl w.heap.size w' (.slice (some ⟨g, 0, none⟩) (undF L a L).length c) (undF L a L) ∧ Below w.heap.size w w' := by
  obtain ⟨h1, b, o, cl, rfl⟩ := h1
  obtain ⟨isl, hisl, hz0sl, hz1sl, hz2sl⟩ := info_parts infoSlot
  obtain ⟨W0, eW⟩ : ∃ X, X = w.alloc (.cells (stCells a).toArray 33) := ⟨_, rfl⟩
  have hb0 : Below w.heap.size w W0 := by rw [eW]; exact (Below.refl _ _).alloc (Nat.le_refl _) _
  have HB0 : Hid (Below w.heap.size w W0) := hb0
  have hx0 : BxC w.heap.size (stCells a) 33 W0 := by rw [eW]; exact BxC.new w _ _
  have HA0 : Hid (W0.cell? ⟨w.heap.size, 0, none⟩ = some (.int .i64 a.1)) := hx0.cell 0 _ rfl
  have HA1 : Hid (W0.cell? ⟨w.heap.size, 1, none⟩ = some (.int .i64 a.2)) := hx0.cell 1 _ rfl
  have HBxl : Hid (w.heap.size < W0.heap.size) := hx0.lt
  have HLs : Hid (LsE slCells 4 G w (.slice (some ⟨b, o, none⟩) L.length cl) L) := h1
  have HL0 : Hid (LsE slCells 4 G W0 (.slice (some ⟨b, o, none⟩) L.length cl) L) := h1.below hb0
  have HNd : Hid (∀ i, ((L.take i).map Sl.ts).Nodup) := fun i => List.Nodup.sublist ((List.take_sublist i L).map _) hG.nod
  have HN0 : Hid (BuR slCells 4 36 W0 (.slice (some ⟨w.heap.size + 1, 0, none⟩) 0 0) ([]) (W0.alloc (.cells #[] 36))) := by
    have h9 := BuR.new W0
    rw [show W0.heap.size = w.heap.size + 1 by rw [eW]; simp] at h9
    exact h9
  clear hx0 h1 hb0
  obtain ⟨bx, ebx⟩ : ∃ b, b = w.heap.size := ⟨_, rfl⟩
  go_enter Try.func41, Try.ntmps41
  go_wp2
  have eW2 := eW
  simp only [stCells] at eW2
  rw [← eW2]
  rw [← ebx] at HA0 HA1 HBxl HN0 ⊢
  clear eW2 eW ebx
  go_loopw [5, 6, 7, 8, 9] (fun ov iv _ _ _ wr => ∃ (i g0 c0 : Nat) (D : List Sl), i ≤ L.length ∧ iv = .int .i64 (i : Int) ∧ Hid (undF L a (L.take i) = D) ∧ ov = .slice (some ⟨g0, 0, none⟩) D.length c0 ∧ Hid (BuR slCells 4 36 W0 (.slice (some ⟨g0, 0, none⟩) D.length c0) (D) wr)) (fun _ iv _ _ _ _ => L.length - (intOf iv).toNat)
  case atStart => exact ⟨0, _, _, [], Nat.zero_le _, rfl, rfl, rfl, HN0⟩
  case round =>
    obtain ⟨i, g0, c0, D, hi, rfl, HDe0, rfl, HBu⟩ := hrel
    have HDe : Hid (D = undF L a (L.take i)) := HDe0.out.symm
    have hdl : D.length ≤ 4096 := by (rw [← HDe0.out]; have h8 := undF_length L a (L.take i) (HNd.out i); simp at h8; omega)
    by_cases hil : i < L.length
    · obtain ⟨s, es⟩ : ∃ s, s = L[i] := ⟨_, rfl⟩
      have HSe : Hid (s = L[i]) := es
      have hr := HL0.out.at4 (Below.refl _ _) hil es
      have HX0 : Hid (W0.cell? ⟨b, o + i * 4, none⟩ = some (.int .i64 s.ts.1)) := hr 0 _ rfl
      have HX1 : Hid (W0.cell? ⟨b, o + i * 4 + 1, none⟩ = some (.int .i64 s.ts.2)) := hr 1 _ rfl
      have HX2 : Hid (W0.cell? ⟨b, o + i * 4 + 2, none⟩ = some (.int .i64 s.af.1)) := hr 2 _ rfl
      have HX3 : Hid (W0.cell? ⟨b, o + i * 4 + 3, none⟩ = some (.int .i64 s.af.2)) := hr 3 _ rfl
      have HBl : Hid (b < W0.heap.size) := cell_lt HX0.out
      have ii1 : (i : Int) < (L.length : Int) := by omega
      have ii0 : (0 : Int) ≤ (i : Int) := by omega
      clear hr es
      go_wp2
      refine wp_region_held_drew (S := fun W' => Below W0.heap.size W0 W') (by kernel_rfl) HBu.out.bel.drew (fun hHeld => ?_)
      obtain ⟨Ua10u0, eW⟩ : ∃ X, X = wr.drew := ⟨_, rfl⟩
      have hb : Below wr.heap.size wr Ua10u0 := by rw [eW]; exact (Below.refl _ _).drew
      replace HBu : Hid (BuR slCells 4 36 W0 (.slice (some ⟨g0, 0, none⟩) D.length c0) (D) Ua10u0) := HBu.out.below hb
      rw [← eW] at hHeld ⊢
      clear eW hb
      refine tkW 0 (some 17) (v := ?_) ?_ hHeld ?_
      rotate_left
      · (intro ww _; go_simp; try with_reducible rfl)
      refine tkW 1 (some 18) (v := ?_) ?_ hHeld ?_
      rotate_left
      · (intro ww _; go_simp; try with_reducible rfl)
      refine tkW 2 (some 19) (v := ?_) ?_ hHeld ?_
      rotate_left
      · (intro ww _; go_simp; try with_reducible rfl)
      refine tkW 3 (some 20) (v := ?_) ?_ hHeld ?_
      rotate_left
      · (intro ww hSw; (try dsimp only at hSw); have hbw := hSw; have l0 := (hbw.cell (p := ⟨b, o + i * 4, none⟩) HBl.out).trans HX0.out; have l1 := (hbw.cell (p := ⟨b, o + i * 4 + 1, none⟩) HBl.out).trans HX1.out; have l2 := (hbw.cell (p := ⟨b, o + i * 4 + 2, none⟩) HBl.out).trans HX2.out; have l3 := (hbw.cell (p := ⟨b, o + i * 4 + 3, none⟩) HBl.out).trans HX3.out; have b0 := (hbw.cell (p := ⟨bx, 0, none⟩) HBxl.out).trans HA0.out; have b1 := (hbw.cell (p := ⟨bx, 1, none⟩) HBxl.out).trans HA1.out; go_simp; try with_reducible rfl)
      refine tkW 4 (some 21) (v := ?_) ?_ hHeld ?_
      rotate_left
      · (intro ww hSw; (try dsimp only at hSw); have hbw := hSw; have l0 := (hbw.cell (p := ⟨b, o + i * 4, none⟩) HBl.out).trans HX0.out; have l1 := (hbw.cell (p := ⟨b, o + i * 4 + 1, none⟩) HBl.out).trans HX1.out; have l2 := (hbw.cell (p := ⟨b, o + i * 4 + 2, none⟩) HBl.out).trans HX2.out; have l3 := (hbw.cell (p := ⟨b, o + i * 4 + 3, none⟩) HBl.out).trans HX3.out; have b0 := (hbw.cell (p := ⟨bx, 0, none⟩) HBxl.out).trans HA0.out; have b1 := (hbw.cell (p := ⟨bx, 1, none⟩) HBxl.out).trans HA1.out; go_simp; try with_reducible rfl)
      refine tkW 6 (some 23) (v := ?_) ?_ hHeld ?_
      rotate_left
      · (intro ww hSw; (try dsimp only at hSw); have hbw := hSw; have l0 := (hbw.cell (p := ⟨b, o + i * 4, none⟩) HBl.out).trans HX0.out; have l1 := (hbw.cell (p := ⟨b, o + i * 4 + 1, none⟩) HBl.out).trans HX1.out; have l2 := (hbw.cell (p := ⟨b, o + i * 4 + 2, none⟩) HBl.out).trans HX2.out; have l3 := (hbw.cell (p := ⟨b, o + i * 4 + 3, none⟩) HBl.out).trans HX3.out; have b0 := (hbw.cell (p := ⟨bx, 0, none⟩) HBxl.out).trans HA0.out; have b1 := (hbw.cell (p := ⟨bx, 1, none⟩) HBxl.out).trans HA1.out; go_simp; try with_reducible rfl)
      refine wpAnyH_ready (rs := [5]) (by kernel_rfl) (by simp) ?_
      refine AllReadyH.cons (o := ⟨some 22, _, _, _, _, _⟩) rfl (fun K hK => ?_) AllReadyH.nil
      go_simp
      refine (refUp_any G _ L s _ (HL0.out.below2 hHeld)).mono ?_
      rintro e Ua10u1 ⟨rfl, hb⟩
      (try go_wp2_with fail)
      refine hK.out _ _ (hHeld.trans (hb.mono hHeld.size)) (fun hHeld2 => ?_)
      clear hK K hHeld
      have hHeld := hHeld2
      clear hHeld2
      (try simp only [Act.put, List.setIfInBounds_toArray, List.set_cons_zero, List.set_cons_succ])
      replace HBu : Hid (BuR slCells 4 36 W0 (.slice (some ⟨g0, 0, none⟩) D.length c0) (D) Ua10u1) := HBu.out.below hb
      clear hb
      refine tkW 7 (some 24) (v := .bool (!decide (((upS L s).1, (upS L s).2) = (a.1, a.2)))) ?_ hHeld ?_
      · (intro ww hSw; (try dsimp only at hSw); have hbw := hSw; have l0 := (hbw.cell (p := ⟨b, o + i * 4, none⟩) HBl.out).trans HX0.out; have l1 := (hbw.cell (p := ⟨b, o + i * 4 + 1, none⟩) HBl.out).trans HX1.out; have l2 := (hbw.cell (p := ⟨b, o + i * 4 + 2, none⟩) HBl.out).trans HX2.out; have l3 := (hbw.cell (p := ⟨b, o + i * 4 + 3, none⟩) HBl.out).trans HX3.out; have b0 := (hbw.cell (p := ⟨bx, 0, none⟩) HBxl.out).trans HA0.out; have b1 := (hbw.cell (p := ⟨bx, 1, none⟩) HBxl.out).trans HA1.out; go_simp; by_cases e1 : (upS L s).1 = a.1 <;> by_cases e2 : (upS L s).2 = a.2 <;> simp [e1, e2])
      refine wpAnyH_done (by kernel_rfl) ?_ _
      clear hHeld
      by_cases hne : upS L s = a
      · have hd : (!decide (((upS L s).1, (upS L s).2) = (a.1, a.2))) = false := by simpa using (show ((upS L s).1, (upS L s).2) = (a.1, a.2) from hne)
        rw [hd]
        clear hd
        have HEq : Hid (upS L s = a) := hne
        clear hne
        obtain ⟨Wk, eWk⟩ : ∃ X, X = Ua10u1 := ⟨_, rfl⟩
        rw [← eWk] at HBu ⊢
        clear eWk
        have HOut : Hid (OwnSl W0.heap.size Wk (.slice (some ⟨g0, 0, none⟩) D.length c0) D) := HBu.out.own
        have HBk : Hid (Below w.heap.size w Wk) := HB0.out.trans (HBu.out.bel.mono HB0.out.size)
        have HN0 : Hid (BuR slCells 4 36 Wk (.slice (some ⟨Wk.heap.size, 0, none⟩) 0 0) ([]) (Wk.alloc (.cells #[] 36))) := BuR.new Wk
        go_wp2
        go_loopw [7, 8, 9] (fun nv dv kv wr2 => ∃ (k g1 c1 : Nat) (D2 : List Sl) (dn : Bool), k ≤ D.length ∧ nv = .slice (some ⟨g1, 0, none⟩) D2.length c1 ∧ dv = .bool dn ∧ kv = .int .i64 (k : Int) ∧ Hid (putTo s (D.take k) = (D2, dn)) ∧ Hid (BuR slCells 4 36 Wk (.slice (some ⟨g1, 0, none⟩) D2.length c1) (D2) wr2)) (fun _ _ kv _ => D.length - (intOf kv).toNat)
        case atStart => exact ⟨0, _, _, [], false, Nat.zero_le _, rfl, rfl, rfl, rfl, HN0⟩
        case round =>
          rename World => wr2
          obtain ⟨k, g1, c1, D2, dn, hk, rfl, rfl, rfl, HDn, HBn⟩ := hrel
          have hd2 : D2.length ≤ D.length + 1 := by (have h8 := (putTo_length s (D.take k)).1; rw [HDn.out] at h8; simp at h8; omega)
          by_cases hkD : k < D.length
          · obtain ⟨y, ey⟩ : ∃ y, y = D[k] := ⟨_, rfl⟩
            have HEy : Hid (y = D[k]) := ey
            clear ey
            have kk1 : (k : Int) < (D.length : Int) := by omega
            have kk0 : (0 : Int) ≤ (k : Int) := by omega
            cases dn with
            | true =>
              have HDn2 : Hid (putTo s (D.take (k + 1)) = (D2 ++ [y], true)) := putTo_done HDn.out hkD HEy.out
              go_wp2
              refine wp_region_held_drew (S := fun W' => Below Wk.heap.size Wk W') (by kernel_rfl) HBn.out.bel.drew (fun hHeld => ?_)
              obtain ⟨Ub11u0, eW⟩ : ∃ X, X = wr2.drew := ⟨_, rfl⟩
              have hb : Below wr2.heap.size wr2 Ub11u0 := by rw [eW]; exact (Below.refl _ _).drew
              replace HBn : Hid (BuR slCells 4 36 Wk (.slice (some ⟨g1, 0, none⟩) D2.length c1) (D2) Ub11u0) := HBn.out.below hb
              rw [← eW] at hHeld ⊢
              clear eW hb
              refine tkW 0 (some 32) (v := ?_) ?_ hHeld ?_
              rotate_left
              · (intro ww _; go_simp; try with_reducible rfl)
              refine tkW 1 (some 33) (v := ?_) ?_ hHeld ?_
              rotate_left
              · (intro ww _; go_simp; try with_reducible rfl)
              refine tkW 2 (some 34) (v := ?_) ?_ hHeld ?_
              rotate_left
              · (intro ww _; go_simp; try with_reducible rfl)
              refine tkU 3 (some 35) hHeld ?_
              refine tkU 4 (some 36) hHeld ?_
              refine tkU 5 (some 37) hHeld ?_
              refine tkU 6 (some 38) hHeld ?_
              refine tkU 7 (some 39) hHeld ?_
              refine tkU 8 (some 40) hHeld ?_
              refine tkU 9 (some 41) hHeld ?_
              refine tkU 10 (some 42) hHeld ?_
              refine tkU 11 (some 43) hHeld ?_
              refine tkU 12 (some 44) hHeld ?_
              refine tkU 13 (some 45) hHeld ?_
              refine tkW 14 (some 46) (v := ?_) ?_ hHeld ?_
              rotate_left
              · (intro ww _; go_simp; try with_reducible rfl)
              refine wpAnyH_done (by kernel_rfl) ?_ _
              have HB7 : Hid (BuR slCells 4 36 Wk (.slice (some ⟨g1, 0, none⟩) D2.length c1) (D2) Ub11u0) := HBn.out
              clear hHeld HBn
              have hyr := HOut.out.at4 (HB7.out.bel) hkD
              rw [← HEy.out] at hyr
              have y0 : Ub11u0.cell? ⟨g0, k * 4, none⟩ = some (.int .i64 y.ts.1) := hyr 0 _ rfl
              have y1 : Ub11u0.cell? ⟨g0, k * 4 + 1, none⟩ = some (.int .i64 y.ts.2) := hyr 1 _ rfl
              have y2 : Ub11u0.cell? ⟨g0, k * 4 + 2, none⟩ = some (.int .i64 y.af.1) := hyr 2 _ rfl
              have y3 : Ub11u0.cell? ⟨g0, k * 4 + 3, none⟩ = some (.int .i64 y.af.2) := hyr 3 _ rfl
              clear hyr
              have halq : Below Ub11u0.heap.size Ub11u0 (Ub11u0.alloc (.cells #[.int .i64 y.ts.1, .int .i64 y.ts.2, .int .i64 y.af.1, .int .i64 y.af.2] 36)) := (Below.refl _ _).alloc (Nat.le_refl _) _
              have HBaq : Hid (BuR slCells 4 36 Wk (.slice (some ⟨g1, 0, none⟩) D2.length c1) (D2) (Ub11u0.alloc (.cells #[.int .i64 y.ts.1, .int .i64 y.ts.2, .int .i64 y.af.1, .int .i64 y.af.2] 36))) := HB7.out.below halq
              have HNwq : Hid (∀ j u, ([.int .i64 y.ts.1, .int .i64 y.ts.2, .int .i64 y.af.1, .int .i64 y.af.2] : List Value)[j]? = some u → (Ub11u0.alloc (.cells #[.int .i64 y.ts.1, .int .i64 y.ts.2, .int .i64 y.af.1, .int .i64 y.af.2] 36)).cell? ((⟨Ub11u0.heap.size, 0, none⟩ : Addr).add j) = some u) := fun j u hj => (by rw [Addr.add_lit, cell_of_row _ _ _ _ _ _ (heap_alloc_new Ub11u0 _)]; simpa using hj)
              have hszq : Wk.heap.size ≤ (Ub11u0.alloc (.cells #[.int .i64 y.ts.1, .int .i64 y.ts.2, .int .i64 y.af.1, .int .i64 y.af.2] 36)).heap.size := HBaq.out.bel.size
              clear halq
              go_wp2_with (at_builtin; refine wpList_append_own_at _ rfl _ _ 22 rfl Wk.heap.size 36 isl (.agg #[.int .i64 0, .int .i64 0, .int .i64 0, .int .i64 0]) 4 32 Try.underlying22 hisl hz0sl hz1sl hz2sl rfl (by decide) _ _ _ rfl HBaq.out.own ⟨Ub11u0.heap.size, 0, none⟩ 1 1 [.int .i64 y.ts.1, .int .i64 y.ts.2, .int .i64 y.af.1, .int .i64 y.af.2] rfl rfl HNwq.out (slCells_one y) (by unfold maxLen; omega) (by omega) hszq ?_; intro v3 w9 hown3 hgrow3 hnil3 hat3; obtain ⟨gq, cq, e3⟩ := own_succ hown3; subst e3; have HB9 : Hid (BuR slCells 4 36 Wk (.slice (some ⟨gq, 0, none⟩) (D2.length + 1) cq) (D2 ++ [y]) w9) := HBaq.out.push hown3 hgrow3; clear hown3 hgrow3 hnil3 hat3 HBaq HNwq hszq; clear y0 y1 y2 y3)
              go_roundw
              case rel => exact ⟨k + 1, _, _, D2 ++ [y], true, by omega, by (simp only [List.length_append, List.length_cons, List.length_nil]; first | rfl | go_num), rfl, by go_num, HDn2, by (have h9 := HB9; simp only [List.length_append, List.length_cons, List.length_nil] at h9 ⊢; exact h9)⟩
              case measure => simp [intOf]; omega
            | false =>
              cases hls : ltS y.ts s.ts with
              | true =>
                have HLs2 : Hid (lessS y.ts.1 y.ts.2 s.ts.1 s.ts.2 = true) := hls
                have HDn2 : Hid (putTo s (D.take (k + 1)) = (D2 ++ [s] ++ [y], true)) := putTo_in HDn.out hkD HEy.out hls
                clear hls
                go_wp2
                refine wp_region_held_drew (S := fun W' => Below Wk.heap.size Wk W') (by kernel_rfl) HBn.out.bel.drew (fun hHeld => ?_)
                obtain ⟨Ub12u0, eW⟩ : ∃ X, X = wr2.drew := ⟨_, rfl⟩
                have hb : Below wr2.heap.size wr2 Ub12u0 := by rw [eW]; exact (Below.refl _ _).drew
                replace HBn : Hid (BuR slCells 4 36 Wk (.slice (some ⟨g1, 0, none⟩) D2.length c1) (D2) Ub12u0) := HBn.out.below hb
                rw [← eW] at hHeld ⊢
                clear eW hb
                refine tkW 0 (some 32) (v := ?_) ?_ hHeld ?_
                rotate_left
                · (intro ww _; go_simp; try with_reducible rfl)
                refine tkW 1 (some 33) (v := ?_) ?_ hHeld ?_
                rotate_left
                · (intro ww _; go_simp; try with_reducible rfl)
                refine tkW 2 (some 34) (v := ?_) ?_ hHeld ?_
                rotate_left
                · (intro ww _; go_simp; try with_reducible rfl)
                refine tkW 3 (some 35) (v := ?_) ?_ hHeld ?_
                rotate_left
                · (intro ww _; go_simp; try with_reducible rfl)
                refine tkW 4 (some 36) (v := ?_) ?_ hHeld ?_
                rotate_left
                · (intro ww _; go_simp; try with_reducible rfl)
                refine tkW 5 (some 37) (v := ?_) ?_ hHeld ?_
                rotate_left
                · (intro ww hSw; (try dsimp only at hSw); have hbw := hSw; have hyr := HOut.out.at4 hbw hkD; rw [← HEy.out] at hyr; have y0 : ww.cell? ⟨g0, k * 4, none⟩ = _ := hyr 0 _ rfl; have y1 : ww.cell? ⟨g0, k * 4 + 1, none⟩ = _ := hyr 1 _ rfl; have hsr := HLs.out.at4 (HBk.out.trans (hbw.mono HBk.out.size)) hil HSe.out; have s0 : ww.cell? ⟨b, o + i * 4, none⟩ = _ := hsr 0 _ rfl; have s1 : ww.cell? ⟨b, o + i * 4 + 1, none⟩ = _ := hsr 1 _ rfl; go_simp; try with_reducible rfl)
                refine tkW 6 (some 38) (v := ?_) ?_ hHeld ?_
                rotate_left
                · (intro ww _; go_simp; try with_reducible rfl)
                refine tkW 7 (some 39) (v := ?_) ?_ hHeld ?_
                rotate_left
                · (intro ww hSw; (try dsimp only at hSw); have hbw := hSw; have hyr := HOut.out.at4 hbw hkD; rw [← HEy.out] at hyr; have y0 : ww.cell? ⟨g0, k * 4, none⟩ = _ := hyr 0 _ rfl; have y1 : ww.cell? ⟨g0, k * 4 + 1, none⟩ = _ := hyr 1 _ rfl; have hsr := HLs.out.at4 (HBk.out.trans (hbw.mono HBk.out.size)) hil HSe.out; have s0 : ww.cell? ⟨b, o + i * 4, none⟩ = _ := hsr 0 _ rfl; have s1 : ww.cell? ⟨b, o + i * 4 + 1, none⟩ = _ := hsr 1 _ rfl; go_simp; try with_reducible rfl)
                refine tkW 8 (some 40) (v := ?_) ?_ hHeld ?_
                rotate_left
                · (intro ww _; go_simp; try with_reducible rfl)
                refine tkW 9 (some 41) (v := ?_) ?_ hHeld ?_
                rotate_left
                · (intro ww _; go_simp; try with_reducible rfl)
                refine tkW 10 (some 42) (v := ?_) ?_ hHeld ?_
                rotate_left
                · (intro ww hSw; (try dsimp only at hSw); have hbw := hSw; have hyr := HOut.out.at4 hbw hkD; rw [← HEy.out] at hyr; have y0 : ww.cell? ⟨g0, k * 4, none⟩ = _ := hyr 0 _ rfl; have y1 : ww.cell? ⟨g0, k * 4 + 1, none⟩ = _ := hyr 1 _ rfl; have hsr := HLs.out.at4 (HBk.out.trans (hbw.mono HBk.out.size)) hil HSe.out; have s0 : ww.cell? ⟨b, o + i * 4, none⟩ = _ := hsr 0 _ rfl; have s1 : ww.cell? ⟨b, o + i * 4 + 1, none⟩ = _ := hsr 1 _ rfl; go_simp; try with_reducible rfl)
                refine tkW 11 (some 43) (v := ?_) ?_ hHeld ?_
                rotate_left
                · (intro ww _; go_simp; try with_reducible rfl)
                refine tkW 12 (some 44) (v := ?_) ?_ hHeld ?_
                rotate_left
                · (intro ww hSw; (try dsimp only at hSw); have hbw := hSw; have hyr := HOut.out.at4 hbw hkD; rw [← HEy.out] at hyr; have y0 : ww.cell? ⟨g0, k * 4, none⟩ = _ := hyr 0 _ rfl; have y1 : ww.cell? ⟨g0, k * 4 + 1, none⟩ = _ := hyr 1 _ rfl; have hsr := HLs.out.at4 (HBk.out.trans (hbw.mono HBk.out.size)) hil HSe.out; have s0 : ww.cell? ⟨b, o + i * 4, none⟩ = _ := hsr 0 _ rfl; have s1 : ww.cell? ⟨b, o + i * 4 + 1, none⟩ = _ := hsr 1 _ rfl; go_simp; try with_reducible rfl)
                refine wpAnyH_ready (rs := [13]) (by kernel_rfl) (by simp) ?_
                refine AllReadyH.cons (o := ⟨some 45, _, _, _, _, _⟩) rfl (fun K hK => ?_) AllReadyH.nil
                go_simp
                refine (S.refLess_bel _ _ _ _ _).mono ?_
                rintro e Ub12u1 ⟨rfl, hb⟩
                rw [show lessS y.ts.1 y.ts.2 s.ts.1 s.ts.2 = true from HLs2.out]
                (try go_wp2_with fail)
                refine hK.out _ _ (hHeld.trans (hb.mono hHeld.size)) (fun hHeld2 => ?_)
                clear hK K hHeld
                have hHeld := hHeld2
                clear hHeld2
                (try simp only [Act.put, List.setIfInBounds_toArray, List.set_cons_zero, List.set_cons_succ])
                replace HBn : Hid (BuR slCells 4 36 Wk (.slice (some ⟨g1, 0, none⟩) D2.length c1) (D2) Ub12u1) := HBn.out.below hb
                clear hb
                refine tkW 14 (some 46) (v := ?_) ?_ hHeld ?_
                rotate_left
                · (intro ww _; go_simp; try with_reducible rfl)
                refine wpAnyH_done (by kernel_rfl) ?_ _
                have HB7 : Hid (BuR slCells 4 36 Wk (.slice (some ⟨g1, 0, none⟩) D2.length c1) (D2) Ub12u1) := HBn.out
                clear hHeld HBn
                have x0 : Ub12u1.cell? ⟨b, o + i * 4, none⟩ = some (.int .i64 s.ts.1) := (HLs.out.at4 (HBk.out.trans (HB7.out.bel.mono HBk.out.size)) hil HSe.out) 0 _ rfl
                have x1 : Ub12u1.cell? ⟨b, o + i * 4 + 1, none⟩ = some (.int .i64 s.ts.2) := (HLs.out.at4 (HBk.out.trans (HB7.out.bel.mono HBk.out.size)) hil HSe.out) 1 _ rfl
                have x2 : Ub12u1.cell? ⟨b, o + i * 4 + 2, none⟩ = some (.int .i64 s.af.1) := (HLs.out.at4 (HBk.out.trans (HB7.out.bel.mono HBk.out.size)) hil HSe.out) 2 _ rfl
                have x3 : Ub12u1.cell? ⟨b, o + i * 4 + 3, none⟩ = some (.int .i64 s.af.2) := (HLs.out.at4 (HBk.out.trans (HB7.out.bel.mono HBk.out.size)) hil HSe.out) 3 _ rfl
                have halp : Below Ub12u1.heap.size Ub12u1 (Ub12u1.alloc (.cells #[.int .i64 s.ts.1, .int .i64 s.ts.2, .int .i64 s.af.1, .int .i64 s.af.2] 36)) := (Below.refl _ _).alloc (Nat.le_refl _) _
                have HBap : Hid (BuR slCells 4 36 Wk (.slice (some ⟨g1, 0, none⟩) D2.length c1) (D2) (Ub12u1.alloc (.cells #[.int .i64 s.ts.1, .int .i64 s.ts.2, .int .i64 s.af.1, .int .i64 s.af.2] 36))) := HB7.out.below halp
                have HNwp : Hid (∀ j u, ([.int .i64 s.ts.1, .int .i64 s.ts.2, .int .i64 s.af.1, .int .i64 s.af.2] : List Value)[j]? = some u → (Ub12u1.alloc (.cells #[.int .i64 s.ts.1, .int .i64 s.ts.2, .int .i64 s.af.1, .int .i64 s.af.2] 36)).cell? ((⟨Ub12u1.heap.size, 0, none⟩ : Addr).add j) = some u) := fun j u hj => (by rw [Addr.add_lit, cell_of_row _ _ _ _ _ _ (heap_alloc_new Ub12u1 _)]; simpa using hj)
                have hszp : Wk.heap.size ≤ (Ub12u1.alloc (.cells #[.int .i64 s.ts.1, .int .i64 s.ts.2, .int .i64 s.af.1, .int .i64 s.af.2] 36)).heap.size := HBap.out.bel.size
                clear halp
                go_wp2_with (first
                  | (at_builtin; refine wpList_append_own_at _ rfl _ _ 22 rfl Wk.heap.size 36 isl (.agg #[.int .i64 0, .int .i64 0, .int .i64 0, .int .i64 0]) 4 32 Try.underlying22 hisl hz0sl hz1sl hz2sl rfl (by decide) _ _ _ rfl HBap.out.own ⟨Ub12u1.heap.size, 0, none⟩ 1 1 [.int .i64 s.ts.1, .int .i64 s.ts.2, .int .i64 s.af.1, .int .i64 s.af.2] rfl rfl HNwp.out (slCells_one s) (by unfold maxLen; omega) (by omega) hszp ?_; intro v3 w8 hown3 hgrow3 hnil3 hat3; obtain ⟨gp, cp, e3⟩ := own_succ hown3; subst e3; have HB8 : Hid (BuR slCells 4 36 Wk (.slice (some ⟨gp, 0, none⟩) (D2.length + 1) cp) (D2 ++ [s]) w8) := HBap.out.push hown3 hgrow3; clear hown3 hgrow3 hnil3 hat3 HBap HNwp hszp; clear x0 x1 x2 x3; have hEl : (D2 ++ [s]).length ≤ 8200 := (by simp only [List.length_append, List.length_cons, List.length_nil]; omega); have hyr := HOut.out.at4 (HB8.out.bel) hkD; rw [← HEy.out] at hyr; have y0 : w8.cell? ⟨g0, k * 4, none⟩ = some (.int .i64 y.ts.1) := hyr 0 _ rfl; have y1 : w8.cell? ⟨g0, k * 4 + 1, none⟩ = some (.int .i64 y.ts.2) := hyr 1 _ rfl; have y2 : w8.cell? ⟨g0, k * 4 + 2, none⟩ = some (.int .i64 y.af.1) := hyr 2 _ rfl; have y3 : w8.cell? ⟨g0, k * 4 + 3, none⟩ = some (.int .i64 y.af.2) := hyr 3 _ rfl; clear hyr; have halq : Below w8.heap.size w8 (w8.alloc (.cells #[.int .i64 y.ts.1, .int .i64 y.ts.2, .int .i64 y.af.1, .int .i64 y.af.2] 36)) := (Below.refl _ _).alloc (Nat.le_refl _) _; have HBaq : Hid (BuR slCells 4 36 Wk (.slice (some ⟨gp, 0, none⟩) (D2.length + 1) cp) (D2 ++ [s]) (w8.alloc (.cells #[.int .i64 y.ts.1, .int .i64 y.ts.2, .int .i64 y.af.1, .int .i64 y.af.2] 36))) := HB8.out.below halq; have HNwq : Hid (∀ j u, ([.int .i64 y.ts.1, .int .i64 y.ts.2, .int .i64 y.af.1, .int .i64 y.af.2] : List Value)[j]? = some u → (w8.alloc (.cells #[.int .i64 y.ts.1, .int .i64 y.ts.2, .int .i64 y.af.1, .int .i64 y.af.2] 36)).cell? ((⟨w8.heap.size, 0, none⟩ : Addr).add j) = some u) := fun j u hj => (by rw [Addr.add_lit, cell_of_row _ _ _ _ _ _ (heap_alloc_new w8 _)]; simpa using hj); have hszq : Wk.heap.size ≤ (w8.alloc (.cells #[.int .i64 y.ts.1, .int .i64 y.ts.2, .int .i64 y.af.1, .int .i64 y.af.2] 36)).heap.size := HBaq.out.bel.size; clear halq)
                  | (at_builtin; refine wpList_append_own_at _ rfl _ _ 22 rfl Wk.heap.size 36 isl (.agg #[.int .i64 0, .int .i64 0, .int .i64 0, .int .i64 0]) 4 32 Try.underlying22 hisl hz0sl hz1sl hz2sl rfl (by decide) _ _ _ rfl HBaq.out.own ⟨w8.heap.size, 0, none⟩ 1 1 [.int .i64 y.ts.1, .int .i64 y.ts.2, .int .i64 y.af.1, .int .i64 y.af.2] rfl rfl HNwq.out (slCells_one y) (by unfold maxLen; omega) (by omega) hszq ?_; intro v3 w9 hown3 hgrow3 hnil3 hat3; obtain ⟨gq, cq, e3⟩ := own_succ hown3; subst e3; have HB9 : Hid (BuR slCells 4 36 Wk (.slice (some ⟨gq, 0, none⟩) ((D2 ++ [s]).length + 1) cq) (D2 ++ [s] ++ [y]) w9) := HBaq.out.push hown3 hgrow3; clear hown3 hgrow3 hnil3 hat3 HBaq HNwq hszq; clear y0 y1 y2 y3))
                go_roundw
                case rel => exact ⟨k + 1, _, _, D2 ++ [s] ++ [y], true, by omega, by (simp only [List.length_append, List.length_cons, List.length_nil]; first | rfl | go_num), rfl, by go_num, HDn2, by (have h9 := HB9; simp only [List.length_append, List.length_cons, List.length_nil] at h9 ⊢; exact h9)⟩
                case measure => simp [intOf]; omega
              | false =>
                have HLs2 : Hid (lessS y.ts.1 y.ts.2 s.ts.1 s.ts.2 = false) := hls
                have HDn2 : Hid (putTo s (D.take (k + 1)) = (D2 ++ [y], false)) := putTo_on HDn.out hkD HEy.out hls
                clear hls
                go_wp2
                refine wp_region_held_drew (S := fun W' => Below Wk.heap.size Wk W') (by kernel_rfl) HBn.out.bel.drew (fun hHeld => ?_)
                obtain ⟨Ub13u0, eW⟩ : ∃ X, X = wr2.drew := ⟨_, rfl⟩
                have hb : Below wr2.heap.size wr2 Ub13u0 := by rw [eW]; exact (Below.refl _ _).drew
                replace HBn : Hid (BuR slCells 4 36 Wk (.slice (some ⟨g1, 0, none⟩) D2.length c1) (D2) Ub13u0) := HBn.out.below hb
                rw [← eW] at hHeld ⊢
                clear eW hb
                refine tkW 0 (some 32) (v := ?_) ?_ hHeld ?_
                rotate_left
                · (intro ww _; go_simp; try with_reducible rfl)
                refine tkW 1 (some 33) (v := ?_) ?_ hHeld ?_
                rotate_left
                · (intro ww _; go_simp; try with_reducible rfl)
                refine tkW 2 (some 34) (v := ?_) ?_ hHeld ?_
                rotate_left
                · (intro ww _; go_simp; try with_reducible rfl)
                refine tkW 3 (some 35) (v := ?_) ?_ hHeld ?_
                rotate_left
                · (intro ww _; go_simp; try with_reducible rfl)
                refine tkW 4 (some 36) (v := ?_) ?_ hHeld ?_
                rotate_left
                · (intro ww _; go_simp; try with_reducible rfl)
                refine tkW 5 (some 37) (v := ?_) ?_ hHeld ?_
                rotate_left
                · (intro ww hSw; (try dsimp only at hSw); have hbw := hSw; have hyr := HOut.out.at4 hbw hkD; rw [← HEy.out] at hyr; have y0 : ww.cell? ⟨g0, k * 4, none⟩ = _ := hyr 0 _ rfl; have y1 : ww.cell? ⟨g0, k * 4 + 1, none⟩ = _ := hyr 1 _ rfl; have hsr := HLs.out.at4 (HBk.out.trans (hbw.mono HBk.out.size)) hil HSe.out; have s0 : ww.cell? ⟨b, o + i * 4, none⟩ = _ := hsr 0 _ rfl; have s1 : ww.cell? ⟨b, o + i * 4 + 1, none⟩ = _ := hsr 1 _ rfl; go_simp; try with_reducible rfl)
                refine tkW 6 (some 38) (v := ?_) ?_ hHeld ?_
                rotate_left
                · (intro ww _; go_simp; try with_reducible rfl)
                refine tkW 7 (some 39) (v := ?_) ?_ hHeld ?_
                rotate_left
                · (intro ww hSw; (try dsimp only at hSw); have hbw := hSw; have hyr := HOut.out.at4 hbw hkD; rw [← HEy.out] at hyr; have y0 : ww.cell? ⟨g0, k * 4, none⟩ = _ := hyr 0 _ rfl; have y1 : ww.cell? ⟨g0, k * 4 + 1, none⟩ = _ := hyr 1 _ rfl; have hsr := HLs.out.at4 (HBk.out.trans (hbw.mono HBk.out.size)) hil HSe.out; have s0 : ww.cell? ⟨b, o + i * 4, none⟩ = _ := hsr 0 _ rfl; have s1 : ww.cell? ⟨b, o + i * 4 + 1, none⟩ = _ := hsr 1 _ rfl; go_simp; try with_reducible rfl)
                refine tkW 8 (some 40) (v := ?_) ?_ hHeld ?_
                rotate_left
                · (intro ww _; go_simp; try with_reducible rfl)
                refine tkW 9 (some 41) (v := ?_) ?_ hHeld ?_
                rotate_left
                · (intro ww _; go_simp; try with_reducible rfl)
                refine tkW 10 (some 42) (v := ?_) ?_ hHeld ?_
                rotate_left
                · (intro ww hSw; (try dsimp only at hSw); have hbw := hSw; have hyr := HOut.out.at4 hbw hkD; rw [← HEy.out] at hyr; have y0 : ww.cell? ⟨g0, k * 4, none⟩ = _ := hyr 0 _ rfl; have y1 : ww.cell? ⟨g0, k * 4 + 1, none⟩ = _ := hyr 1 _ rfl; have hsr := HLs.out.at4 (HBk.out.trans (hbw.mono HBk.out.size)) hil HSe.out; have s0 : ww.cell? ⟨b, o + i * 4, none⟩ = _ := hsr 0 _ rfl; have s1 : ww.cell? ⟨b, o + i * 4 + 1, none⟩ = _ := hsr 1 _ rfl; go_simp; try with_reducible rfl)
                refine tkW 11 (some 43) (v := ?_) ?_ hHeld ?_
                rotate_left
                · (intro ww _; go_simp; try with_reducible rfl)
                refine tkW 12 (some 44) (v := ?_) ?_ hHeld ?_
                rotate_left
                · (intro ww hSw; (try dsimp only at hSw); have hbw := hSw; have hyr := HOut.out.at4 hbw hkD; rw [← HEy.out] at hyr; have y0 : ww.cell? ⟨g0, k * 4, none⟩ = _ := hyr 0 _ rfl; have y1 : ww.cell? ⟨g0, k * 4 + 1, none⟩ = _ := hyr 1 _ rfl; have hsr := HLs.out.at4 (HBk.out.trans (hbw.mono HBk.out.size)) hil HSe.out; have s0 : ww.cell? ⟨b, o + i * 4, none⟩ = _ := hsr 0 _ rfl; have s1 : ww.cell? ⟨b, o + i * 4 + 1, none⟩ = _ := hsr 1 _ rfl; go_simp; try with_reducible rfl)
                refine wpAnyH_ready (rs := [13]) (by kernel_rfl) (by simp) ?_
                refine AllReadyH.cons (o := ⟨some 45, _, _, _, _, _⟩) rfl (fun K hK => ?_) AllReadyH.nil
                go_simp
                refine (S.refLess_bel _ _ _ _ _).mono ?_
                rintro e Ub13u1 ⟨rfl, hb⟩
                rw [show lessS y.ts.1 y.ts.2 s.ts.1 s.ts.2 = false from HLs2.out]
                (try go_wp2_with fail)
                refine hK.out _ _ (hHeld.trans (hb.mono hHeld.size)) (fun hHeld2 => ?_)
                clear hK K hHeld
                have hHeld := hHeld2
                clear hHeld2
                (try simp only [Act.put, List.setIfInBounds_toArray, List.set_cons_zero, List.set_cons_succ])
                replace HBn : Hid (BuR slCells 4 36 Wk (.slice (some ⟨g1, 0, none⟩) D2.length c1) (D2) Ub13u1) := HBn.out.below hb
                clear hb
                refine tkW 14 (some 46) (v := ?_) ?_ hHeld ?_
                rotate_left
                · (intro ww _; go_simp; try with_reducible rfl)
                refine wpAnyH_done (by kernel_rfl) ?_ _
                have HB7 : Hid (BuR slCells 4 36 Wk (.slice (some ⟨g1, 0, none⟩) D2.length c1) (D2) Ub13u1) := HBn.out
                clear hHeld HBn
                have hyr := HOut.out.at4 (HB7.out.bel) hkD
                rw [← HEy.out] at hyr
                have y0 : Ub13u1.cell? ⟨g0, k * 4, none⟩ = some (.int .i64 y.ts.1) := hyr 0 _ rfl
                have y1 : Ub13u1.cell? ⟨g0, k * 4 + 1, none⟩ = some (.int .i64 y.ts.2) := hyr 1 _ rfl
                have y2 : Ub13u1.cell? ⟨g0, k * 4 + 2, none⟩ = some (.int .i64 y.af.1) := hyr 2 _ rfl
                have y3 : Ub13u1.cell? ⟨g0, k * 4 + 3, none⟩ = some (.int .i64 y.af.2) := hyr 3 _ rfl
                clear hyr
                have halq : Below Ub13u1.heap.size Ub13u1 (Ub13u1.alloc (.cells #[.int .i64 y.ts.1, .int .i64 y.ts.2, .int .i64 y.af.1, .int .i64 y.af.2] 36)) := (Below.refl _ _).alloc (Nat.le_refl _) _
                have HBaq : Hid (BuR slCells 4 36 Wk (.slice (some ⟨g1, 0, none⟩) D2.length c1) (D2) (Ub13u1.alloc (.cells #[.int .i64 y.ts.1, .int .i64 y.ts.2, .int .i64 y.af.1, .int .i64 y.af.2] 36))) := HB7.out.below halq
                have HNwq : Hid (∀ j u, ([.int .i64 y.ts.1, .int .i64 y.ts.2, .int .i64 y.af.1, .int .i64 y.af.2] : List Value)[j]? = some u → (Ub13u1.alloc (.cells #[.int .i64 y.ts.1, .int .i64 y.ts.2, .int .i64 y.af.1, .int .i64 y.af.2] 36)).cell? ((⟨Ub13u1.heap.size, 0, none⟩ : Addr).add j) = some u) := fun j u hj => (by rw [Addr.add_lit, cell_of_row _ _ _ _ _ _ (heap_alloc_new Ub13u1 _)]; simpa using hj)
                have hszq : Wk.heap.size ≤ (Ub13u1.alloc (.cells #[.int .i64 y.ts.1, .int .i64 y.ts.2, .int .i64 y.af.1, .int .i64 y.af.2] 36)).heap.size := HBaq.out.bel.size
                clear halq
                go_wp2_with (at_builtin; refine wpList_append_own_at _ rfl _ _ 22 rfl Wk.heap.size 36 isl (.agg #[.int .i64 0, .int .i64 0, .int .i64 0, .int .i64 0]) 4 32 Try.underlying22 hisl hz0sl hz1sl hz2sl rfl (by decide) _ _ _ rfl HBaq.out.own ⟨Ub13u1.heap.size, 0, none⟩ 1 1 [.int .i64 y.ts.1, .int .i64 y.ts.2, .int .i64 y.af.1, .int .i64 y.af.2] rfl rfl HNwq.out (slCells_one y) (by unfold maxLen; omega) (by omega) hszq ?_; intro v3 w9 hown3 hgrow3 hnil3 hat3; obtain ⟨gq, cq, e3⟩ := own_succ hown3; subst e3; have HB9 : Hid (BuR slCells 4 36 Wk (.slice (some ⟨gq, 0, none⟩) (D2.length + 1) cq) (D2 ++ [y]) w9) := HBaq.out.push hown3 hgrow3; clear hown3 hgrow3 hnil3 hat3 HBaq HNwq hszq; clear y0 y1 y2 y3)
                go_roundw
                case rel => exact ⟨k + 1, _, _, D2 ++ [y], false, by omega, by (simp only [List.length_append, List.length_cons, List.length_nil]; first | rfl | go_num), rfl, by go_num, HDn2, by (have h9 := HB9; simp only [List.length_append, List.length_cons, List.length_nil] at h9 ⊢; exact h9)⟩
                case measure => simp [intOf]; omega
          · have hpt : putTo s D = (D2, dn) := by (have h9 := HDn.out; rw [List.take_of_length_le (by omega)] at h9; exact h9)
            cases dn with
            | true =>
              have HUn : Hid (undF L a (L.take (i + 1)) = D2) := by (show _ = _; rw [undF_next L a L i hil, ← HSe.out, if_pos HEq.out, ← HDe.out]; unfold putD; rw [hpt]; rfl)
              have HBf : Hid (BuR slCells 4 36 W0 (.slice (some ⟨g1, 0, none⟩) D2.length c1) (D2) wr2) := HBn.out.out HBu.out.bel
              clear hpt
              go_wp2
              go_roundw
              case rel => exact ⟨i + 1, _, _, D2, by omega, by go_num, HUn, rfl, HBf⟩
              case measure => simp [intOf]; omega
            | false =>
              have HUn : Hid (undF L a (L.take (i + 1)) = D2 ++ [s]) := by (show _ = _; rw [undF_next L a L i hil, ← HSe.out, if_pos HEq.out, ← HDe.out]; unfold putD; rw [hpt]; rfl)
              clear hpt
              have x0 : wr2.cell? ⟨b, o + i * 4, none⟩ = some (.int .i64 s.ts.1) := (HLs.out.at4 (HBk.out.trans (HBn.out.bel.mono HBk.out.size)) hil HSe.out) 0 _ rfl
              have x1 : wr2.cell? ⟨b, o + i * 4 + 1, none⟩ = some (.int .i64 s.ts.2) := (HLs.out.at4 (HBk.out.trans (HBn.out.bel.mono HBk.out.size)) hil HSe.out) 1 _ rfl
              have x2 : wr2.cell? ⟨b, o + i * 4 + 2, none⟩ = some (.int .i64 s.af.1) := (HLs.out.at4 (HBk.out.trans (HBn.out.bel.mono HBk.out.size)) hil HSe.out) 2 _ rfl
              have x3 : wr2.cell? ⟨b, o + i * 4 + 3, none⟩ = some (.int .i64 s.af.2) := (HLs.out.at4 (HBk.out.trans (HBn.out.bel.mono HBk.out.size)) hil HSe.out) 3 _ rfl
              have halp : Below wr2.heap.size wr2 (wr2.alloc (.cells #[.int .i64 s.ts.1, .int .i64 s.ts.2, .int .i64 s.af.1, .int .i64 s.af.2] 36)) := (Below.refl _ _).alloc (Nat.le_refl _) _
              have HBap : Hid (BuR slCells 4 36 Wk (.slice (some ⟨g1, 0, none⟩) D2.length c1) (D2) (wr2.alloc (.cells #[.int .i64 s.ts.1, .int .i64 s.ts.2, .int .i64 s.af.1, .int .i64 s.af.2] 36))) := HBn.out.below halp
              have HNwp : Hid (∀ j u, ([.int .i64 s.ts.1, .int .i64 s.ts.2, .int .i64 s.af.1, .int .i64 s.af.2] : List Value)[j]? = some u → (wr2.alloc (.cells #[.int .i64 s.ts.1, .int .i64 s.ts.2, .int .i64 s.af.1, .int .i64 s.af.2] 36)).cell? ((⟨wr2.heap.size, 0, none⟩ : Addr).add j) = some u) := fun j u hj => (by rw [Addr.add_lit, cell_of_row _ _ _ _ _ _ (heap_alloc_new wr2 _)]; simpa using hj)
              have hszp : Wk.heap.size ≤ (wr2.alloc (.cells #[.int .i64 s.ts.1, .int .i64 s.ts.2, .int .i64 s.af.1, .int .i64 s.af.2] 36)).heap.size := HBap.out.bel.size
              clear halp
              go_wp2_with (at_builtin; refine wpList_append_own_at _ rfl _ _ 22 rfl Wk.heap.size 36 isl (.agg #[.int .i64 0, .int .i64 0, .int .i64 0, .int .i64 0]) 4 32 Try.underlying22 hisl hz0sl hz1sl hz2sl rfl (by decide) _ _ _ rfl HBap.out.own ⟨wr2.heap.size, 0, none⟩ 1 1 [.int .i64 s.ts.1, .int .i64 s.ts.2, .int .i64 s.af.1, .int .i64 s.af.2] rfl rfl HNwp.out (slCells_one s) (by unfold maxLen; omega) (by omega) hszp ?_; intro v3 w8 hown3 hgrow3 hnil3 hat3; obtain ⟨gp, cp, e3⟩ := own_succ hown3; subst e3; have HB8 : Hid (BuR slCells 4 36 Wk (.slice (some ⟨gp, 0, none⟩) (D2.length + 1) cp) (D2 ++ [s]) w8) := HBap.out.push hown3 hgrow3; clear hown3 hgrow3 hnil3 hat3 HBap HNwp hszp; clear x0 x1 x2 x3)
              have HBf := HB8.out.out HBu.out.bel
              go_roundw
              case rel => exact ⟨i + 1, gp, cp, D2 ++ [s], by omega, by go_num, HUn, by simp, by (have h9 := HBf; simp only [List.length_append, List.length_cons, List.length_nil] at h9 ⊢; exact h9)⟩
              case measure => simp [intOf]; omega
      · have hd : (!decide (((upS L s).1, (upS L s).2) = (a.1, a.2))) = true := by (have h9 : ¬ ((upS L s).1, (upS L s).2) = (a.1, a.2) := hne; rw [decide_eq_false h9]; rfl)
        rw [hd]
        clear hd
        have HUn : Hid (undF L a (L.take (i + 1)) = D) := by (show _ = _; rw [undF_next L a L i hil, ← HSe.out, if_neg hne, HDe.out])
        clear hne
        go_wp2
        go_roundw
        case rel => exact ⟨i + 1, _, _, D, by omega, by go_num, HUn, rfl, HBu⟩
        case measure => simp [intOf]; omega
    · have HE : Hid (D = undF L a L) := by (have h9 := HDe.out; rw [List.take_of_length_le (by omega)] at h9; exact h9)
      have HF : Hid (OwnSl w.heap.size wr (.slice (some ⟨g0, 0, none⟩) D.length c0) D ∧ Below w.heap.size w wr) := ⟨HBu.out.own.low HB0.out.size, HB0.out.trans (HBu.out.bel.mono HB0.out.size)⟩
      go_wp2
      go_ret
      exact ⟨g0, c0, by (rw [← HE.out]; rfl), by rw [← HE.out]; exact HF.out.1, HF.out.2⟩

end Go.Proofs.Ytfgkdbidgbpobaa
