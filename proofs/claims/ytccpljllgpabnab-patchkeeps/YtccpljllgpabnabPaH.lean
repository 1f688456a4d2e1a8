/- put, shift; take. -/
import Derived.Test.YtccpljllgpabnabPaG
namespace Go.Proofs.Ytccpljllgpabnab
open Go.RowKit
set_option linter.unusedVariables false
set_option linter.unusedSimpArgs false

set_option maxRecDepth 100000 in
set_option maxHeartbeats 4000000 in
theorem put_s {B wb bm bh top : Nat} {X : Nat → Prop} {g : Gr} {D : List (St × Nat)} {T : VT} {H : List VT} (p : Pa) (w : World) (h : PwM B wb bm bh (some top) X g D w) (hp : PwP bh X g D [T] [top] H) (hkd : p.kd = 4) :
    Calls Try.prog 33 #[.pointer (some ⟨wb, 0, none⟩), paV p] w fun e w' => StpP B wb bm bh top (stepU p T H) e w' ∧ BelT B w w' := by
  have HPp := hide9 hp
  have HKd := hide9 hkd
  clear hp hkd
  have hbx : Below w.heap.size w (w.alloc (.cells #[.int .i64 p.kd, .int .i64 p.k.1, .int .i64 p.k.2, .int .i64 p.pa.1, .int .i64 p.pa.2, .int .i64 p.af.1, .int .i64 p.af.2, .string p.nm, .string p.vl] 42)) := (Below.refl _ _).alloc (Nat.le_refl _) _
  have HB : Hid (BelT B w (w.alloc (.cells #[.int .i64 p.kd, .int .i64 p.k.1, .int .i64 p.k.2, .int .i64 p.pa.1, .int .i64 p.pa.2, .int .i64 p.af.1, .int .i64 p.af.2, .string p.nm, .string p.vl] 42))) := BelT.of hbx h.le
  have HP : Hid (PwM B wb bm bh (some top) X g D (w.alloc (.cells #[.int .i64 p.kd, .int .i64 p.k.1, .int .i64 p.k.2, .int .i64 p.pa.1, .int .i64 p.pa.2, .int .i64 p.af.1, .int .i64 p.af.2, .string p.nm, .string p.vl] 42))) := h.below hbx
  have HK : Hid ((w.alloc (.cells #[.int .i64 p.kd, .int .i64 p.k.1, .int .i64 p.k.2, .int .i64 p.pa.1, .int .i64 p.pa.2, .int .i64 p.af.1, .int .i64 p.af.2, .string p.nm, .string p.vl] 42)).heap[w.heap.size]? = some (.cells #[.int .i64 p.kd, .int .i64 p.k.1, .int .i64 p.k.2, .int .i64 p.pa.1, .int .i64 p.pa.2, .int .i64 p.af.1, .int .i64 p.af.2, .string p.nm, .string p.vl] 42)) := heap_alloc_new _ _
  clear hbx h
  show Calls Try.prog 33 #[.pointer (some ⟨wb, 0, none⟩), .agg #[.int .i64 p.kd, .int .i64 p.k.1, .int .i64 p.k.2, .int .i64 p.pa.1, .int .i64 p.pa.2, .int .i64 p.af.1, .int .i64 p.af.2, .string p.nm, .string p.vl]] w _
  go_enter Try.func33, Try.ntmps33
  go_wp2
  obtain ⟨W0, eW0⟩ : ∃ X, X = (w.alloc (.cells #[.int .i64 p.kd, .int .i64 p.k.1, .int .i64 p.k.2, .int .i64 p.pa.1, .int .i64 p.pa.2, .int .i64 p.af.1, .int .i64 p.af.2, .string p.nm, .string p.vl] 42)) := ⟨_, rfl⟩
  rw [← eW0] at HB HP HK ⊢
  obtain ⟨kb, ekb⟩ : ∃ b, b = w.heap.size := ⟨_, rfl⟩
  rw [← ekb] at HK ⊢
  clear eW0 ekb
  refine wp_region_held_drew (S := fun W' => PwM B wb bm bh (some top) X g D W' ∧ W'.heap[kb]? = some (.cells #[.int .i64 p.kd, .int .i64 p.k.1, .int .i64 p.k.2, .int .i64 p.pa.1, .int .i64 p.pa.2, .int .i64 p.af.1, .int .i64 p.af.2, .string p.nm, .string p.vl] 42)) (by kernel_rfl) ⟨HP.out.drew, HK.out⟩ (fun hHeld => ?_)
  obtain ⟨Up15u0, eW⟩ : ∃ X, X = W0.drew := ⟨_, rfl⟩
  have hb : Below W0.heap.size W0 Up15u0 := by rw [eW]; exact (Below.refl _ _).drew
  replace HB : Hid (BelT B w Up15u0) := HB.out.trans (BelT.of hb HP.out.le)
  replace HP : Hid (PwM B wb bm bh (some top) X g D Up15u0) := HP.out.below hb
  replace HK : Hid (Up15u0.heap[kb]? = some (.cells #[.int .i64 p.kd, .int .i64 p.k.1, .int .i64 p.k.2, .int .i64 p.pa.1, .int .i64 p.pa.2, .int .i64 p.af.1, .int .i64 p.af.2, .string p.nm, .string p.vl] 42)) := (hb.block _ (row_lt HK.out)).trans HK.out
  rw [← eW] at hHeld ⊢
  clear eW hb
  refine tkW 0 (some 9) (v := ?_) ?_ hHeld ?_
  rotate_left
  · (intro ww _; go_simp; try with_reducible rfl)
  refine tkW 1 (some 10) (v := ?_) ?_ hHeld ?_
  rotate_left
  · (intro ww _; go_simp; try with_reducible rfl)
  refine tkW 2 (some 11) (v := ?_) ?_ hHeld ?_
  rotate_left
  · (intro ww hSw; (try dsimp only at hSw); obtain ⟨hP, hK⟩ := hSw; have b1 : ww.cell? ⟨kb, 1, none⟩ = some (.int .i64 p.k.1) := (by rw [cell_of_row ww kb 1 _ _ _ hK]; rfl); have b2 : ww.cell? ⟨kb, 2, none⟩ = some (.int .i64 p.k.2) := (by rw [cell_of_row ww kb 2 _ _ _ hK]; rfl); have b3 : ww.cell? ⟨kb, 3, none⟩ = some (.int .i64 p.pa.1) := (by rw [cell_of_row ww kb 3 _ _ _ hK]; rfl); have b4 : ww.cell? ⟨kb, 4, none⟩ = some (.int .i64 p.pa.2) := (by rw [cell_of_row ww kb 4 _ _ _ hK]; rfl); go_simp; try with_reducible rfl)
  refine tkW 4 (some 13) (v := ?_) ?_ hHeld ?_
  rotate_left
  · (intro ww _; go_simp; try with_reducible rfl)
  refine tkW 5 (some 14) (v := ?_) ?_ hHeld ?_
  rotate_left
  · (intro ww _; go_simp; try with_reducible rfl)
  refine tkW 6 (some 15) (v := ?_) ?_ hHeld ?_
  rotate_left
  · (intro ww hSw; (try dsimp only at hSw); obtain ⟨hP, hK⟩ := hSw; have b1 : ww.cell? ⟨kb, 1, none⟩ = some (.int .i64 p.k.1) := (by rw [cell_of_row ww kb 1 _ _ _ hK]; rfl); have b2 : ww.cell? ⟨kb, 2, none⟩ = some (.int .i64 p.k.2) := (by rw [cell_of_row ww kb 2 _ _ _ hK]; rfl); have b3 : ww.cell? ⟨kb, 3, none⟩ = some (.int .i64 p.pa.1) := (by rw [cell_of_row ww kb 3 _ _ _ hK]; rfl); have b4 : ww.cell? ⟨kb, 4, none⟩ = some (.int .i64 p.pa.2) := (by rw [cell_of_row ww kb 4 _ _ _ hK]; rfl); go_simp; try with_reducible rfl)
  refine wpAnyH_ready (rs := [3]) (by kernel_rfl) (by simp) ?_
  refine AllReadyH.cons (o := ⟨some 12, _, _, _, _, _⟩) rfl (fun K hK => ?_) AllReadyH.nil
  go_simp
  refine (held_s HP.out HPp.out p.k).mono ?_
  rintro e Up15u1 ⟨⟨v1, rfl, hq1⟩, hb⟩
  have HQ1 := hide9 hq1
  clear hq1
  (try go_wp2_with fail)
  refine hK.out _ _ (⟨hHeld.1.below hb, (hb.block _ (row_lt hHeld.2)).trans hHeld.2⟩) (fun hHeld2 => ?_)
  clear hK K hHeld
  have hHeld := hHeld2
  clear hHeld2
  (try simp only [Act.put, List.setIfInBounds_toArray, List.set_cons_zero, List.set_cons_succ])
  replace HB : Hid (BelT B w Up15u1) := HB.out.trans (BelT.of hb HP.out.le)
  replace HP : Hid (PwM B wb bm bh (some top) X g D Up15u1) := HP.out.below hb
  replace HK : Hid (Up15u1.heap[kb]? = some (.cells #[.int .i64 p.kd, .int .i64 p.k.1, .int .i64 p.k.2, .int .i64 p.pa.1, .int .i64 p.pa.2, .int .i64 p.af.1, .int .i64 p.af.2, .string p.nm, .string p.vl] 42)) := (hb.block _ (row_lt HK.out)).trans HK.out
  clear hb
  refine wpAnyH_ready (rs := [7]) (by kernel_rfl) (by simp) ?_
  refine AllReadyH.cons (o := ⟨some 16, _, _, _, _, _⟩) rfl (fun K hK => ?_) AllReadyH.nil
  go_simp
  refine (inTree_s HP.out HPp.out p.pa).mono ?_
  rintro e Up15u2 ⟨⟨v2, rfl, hq2⟩, hb⟩
  have HQ2 := hide9 hq2
  clear hq2
  (try go_wp2_with fail)
  refine hK.out _ _ (⟨hHeld.1.below hb, (hb.block _ (row_lt hHeld.2)).trans hHeld.2⟩) (fun hHeld2 => ?_)
  clear hK K hHeld
  have hHeld := hHeld2
  clear hHeld2
  (try simp only [Act.put, List.setIfInBounds_toArray, List.set_cons_zero, List.set_cons_succ])
  replace HB : Hid (BelT B w Up15u2) := HB.out.trans (BelT.of hb HP.out.le)
  replace HP : Hid (PwM B wb bm bh (some top) X g D Up15u2) := HP.out.below hb
  replace HK : Hid (Up15u2.heap[kb]? = some (.cells #[.int .i64 p.kd, .int .i64 p.k.1, .int .i64 p.k.2, .int .i64 p.pa.1, .int .i64 p.pa.2, .int .i64 p.af.1, .int .i64 p.af.2, .string p.nm, .string p.vl] 42)) := (hb.block _ (row_lt HK.out)).trans HK.out
  clear hb
  refine tkW 8 (some 5) (v := ?_) ?_ hHeld ?_
  rotate_left
  · (intro ww _; go_simp; try with_reducible rfl)
  refine tkW 9 (some 6) (v := ?_) ?_ hHeld ?_
  rotate_left
  · (intro ww _; go_simp; try with_reducible rfl)
  refine wpAnyH_done (by kernel_rfl) ?_ _
  clear hHeld
  have hq1 := HQ1.out
  have hq2 := HQ2.out
  clear HQ1 HQ2
  rcases hq1 with ⟨rfl, hno⟩ | ⟨c, y, rfl, hi⟩
  · have HSt : Hid (stepU p T H = (4, T, H)) := hide9 (by unfold stepU; rw [if_neg (by rw [HKd.out]; decide), if_neg (by rw [HKd.out]; decide), if_neg (by rw [HKd.out]; decide), if_pos HKd.out, hno])
    clear hno hq2
    go_wp2
    (try rw [Exit.noGoto_ret])
    go_ret
    refine ⟨?_, HB.out⟩
    rw [HSt.out]
    exact StpP.err (by decide)
  · have HI := hide9 hi
    clear hi
    rcases hq2 with ⟨rfl, hno⟩ | ⟨q, u, rfl, hn⟩
    · have HSt : Hid (stepU p T H = (4, T, H)) := hide9 (by unfold stepU; rw [if_neg (by rw [HKd.out]; decide), if_neg (by rw [HKd.out]; decide), if_neg (by rw [HKd.out]; decide), if_pos HKd.out, HI.out.hp, hno])
      clear hno
      go_wp2
      (try rw [Exit.noGoto_ret])
      go_ret
      refine ⟨?_, HB.out⟩
      rw [HSt.out]
      exact StpP.err (by decide)
    · have HN := hide9 hn
      clear hn
      have b5 : Up15u2.cell? ⟨kb, 5, none⟩ = some (.int .i64 p.af.1) := (by rw [cell_of_row Up15u2 kb 5 _ _ _ HK.out]; rfl)
      have b6 : Up15u2.cell? ⟨kb, 6, none⟩ = some (.int .i64 p.af.2) := (by rw [cell_of_row Up15u2 kb 6 _ _ _ HK.out]; rfl)
      go_upto_region 5 with (go_at_call 53; refine (ahead_s HP.out HPp.out HN.out.cx.1 (Rt_iff.1 HN.out.rt).2 p.af).mono ?_; rintro e w3 ⟨⟨v, rfl, hq⟩, hb⟩; clear b5 b6; rcases hq with ⟨rfl, hz, hno⟩ | ⟨a, rfl, hka, ham, hau⟩)
      · have HSt : Hid (stepU p T H = (7, T, H)) := hide9 (by unfold stepU; rw [if_neg (by rw [HKd.out]; decide), if_neg (by rw [HKd.out]; decide), if_neg (by rw [HKd.out]; decide), if_pos HKd.out, HI.out.hp, HN.out.fv]; dsimp only; rw [if_pos ⟨hz, hno⟩])
        clear hz hno
        replace HB : Hid (BelT B w w3) := HB.out.trans (BelT.of hb HP.out.le)
        replace HK : Hid (w3.heap[kb]? = some (.cells #[.int .i64 p.kd, .int .i64 p.k.1, .int .i64 p.k.2, .int .i64 p.pa.1, .int .i64 p.pa.2, .int .i64 p.af.1, .int .i64 p.af.2, .string p.nm, .string p.vl] 42)) := (hb.block _ (row_lt HK.out)).trans HK.out
        replace HP : Hid (PwM B wb bm bh (some top) X g D w3) := HP.out.below hb
        clear hb
        go_wp2
        (try rw [Exit.noGoto_ret])
        go_ret
        refine ⟨?_, HB.out⟩
        rw [HSt.out]
        exact StpP.err (by decide)
      · have HSt : Hid (stepU p T H = (0, insV p.pa p.af y T, cutL p.k H)) := hide9 (by unfold stepU; rw [if_neg (by rw [HKd.out]; decide), if_neg (by rw [HKd.out]; decide), if_neg (by rw [HKd.out]; decide), if_pos HKd.out, HI.out.hp, HN.out.fv]; dsimp only; rw [if_neg (fun e => hau.elim e.1 e.2)])
        have HA : Hid (KeyA g (fun c => X c ∧ c ≠ bh) a p.af ∧ (∀ x, a = some x → x ∈ g.C q) ∧ (p.af = (0, 0) ∨ p.af ∈ u.ks.map VT.k)) := ⟨hka, ham, hau⟩
        clear hka ham hau
        replace HB : Hid (BelT B w w3) := HB.out.trans (BelT.of hb HP.out.le)
        replace HK : Hid (w3.heap[kb]? = some (.cells #[.int .i64 p.kd, .int .i64 p.k.1, .int .i64 p.k.2, .int .i64 p.pa.1, .int .i64 p.pa.2, .int .i64 p.af.1, .int .i64 p.af.2, .string p.nm, .string p.vl] 42)) := (hb.block _ (row_lt HK.out)).trans HK.out
        replace HP : Hid (PwM B wb bm bh (some top) X g D w3) := HP.out.below hb
        clear hb
        go_wp2_with (go_at_call 50; refine (unlink_s HP.out HPp.out.lk HPp.out.xh HI.out.mem).mono ?_; rintro e w4 ⟨⟨v, rfl⟩, hg, ht⟩)
        replace HB : Hid (BelT B w w4) := HB.out.trans (HP.out.touchT ht)
        replace HK : Hid (w4.heap[kb]? = some (.cells #[.int .i64 p.kd, .int .i64 p.k.1, .int .i64 p.k.2, .int .i64 p.pa.1, .int .i64 p.pa.2, .int .i64 p.af.1, .int .i64 p.af.2, .string p.nm, .string p.vl] 42)) := HP.out.row ht HK.out (by decide)
        replace HP : Hid (PwM B wb bm bh (some top) X (unl g bh c) D w4) := hg
        clear hg ht
        have HAm : Hid (∀ x, a = some x → x ∈ (unl g bh c).C q) := fun x hx => List.mem_filter.2 ⟨HA.out.2.1 x hx, (by simpa using fun (e : x = c) => HN.out.cx.2 (HPp.out.lk.one HN.out.cx.1 HPp.out.xh (HA.out.2.1 x hx) (e ▸ HI.out.mem)))⟩
        refine (link_s HP.out (HPp.out.lk.unl HPp.out.xh HI.out.mem) HI.out.cx.1 (fun r _ => not_unl r) HN.out.cx.1 HAm.out).mono ?_
        rintro e w5 ⟨⟨v2, rfl⟩, hg, ht⟩
        replace HB : Hid (BelT B w w5) := HB.out.trans (HP.out.touchT ht)
        replace HK : Hid (w5.heap[kb]? = some (.cells #[.int .i64 p.kd, .int .i64 p.k.1, .int .i64 p.k.2, .int .i64 p.pa.1, .int .i64 p.pa.2, .int .i64 p.af.1, .int .i64 p.af.2, .string p.nm, .string p.vl] 42)) := HP.out.row ht HK.out (by decide)
        replace HP : Hid (PwM B wb bm bh (some top) X (lnk (unl g bh c) c q a) D w5) := hg
        clear hg ht
        (try go_wp2)
        (try rw [Exit.noGoto_ret])
        go_ret
        refine ⟨?_, HB.out⟩
        rw [HSt.out]
        refine StpP.ok ⟨HP.out, ?_⟩
        have hyk := HI.out.yk
        have h9 := HPp.out.putG (y := y) (u := u) (p := q) (c := c) (a := a) (pk := p.pa) (ak := p.af) HI.out.mem HI.out.rt (by rw [hyk]; exact HI.out.fl) (by rw [hyk]; exact HI.out.nt) HN.out.fv HN.out.cx HN.out.ck HA.out.2.1 HA.out.1 HA.out.2.2
        rw [hyk] at h9
        exact h9

set_option maxRecDepth 100000 in
set_option maxHeartbeats 4000000 in
theorem shift_s {B wb bm bh top : Nat} {X : Nat → Prop} {g : Gr} {D : List (St × Nat)} {T : VT} {H : List VT} (p : Pa) (w : World) (h : PwM B wb bm bh (some top) X g D w) (hp : PwP bh X g D [T] [top] H) (hkd : p.kd = 5) (haf : p.af ≠ p.k ∨ p.af = (0, 0)) :
    Calls Try.prog 34 #[.pointer (some ⟨wb, 0, none⟩), paV p] w fun e w' => StpP B wb bm bh top (stepU p T H) e w' ∧ BelT B w w' := by
  have HAf := hide9 haf
  clear haf
  have HPp := hide9 hp
  have HKd := hide9 hkd
  clear hp hkd
  have hbx : Below w.heap.size w (w.alloc (.cells #[.int .i64 p.kd, .int .i64 p.k.1, .int .i64 p.k.2, .int .i64 p.pa.1, .int .i64 p.pa.2, .int .i64 p.af.1, .int .i64 p.af.2, .string p.nm, .string p.vl] 42)) := (Below.refl _ _).alloc (Nat.le_refl _) _
  have HB : Hid (BelT B w (w.alloc (.cells #[.int .i64 p.kd, .int .i64 p.k.1, .int .i64 p.k.2, .int .i64 p.pa.1, .int .i64 p.pa.2, .int .i64 p.af.1, .int .i64 p.af.2, .string p.nm, .string p.vl] 42))) := BelT.of hbx h.le
  have HP : Hid (PwM B wb bm bh (some top) X g D (w.alloc (.cells #[.int .i64 p.kd, .int .i64 p.k.1, .int .i64 p.k.2, .int .i64 p.pa.1, .int .i64 p.pa.2, .int .i64 p.af.1, .int .i64 p.af.2, .string p.nm, .string p.vl] 42))) := h.below hbx
  have HK : Hid ((w.alloc (.cells #[.int .i64 p.kd, .int .i64 p.k.1, .int .i64 p.k.2, .int .i64 p.pa.1, .int .i64 p.pa.2, .int .i64 p.af.1, .int .i64 p.af.2, .string p.nm, .string p.vl] 42)).heap[w.heap.size]? = some (.cells #[.int .i64 p.kd, .int .i64 p.k.1, .int .i64 p.k.2, .int .i64 p.pa.1, .int .i64 p.pa.2, .int .i64 p.af.1, .int .i64 p.af.2, .string p.nm, .string p.vl] 42)) := heap_alloc_new _ _
  clear hbx h
  show Calls Try.prog 34 #[.pointer (some ⟨wb, 0, none⟩), .agg #[.int .i64 p.kd, .int .i64 p.k.1, .int .i64 p.k.2, .int .i64 p.pa.1, .int .i64 p.pa.2, .int .i64 p.af.1, .int .i64 p.af.2, .string p.nm, .string p.vl]] w _
  go_enter Try.func34, Try.ntmps34
  go_upto_region 2 with (go_at_call 52; refine (inTree_s HP.out HPp.out p.k).mono ?_; rintro e w1 ⟨⟨v, rfl, hq⟩, hb⟩)
  replace HB : Hid (BelT B w w1) := HB.out.trans (BelT.of hb HP.out.le)
  replace HK : Hid (w1.heap[w.heap.size]? = some (.cells #[.int .i64 p.kd, .int .i64 p.k.1, .int .i64 p.k.2, .int .i64 p.pa.1, .int .i64 p.pa.2, .int .i64 p.af.1, .int .i64 p.af.2, .string p.nm, .string p.vl] 42)) := (hb.block _ (row_lt HK.out)).trans HK.out
  replace HP : Hid (PwM B wb bm bh (some top) X g D w1) := HP.out.below hb
  clear hb
  obtain ⟨kb, ekb⟩ : ∃ b, b = w.heap.size := ⟨_, rfl⟩
  rw [← ekb] at HK ⊢
  clear ekb
  rcases hq with ⟨rfl, hno⟩ | ⟨c, y, rfl, hn⟩
  · have HSt : Hid (stepU p T H = (4, T, H)) := hide9 (by unfold stepU; rw [if_neg (by rw [HKd.out]; decide), if_neg (by rw [HKd.out]; decide), if_neg (by rw [HKd.out]; decide), if_neg (by rw [HKd.out]; decide), if_pos HKd.out, hno])
    clear hno
    go_wp2
    (try rw [Exit.noGoto_ret])
    go_ret
    refine ⟨?_, HB.out⟩
    rw [HSt.out]
    exact StpP.err (by decide)
  · have HN := hide9 hn
    clear hn
    have c1 : w1.cell? ⟨wb, 1, none⟩ = some (.pointer (some ⟨top, 0, none⟩)) := HP.out.c1
    have heq : (binOp .eql 49 (.pointer (some ⟨c, 0, none⟩)) (.pointer (some ⟨top, 0, none⟩))).run Try.prog w1 = .ok (.bool (decide (c = top))) w1 := eqlB c top w1 (HP.out.mem c HN.out.cx.1) (HP.out.mem top HPp.out.topX.1.1)
    by_cases hct : c = top
    · have HSt : Hid (stepU p T H = (7, T, H)) := hide9 (by unfold stepU; rw [if_neg (by rw [HKd.out]; decide), if_neg (by rw [HKd.out]; decide), if_neg (by rw [HKd.out]; decide), if_neg (by rw [HKd.out]; decide), if_pos HKd.out, HN.out.fv]; dsimp only; rw [if_pos (by rw [← HPp.out.topX.2.2.2, ← hct]; exact HN.out.ck)])
      rw [decide_eq_true hct] at heq
      clear hct
      go_wp2
      (try rw [Exit.noGoto_ret])
      go_ret
      refine ⟨?_, HB.out⟩
      rw [HSt.out]
      exact StpP.err (by decide)
    · rw [decide_eq_false hct] at heq
      have HTk : Hid (T.k ≠ p.k) := hide9 (fun e => hct (HPp.out.inj HN.out.cx HPp.out.topX.1 (by rw [HN.out.ck, HPp.out.topX.2.2.2, e])))
      obtain ⟨m, hm⟩ := HN.out.up
      obtain ⟨q, u, hqX, hcq, huq, hfu, hru, hku⟩ := HPp.out.above (y := y) HN.out.cx hct hm HN.out.ck
      have HPar : Hid (parV p.k T = some (g.o q).k) := hide9 (parV_of p.k _ T u (List.nodup_append.1 HPp.out.nd1).1 hfu hku)
      have HQ : Hid ((X q ∧ q ≠ bh) ∧ c ∈ g.C q ∧ fndV (g.o q).k T = some u ∧ RtL g u.ks (g.C q) ∧ p.k ∈ u.ks.map VT.k) := ⟨hqX, hcq, hfu, hru, hku⟩
      have u6 : w1.cell? ⟨c, 6, none⟩ = some (.pointer (some ⟨q, 0, none⟩)) := (by have h9 := HP.out.mem.cup HN.out.cx.1; rw [huq] at h9; exact h9)
      clear hct hm hqX hcq huq hfu hru hku
      have b5 : w1.cell? ⟨kb, 5, none⟩ = some (.int .i64 p.af.1) := (by rw [cell_of_row w1 kb 5 _ _ _ HK.out]; rfl)
      have b6 : w1.cell? ⟨kb, 6, none⟩ = some (.int .i64 p.af.2) := (by rw [cell_of_row w1 kb 6 _ _ _ HK.out]; rfl)
      go_upto_region 8 with (go_at_call 53; refine (ahead_s HP.out HPp.out HQ.out.1.1 HQ.out.2.2.2.1 p.af).mono ?_; rintro e w3 ⟨⟨v, rfl, hq⟩, hb⟩; clear b5 b6 c1 u6 heq; rcases hq with ⟨rfl, hz, hno⟩ | ⟨a, rfl, hka, ham, hau⟩)
      · have HSt : Hid (stepU p T H = (7, T, H)) := hide9 (by unfold stepU; rw [if_neg (by rw [HKd.out]; decide), if_neg (by rw [HKd.out]; decide), if_neg (by rw [HKd.out]; decide), if_neg (by rw [HKd.out]; decide), if_pos HKd.out, HN.out.fv]; dsimp only; rw [if_neg HTk.out, HPar.out]; dsimp only; rw [HQ.out.2.2.1]; dsimp only; rw [if_pos ⟨hz, hno⟩])
        clear hz hno
        replace HB : Hid (BelT B w w3) := HB.out.trans (BelT.of hb HP.out.le)
        replace HK : Hid (w3.heap[kb]? = some (.cells #[.int .i64 p.kd, .int .i64 p.k.1, .int .i64 p.k.2, .int .i64 p.pa.1, .int .i64 p.pa.2, .int .i64 p.af.1, .int .i64 p.af.2, .string p.nm, .string p.vl] 42)) := (hb.block _ (row_lt HK.out)).trans HK.out
        replace HP : Hid (PwM B wb bm bh (some top) X g D w3) := HP.out.below hb
        clear hb
        go_wp2
        (try rw [Exit.noGoto_ret])
        go_ret
        refine ⟨?_, HB.out⟩
        rw [HSt.out]
        exact StpP.err (by decide)
      · have HSt : Hid (stepU p T H = (0, insV (g.o q).k p.af y (cutV p.k T), H)) := hide9 (by unfold stepU; rw [if_neg (by rw [HKd.out]; decide), if_neg (by rw [HKd.out]; decide), if_neg (by rw [HKd.out]; decide), if_neg (by rw [HKd.out]; decide), if_pos HKd.out, HN.out.fv]; dsimp only; rw [if_neg HTk.out, HPar.out]; dsimp only; rw [HQ.out.2.2.1]; dsimp only; rw [if_neg (fun e => hau.elim e.1 e.2)])
        have HA : Hid (KeyA g (fun c => X c ∧ c ≠ bh) a p.af ∧ (∀ x, a = some x → x ∈ g.C q) ∧ (p.af = (0, 0) ∨ p.af ∈ u.ks.map VT.k)) := ⟨hka, ham, hau⟩
        clear hka ham hau
        replace HB : Hid (BelT B w w3) := HB.out.trans (BelT.of hb HP.out.le)
        replace HK : Hid (w3.heap[kb]? = some (.cells #[.int .i64 p.kd, .int .i64 p.k.1, .int .i64 p.k.2, .int .i64 p.pa.1, .int .i64 p.pa.2, .int .i64 p.af.1, .int .i64 p.af.2, .string p.nm, .string p.vl] 42)) := (hb.block _ (row_lt HK.out)).trans HK.out
        replace HP : Hid (PwM B wb bm bh (some top) X g D w3) := HP.out.below hb
        clear hb
        have hyk : y.k = p.k := fndV_k p.k T y HN.out.fv
        have HAc : Hid (∀ x, a = some x → x ≠ c) := hide9 (fun x hx e => by subst hx; subst e; have h1 := HA.out.1; obtain ⟨z1, z2⟩ := h1; have h2 := (z2 x HN.out.cx).2 rfl; rw [HN.out.ck] at h2; exact (HAf.out.elim (fun h => h h2.symm) z1))
        have HAm : Hid (∀ x, a = some x → x ∈ (unl g q c).C q) := fun x hx => List.mem_filter.2 ⟨HA.out.2.1 x hx, (by simpa using HAc.out x hx)⟩
        have HYk := hide9 hyk
        clear hyk
        go_wp2_with (go_at_call 50; refine (unlink_s HP.out HPp.out.lk HQ.out.1.1 HQ.out.2.1).mono ?_; rintro e w4 ⟨⟨v, rfl⟩, hg, ht⟩)
        replace HB : Hid (BelT B w w4) := HB.out.trans (HP.out.touchT ht)
        replace HK : Hid (w4.heap[kb]? = some (.cells #[.int .i64 p.kd, .int .i64 p.k.1, .int .i64 p.k.2, .int .i64 p.pa.1, .int .i64 p.pa.2, .int .i64 p.af.1, .int .i64 p.af.2, .string p.nm, .string p.vl] 42)) := HP.out.row ht HK.out (by decide)
        replace HP : Hid (PwM B wb bm bh (some top) X (unl g q c) D w4) := hg
        clear hg ht
        refine (link_s HP.out (HPp.out.lk.unl HQ.out.1.1 HQ.out.2.1) HN.out.cx.1 (fun r _ => not_unl r) HQ.out.1.1 HAm.out).mono ?_
        rintro e w5 ⟨⟨v2, rfl⟩, hg, ht⟩
        replace HB : Hid (BelT B w w5) := HB.out.trans (HP.out.touchT ht)
        replace HK : Hid (w5.heap[kb]? = some (.cells #[.int .i64 p.kd, .int .i64 p.k.1, .int .i64 p.k.2, .int .i64 p.pa.1, .int .i64 p.pa.2, .int .i64 p.af.1, .int .i64 p.af.2, .string p.nm, .string p.vl] 42)) := HP.out.row ht HK.out (by decide)
        replace HP : Hid (PwM B wb bm bh (some top) X (lnk (unl g q c) c q a) D w5) := hg
        clear hg ht
        (try go_wp2)
        (try rw [Exit.noGoto_ret])
        go_ret
        refine ⟨?_, HB.out⟩
        rw [HSt.out]
        refine StpP.ok ⟨HP.out, ?_⟩
        have hyk := HYk.out
        have h9 := HPp.out.shiftG (y := y) (u := u) (p := q) (c := c) (a := a) (ak := p.af) HQ.out.2.1 HN.out.rt (by rw [hyk]; exact HN.out.fv) (by rw [hyk]; exact HTk.out) (by rw [hyk]; exact HN.out.nh) HQ.out.1 HQ.out.2.2.1 (by rw [hyk]; exact HQ.out.2.2.2.2) HA.out.2.1 HA.out.1 (by rw [hyk]; exact HAf.out) HA.out.2.2
        rw [hyk] at h9
        exact h9

theorem take_s {B wb bm bh top : Nat} {X : Nat → Prop} {g : Gr} {D : List (St × Nat)} {T : VT} {H : List VT} (p : Pa) (w : World) (h : PwM B wb bm bh (some top) X g D w) (hp : PwP bh X g D [T] [top] H) (hkd : p.kd = 1) :
    Calls Try.prog 30 #[.pointer (some ⟨wb, 0, none⟩), paV p] w fun e w' => StpP B wb bm bh top (stepU p T H) e w' ∧ BelT B w w' := by
  have hnd := hp.nd1
  rcases hp.look p.k with ⟨h1, h2, e⟩ | ⟨y, c, m, e1, e2, e3, e4, e5, e6, e7⟩ | ⟨y, c, m, r, e1, e2, e3, e4, e5, e6, e7, e8⟩
  · have hst : stepU p T H = (4, T, H) := by
      unfold stepU
      rw [if_pos hkd, if_neg (fun hm => h2 (keysL_kid hm)), (fndL_none p.k H).2 h2]
      dsimp only
      rw [if_neg (fun e => h1 (by rw [keysV_eq, e]; exact List.mem_cons_self ..)), (fndV_none p.k T).2 h1]
    rw [hst]
    exact (take_none p w h e).mono fun e w' ⟨h3, h4⟩ => ⟨by rw [h3]; exact StpP.err (by decide), h4⟩
  · have hy : y.k = p.k := fndV_k p.k T y e1
    by_cases hct : c = top
    · subst hct
      have hst : stepU p T H = (7, T, H) := by
        unfold stepU
        rw [if_pos hkd, if_neg (fun hm => e2 (keysL_kid hm)), (fndL_none p.k H).2 e2]
        dsimp only
        rw [if_pos (by rw [← hp.topX.2.2.2]; exact e5)]
      rw [hst]
      exact (take_top p w h e7 e3.1 hp.topX.2.1).mono fun e w' ⟨h3, h4⟩ => ⟨by rw [h3]; exact StpP.err (by decide), h4⟩
    · have hTk : T.k ≠ p.k := fun e => hct (hp.inj e3 hp.topX.1 (by rw [e5, hp.topX.2.2.2, e]))
      have hst : stepU p T H = (0, cutV p.k T, y :: H) := by
        unfold stepU
        rw [if_pos hkd, if_neg (fun hm => e2 (keysL_kid hm)), (fndL_none p.k H).2 e2]
        dsimp only
        rw [if_neg hTk, e1]
      rw [hst]
      obtain ⟨q, u, hqX, hcq, huq, hfu, hru, hku⟩ := hp.above (y := y) e3 hct e6 e5
      have h9 := hp.takeG (y := y) hqX.1 hcq e4 (by rw [hy]; exact hTk) (.inl (by rw [hy]; exact e1))
      rw [hy, cutL_off p.k H e2] at h9
      exact (take_do p w h e7 e3.1 hp.xh huq hqX.1 hqX.2 hp.topX.1.1 hct hp.lk hcq).mono fun e w' ⟨h3, h5, h4⟩ => ⟨(by rw [h3]; exact StpP.ok ⟨h5, h9⟩), h4⟩
  · have hy : y.k = p.k := fndL_k p.k H y e1
    have hTk : T.k ≠ p.k := fun e => e2 (by rw [keysV_eq, e]; exact List.mem_cons_self ..)
    obtain ⟨q, hq, hcq, hu⟩ := hp.aboveH e3 e6 e7
    by_cases hqb : q = bh
    · subst hqb
      have hst : stepU p T H = (4, T, H) := by
        unfold stepU
        rw [if_pos hkd, if_pos (by rw [← e5]; exact (hp.heldOf e3).2 hu)]
      rw [hst]
      exact (take_held p w h e8 e3.1 hp.xh hu).mono fun e w' ⟨h3, h4⟩ => ⟨by rw [h3]; exact StpP.err (by decide), h4⟩
    · have hst : stepU p T H = (0, T, y :: cutL p.k H) := by
        unfold stepU
        rw [if_pos hkd, if_neg (fun hm => by rw [← e5, hp.heldOf e3, hu] at hm; injection hm with hm; exact hqb hm), e1]
      rw [hst]
      have h9 := hp.takeG (y := y) hq hcq e4 (by rw [hy]; exact hTk) (.inr (by rw [hy]; exact e1))
      rw [hy, cutV_off p.k T (fun e => e2 (by rw [keysV_eq]; exact List.mem_cons_of_mem _ e))] at h9
      exact (take_do p w h e8 e3.1 hp.xh hu hq hqb hp.topX.1.1 (fun e => by rw [e, hp.topX.2.1] at hu; cases hu) hp.lk hcq).mono fun e w' ⟨h3, h5, h4⟩ => ⟨(by rw [h3]; exact StpP.ok ⟨h5, h9⟩), h4⟩

end Go.Proofs.Ytccpljllgpabnab
