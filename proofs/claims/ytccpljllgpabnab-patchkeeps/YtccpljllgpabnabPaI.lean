/- setTag, setText. -/
import Derived.Test.YtccpljllgpabnabPaH
namespace Go.Proofs.Ytccpljllgpabnab
open Go.RowKit
set_option linter.unusedVariables false
set_option linter.unusedSimpArgs false

section
variable {B wb bm bh top : Nat} {tp : Option Nat} {X : Nat → Prop} {g : Gr} {D : List (St × Nat)} {T : VT} {H : List VT} {w W W' : World}
/-- A node's own field is another one. -/
theorem PwM.own (h : PwM B wb bm bh tp X g D W) {c i : Nat} {v : Value} {f : Nf} (hc : X c) (hf : f.at_ = (g.o c).at_) (hr : (gRow g c).setIfInBounds i v = gRow { g with o := updF g.o c f, av := g.av } c) : PwM B wb bm bh tp X { g with o := updF g.o c f, av := g.av } D (W.setCell ⟨c, i, none⟩ v) ∧ BelT B W (W.setCell ⟨c, i, none⟩ v) ∧ ∀ k, k ≠ c → (W.setCell ⟨c, i, none⟩ v).heap[k]? = W.heap[k]? := by
  have hk : ∀ k, k ≠ c → (W.setCell ⟨c, i, none⟩ v).heap[k]? = W.heap[k]? := fun k e => RowKit.Below.heap_setCell _ _ _ _ e
  refine ⟨⟨(hk _ (fun (e : wb = c) => h.wX (by rw [e]; exact hc))).trans h.wr, h.mp.keep (hk _ fun (e : bm = c) => h.mX (by rw [e]; exact hc)), fun b hb => ?_, fun b hb => ?_, h.ap, h.lo⟩, ⟨(Below.refl _ _).setCell (p := ⟨c, i, none⟩) (h.lo.2.2 c hc) _, fun k cs e => (hk k (fun (e2 : k = c) => h.notX e (by decide) (by rw [e2]; exact hc))).trans e⟩, hk⟩
  · by_cases e : b = c
    · subst e
      rw [heap_setCell_same W b i _ _ _ (h.mem b hb), hr]
    · rw [hk b e, h.mem b hb]
      simp only [gRow, updF_ne _ _ e]
  · have h1 := h.at_ b hb
    have h2 : (updF g.o c f b).at_ = (g.o b).at_ := by
      by_cases e : b = c
      · rw [e, updF_same, hf]
      · rw [updF_ne _ _ e]
    show OwnAt B _ (g.av b) (updF g.o c f b).at_
    rw [h2]
    exact OwnE.keep h1 fun k e => hk k fun (e2 : k = c) => (h.aT hb e).1 (by rw [e2]; exact hc)
/-- What a step does to a node's own fields. -/
theorem PwP.fieldU (h : PwP bh X g D [T] [top] H) (p : Pa) (hkd : 6 ≤ p.kd) : (getP Prod.fst D p.k = none ∧ stepU p T H = (4, T, H)) ∨ ∃ c, getP Prod.fst D p.k = some (p.k, c) ∧ (X c ∧ c ≠ bh) ∧ (g.o c).k = p.k ∧ stepU p T H = if (stepF p (g.o c)).1 ≠ 0 then ((stepF p (g.o c)).1, T, H) else (0, withV p.k (fun f => (stepF p f).2) T, withL p.k (fun f => (stepF p f).2) H) := by
  have h0 : stepU p T H = match (fndV p.k T).or (fndL p.k H) with | none => (4, T, H) | some y => if (stepF p y.nf).1 ≠ 0 then ((stepF p y.nf).1, T, H) else (0, withV p.k (fun f => (stepF p f).2) T, withL p.k (fun f => (stepF p f).2) H) := by
    unfold stepU
    rw [if_neg (by omega), if_neg (by omega), if_neg (by omega), if_neg (by omega), if_neg (by omega)]
    cases (fndV p.k T).or (fndL p.k H) <;> rfl
  rcases h.look p.k with ⟨h1, h2, e⟩ | ⟨y, c, m, e1, e2, e3, e4, e5, e6, e7⟩ | ⟨y, c, m, r, e1, e2, e3, e4, e5, e6, e7, e8⟩
  · exact .inl ⟨e, by rw [h0, (fndV_none p.k T).2 h1, (fndL_none p.k H).2 h2]; rfl⟩
  · have hn : g.o c = y.nf := (Rt_iff.1 e4).1
    exact .inr ⟨c, e7, e3, e5, by rw [h0, e1, hn]; rfl⟩
  · have hn : g.o c = y.nf := (Rt_iff.1 e4).1
    exact .inr ⟨c, e8, e3, e5, by rw [h0, (fndV_none p.k T).2 e2, e1, hn]; rfl⟩
end

set_option maxRecDepth 100000 in
set_option maxHeartbeats 4000000 in
theorem setTag_s {B wb bm bh top : Nat} {X : Nat → Prop} {g : Gr} {D : List (St × Nat)} {T : VT} {H : List VT} (p : Pa) (w : World) (h : PwM B wb bm bh (some top) X g D w) (hp : PwP bh X g D [T] [top] H) (hkd : p.kd = 6) :
    Calls Try.prog 35 #[.pointer (some ⟨wb, 0, none⟩), paV p] w fun e w' => StpP B wb bm bh top (stepU p T H) e w' ∧ BelT B w w' := by
  have HPp := hide9 hp
  have HKd := hide9 hkd
  rcases hp.fieldU p (by omega) with ⟨e, hst⟩ | ⟨c, e, hc, hck, hst⟩
  · have HE := hide9 e
    have HSt := hide9 hst
    clear e hst
    clear hp hkd
    have hbx : Below w.heap.size w (w.alloc (.cells #[.int .i64 p.kd, .int .i64 p.k.1, .int .i64 p.k.2, .int .i64 p.pa.1, .int .i64 p.pa.2, .int .i64 p.af.1, .int .i64 p.af.2, .string p.nm, .string p.vl] 42)) := (Below.refl _ _).alloc (Nat.le_refl _) _
    have HB : Hid (BelT B w (w.alloc (.cells #[.int .i64 p.kd, .int .i64 p.k.1, .int .i64 p.k.2, .int .i64 p.pa.1, .int .i64 p.pa.2, .int .i64 p.af.1, .int .i64 p.af.2, .string p.nm, .string p.vl] 42))) := BelT.of hbx h.le
    have HP : Hid (PwM B wb bm bh (some top) X g D (w.alloc (.cells #[.int .i64 p.kd, .int .i64 p.k.1, .int .i64 p.k.2, .int .i64 p.pa.1, .int .i64 p.pa.2, .int .i64 p.af.1, .int .i64 p.af.2, .string p.nm, .string p.vl] 42))) := h.below hbx
    have HK : Hid ((w.alloc (.cells #[.int .i64 p.kd, .int .i64 p.k.1, .int .i64 p.k.2, .int .i64 p.pa.1, .int .i64 p.pa.2, .int .i64 p.af.1, .int .i64 p.af.2, .string p.nm, .string p.vl] 42)).heap[w.heap.size]? = some (.cells #[.int .i64 p.kd, .int .i64 p.k.1, .int .i64 p.k.2, .int .i64 p.pa.1, .int .i64 p.pa.2, .int .i64 p.af.1, .int .i64 p.af.2, .string p.nm, .string p.vl] 42)) := heap_alloc_new _ _
    clear hbx h
    show Calls Try.prog 35 #[.pointer (some ⟨wb, 0, none⟩), .agg #[.int .i64 p.kd, .int .i64 p.k.1, .int .i64 p.k.2, .int .i64 p.pa.1, .int .i64 p.pa.2, .int .i64 p.af.1, .int .i64 p.af.2, .string p.nm, .string p.vl]] w _
    go_enter Try.func35, Try.ntmps35
    go_wp2
    obtain ⟨W0, eW0⟩ : ∃ X, X = (w.alloc (.cells #[.int .i64 p.kd, .int .i64 p.k.1, .int .i64 p.k.2, .int .i64 p.pa.1, .int .i64 p.pa.2, .int .i64 p.af.1, .int .i64 p.af.2, .string p.nm, .string p.vl] 42)) := ⟨_, rfl⟩
    rw [← eW0] at HB HP HK ⊢
    obtain ⟨kb, ekb⟩ : ∃ b, b = w.heap.size := ⟨_, rfl⟩
    rw [← ekb] at HK ⊢
    clear eW0 ekb
    refine wp_region_held_drew (S := fun W' => PwM B wb bm bh (some top) X g D W' ∧ W'.heap[kb]? = some (.cells #[.int .i64 p.kd, .int .i64 p.k.1, .int .i64 p.k.2, .int .i64 p.pa.1, .int .i64 p.pa.2, .int .i64 p.af.1, .int .i64 p.af.2, .string p.nm, .string p.vl] 42)) (by kernel_rfl) ⟨HP.out.drew, HK.out⟩ (fun hHeld => ?_)
    obtain ⟨Us1False5u0, eW⟩ : ∃ X, X = W0.drew := ⟨_, rfl⟩
    have hb : Below W0.heap.size W0 Us1False5u0 := by rw [eW]; exact (Below.refl _ _).drew
    replace HB : Hid (BelT B w Us1False5u0) := HB.out.trans (BelT.of hb HP.out.le)
    replace HP : Hid (PwM B wb bm bh (some top) X g D Us1False5u0) := HP.out.below hb
    replace HK : Hid (Us1False5u0.heap[kb]? = some (.cells #[.int .i64 p.kd, .int .i64 p.k.1, .int .i64 p.k.2, .int .i64 p.pa.1, .int .i64 p.pa.2, .int .i64 p.af.1, .int .i64 p.af.2, .string p.nm, .string p.vl] 42)) := (hb.block _ (row_lt HK.out)).trans HK.out
    rw [← eW] at hHeld ⊢
    clear eW hb
    refine tkW 0 (some 6) (v := ?_) ?_ hHeld ?_
    rotate_left
    · (intro ww _; go_simp; try with_reducible rfl)
    refine tkW 1 (some 7) (v := ?_) ?_ hHeld ?_
    rotate_left
    · (intro ww hSw; (try dsimp only at hSw); obtain ⟨hP, hK⟩ := hSw; have c0 := hP.c0; have b1 : ww.cell? ⟨kb, 1, none⟩ = some (.int .i64 p.k.1) := (by rw [cell_of_row ww kb 1 _ _ _ hK]; rfl); have b2 : ww.cell? ⟨kb, 2, none⟩ = some (.int .i64 p.k.2) := (by rw [cell_of_row ww kb 2 _ _ _ hK]; rfl); have hlk := hP.lookN HE.out; go_simp; try with_reducible rfl)
    refine tkW 2 (some 8) (v := ?_) ?_ hHeld ?_
    rotate_left
    · (intro ww _; go_simp; try with_reducible rfl)
    refine tkW 3 (some 9) (v := ?_) ?_ hHeld ?_
    rotate_left
    · (intro ww hSw; (try dsimp only at hSw); obtain ⟨hP, hK⟩ := hSw; have c0 := hP.c0; have b1 : ww.cell? ⟨kb, 1, none⟩ = some (.int .i64 p.k.1) := (by rw [cell_of_row ww kb 1 _ _ _ hK]; rfl); have b2 : ww.cell? ⟨kb, 2, none⟩ = some (.int .i64 p.k.2) := (by rw [cell_of_row ww kb 2 _ _ _ hK]; rfl); have hlk := hP.lookN HE.out; go_simp; try with_reducible rfl)
    refine tkW 4 (some 10) (v := ?_) ?_ hHeld ?_
    rotate_left
    · (intro ww _; go_simp; try with_reducible rfl)
    refine tkW 5 (some 11) (v := ?_) ?_ hHeld ?_
    rotate_left
    · (intro ww hSw; (try dsimp only at hSw); obtain ⟨hP, hK⟩ := hSw; have c0 := hP.c0; have b1 : ww.cell? ⟨kb, 1, none⟩ = some (.int .i64 p.k.1) := (by rw [cell_of_row ww kb 1 _ _ _ hK]; rfl); have b2 : ww.cell? ⟨kb, 2, none⟩ = some (.int .i64 p.k.2) := (by rw [cell_of_row ww kb 2 _ _ _ hK]; rfl); have hlk := hP.lookN HE.out; go_simp; try with_reducible rfl)
    refine tkW 6 (some 12) (v := ?_) ?_ hHeld ?_
    rotate_left
    · (intro ww hSw; (try dsimp only at hSw); obtain ⟨hP, hK⟩ := hSw; have c0 := hP.c0; have b1 : ww.cell? ⟨kb, 1, none⟩ = some (.int .i64 p.k.1) := (by rw [cell_of_row ww kb 1 _ _ _ hK]; rfl); have b2 : ww.cell? ⟨kb, 2, none⟩ = some (.int .i64 p.k.2) := (by rw [cell_of_row ww kb 2 _ _ _ hK]; rfl); have hlk := hP.lookN HE.out; go_simp; try with_reducible rfl)
    refine tkW 7 (some 5) (v := ?_) ?_ hHeld ?_
    rotate_left
    · (intro ww _; go_simp; try with_reducible rfl)
    refine wpAnyH_done (by kernel_rfl) ?_ _
    clear hHeld
    go_wp2
    (try rw [Exit.noGoto_ret])
    go_ret
    refine ⟨?_, HB.out⟩
    rw [HSt.out]
    exact StpP.err (by decide)
  · have hz : (stepF p (g.o c)).1 = 0 := (by unfold stepF; rw [if_pos hkd])
    rw [if_neg (by rw [hz]; decide)] at hst
    have HE := hide9 e
    have HC := hide9 hc
    have HCk := hide9 hck
    have HSt := hide9 hst
    clear e hc hck hst hz
    clear hp hkd
    have hbx : Below w.heap.size w (w.alloc (.cells #[.int .i64 p.kd, .int .i64 p.k.1, .int .i64 p.k.2, .int .i64 p.pa.1, .int .i64 p.pa.2, .int .i64 p.af.1, .int .i64 p.af.2, .string p.nm, .string p.vl] 42)) := (Below.refl _ _).alloc (Nat.le_refl _) _
    have HB : Hid (BelT B w (w.alloc (.cells #[.int .i64 p.kd, .int .i64 p.k.1, .int .i64 p.k.2, .int .i64 p.pa.1, .int .i64 p.pa.2, .int .i64 p.af.1, .int .i64 p.af.2, .string p.nm, .string p.vl] 42))) := BelT.of hbx h.le
    have HP : Hid (PwM B wb bm bh (some top) X g D (w.alloc (.cells #[.int .i64 p.kd, .int .i64 p.k.1, .int .i64 p.k.2, .int .i64 p.pa.1, .int .i64 p.pa.2, .int .i64 p.af.1, .int .i64 p.af.2, .string p.nm, .string p.vl] 42))) := h.below hbx
    have HK : Hid ((w.alloc (.cells #[.int .i64 p.kd, .int .i64 p.k.1, .int .i64 p.k.2, .int .i64 p.pa.1, .int .i64 p.pa.2, .int .i64 p.af.1, .int .i64 p.af.2, .string p.nm, .string p.vl] 42)).heap[w.heap.size]? = some (.cells #[.int .i64 p.kd, .int .i64 p.k.1, .int .i64 p.k.2, .int .i64 p.pa.1, .int .i64 p.pa.2, .int .i64 p.af.1, .int .i64 p.af.2, .string p.nm, .string p.vl] 42)) := heap_alloc_new _ _
    clear hbx h
    show Calls Try.prog 35 #[.pointer (some ⟨wb, 0, none⟩), .agg #[.int .i64 p.kd, .int .i64 p.k.1, .int .i64 p.k.2, .int .i64 p.pa.1, .int .i64 p.pa.2, .int .i64 p.af.1, .int .i64 p.af.2, .string p.nm, .string p.vl]] w _
    go_enter Try.func35, Try.ntmps35
    go_wp2
    obtain ⟨W0, eW0⟩ : ∃ X, X = (w.alloc (.cells #[.int .i64 p.kd, .int .i64 p.k.1, .int .i64 p.k.2, .int .i64 p.pa.1, .int .i64 p.pa.2, .int .i64 p.af.1, .int .i64 p.af.2, .string p.nm, .string p.vl] 42)) := ⟨_, rfl⟩
    rw [← eW0] at HB HP HK ⊢
    obtain ⟨kb, ekb⟩ : ∃ b, b = w.heap.size := ⟨_, rfl⟩
    rw [← ekb] at HK ⊢
    clear eW0 ekb
    refine wp_region_held_drew (S := fun W' => PwM B wb bm bh (some top) X g D W' ∧ W'.heap[kb]? = some (.cells #[.int .i64 p.kd, .int .i64 p.k.1, .int .i64 p.k.2, .int .i64 p.pa.1, .int .i64 p.pa.2, .int .i64 p.af.1, .int .i64 p.af.2, .string p.nm, .string p.vl] 42)) (by kernel_rfl) ⟨HP.out.drew, HK.out⟩ (fun hHeld => ?_)
    obtain ⟨Us1True6u0, eW⟩ : ∃ X, X = W0.drew := ⟨_, rfl⟩
    have hb : Below W0.heap.size W0 Us1True6u0 := by rw [eW]; exact (Below.refl _ _).drew
    replace HB : Hid (BelT B w Us1True6u0) := HB.out.trans (BelT.of hb HP.out.le)
    replace HP : Hid (PwM B wb bm bh (some top) X g D Us1True6u0) := HP.out.below hb
    replace HK : Hid (Us1True6u0.heap[kb]? = some (.cells #[.int .i64 p.kd, .int .i64 p.k.1, .int .i64 p.k.2, .int .i64 p.pa.1, .int .i64 p.pa.2, .int .i64 p.af.1, .int .i64 p.af.2, .string p.nm, .string p.vl] 42)) := (hb.block _ (row_lt HK.out)).trans HK.out
    rw [← eW] at hHeld ⊢
    clear eW hb
    refine tkW 0 (some 6) (v := ?_) ?_ hHeld ?_
    rotate_left
    · (intro ww _; go_simp; try with_reducible rfl)
    refine tkW 1 (some 7) (v := ?_) ?_ hHeld ?_
    rotate_left
    · (intro ww hSw; (try dsimp only at hSw); obtain ⟨hP, hK⟩ := hSw; have c0 := hP.c0; have b1 : ww.cell? ⟨kb, 1, none⟩ = some (.int .i64 p.k.1) := (by rw [cell_of_row ww kb 1 _ _ _ hK]; rfl); have b2 : ww.cell? ⟨kb, 2, none⟩ = some (.int .i64 p.k.2) := (by rw [cell_of_row ww kb 2 _ _ _ hK]; rfl); have hlk := hP.lookS HE.out; go_simp; try with_reducible rfl)
    refine tkW 2 (some 8) (v := ?_) ?_ hHeld ?_
    rotate_left
    · (intro ww _; go_simp; try with_reducible rfl)
    refine tkW 3 (some 9) (v := ?_) ?_ hHeld ?_
    rotate_left
    · (intro ww hSw; (try dsimp only at hSw); obtain ⟨hP, hK⟩ := hSw; have c0 := hP.c0; have b1 : ww.cell? ⟨kb, 1, none⟩ = some (.int .i64 p.k.1) := (by rw [cell_of_row ww kb 1 _ _ _ hK]; rfl); have b2 : ww.cell? ⟨kb, 2, none⟩ = some (.int .i64 p.k.2) := (by rw [cell_of_row ww kb 2 _ _ _ hK]; rfl); have hlk := hP.lookS HE.out; go_simp; try with_reducible rfl)
    refine tkW 4 (some 10) (v := ?_) ?_ hHeld ?_
    rotate_left
    · (intro ww _; go_simp; try with_reducible rfl)
    refine tkW 5 (some 11) (v := ?_) ?_ hHeld ?_
    rotate_left
    · (intro ww hSw; (try dsimp only at hSw); obtain ⟨hP, hK⟩ := hSw; have c0 := hP.c0; have b1 : ww.cell? ⟨kb, 1, none⟩ = some (.int .i64 p.k.1) := (by rw [cell_of_row ww kb 1 _ _ _ hK]; rfl); have b2 : ww.cell? ⟨kb, 2, none⟩ = some (.int .i64 p.k.2) := (by rw [cell_of_row ww kb 2 _ _ _ hK]; rfl); have hlk := hP.lookS HE.out; go_simp; try with_reducible rfl)
    refine tkW 6 (some 12) (v := ?_) ?_ hHeld ?_
    rotate_left
    · (intro ww hSw; (try dsimp only at hSw); obtain ⟨hP, hK⟩ := hSw; have c0 := hP.c0; have b1 : ww.cell? ⟨kb, 1, none⟩ = some (.int .i64 p.k.1) := (by rw [cell_of_row ww kb 1 _ _ _ hK]; rfl); have b2 : ww.cell? ⟨kb, 2, none⟩ = some (.int .i64 p.k.2) := (by rw [cell_of_row ww kb 2 _ _ _ hK]; rfl); have hlk := hP.lookS HE.out; go_simp; try with_reducible rfl)
    refine tkW 7 (some 5) (v := ?_) ?_ hHeld ?_
    rotate_left
    · (intro ww _; go_simp; try with_reducible rfl)
    refine wpAnyH_done (by kernel_rfl) ?_ _
    clear hHeld
    have b7 : Us1True6u0.cell? ⟨kb, 7, none⟩ = some (.string p.nm) := (by rw [cell_of_row Us1True6u0 kb 7 _ _ _ HK.out]; rfl)
    obtain ⟨v2, u2⟩ : ∃ v, Us1True6u0.cell? ⟨c, 2, none⟩ = some v := ⟨_, by rw [cell_of_row Us1True6u0 c 2 _ _ _ (HP.out.mem c HC.out.1)]; rfl⟩
    have z2 : Us1True6u0.frozen? ⟨c, 2, none⟩ = false := HP.out.mem.fz HC.out.1 2
    have hO := HP.out.own (c := c) (i := 2) (v := .string p.nm) (f := { g.o c with tg := p.nm }) HC.out.1 rfl (by simp [gRow, updF_same])
    have HP2 : Hid (PwM B wb bm bh (some top) X ({ g with o := updF g.o c { g.o c with tg := p.nm }, av := g.av }) D (Us1True6u0.setCell ⟨c, 2, none⟩ (.string p.nm))) := hO.1
    have HB2 : Hid (BelT B w (Us1True6u0.setCell ⟨c, 2, none⟩ (.string p.nm))) := HB.out.trans hO.2.1
    clear hO
    go_wp2
    (try rw [Exit.noGoto_ret])
    go_ret
    refine ⟨?_, HB2.out⟩
    rw [HSt.out]
    refine StpP.ok ⟨HP2.out, ?_⟩
    have hF : (fun f : Nf => (stepF p f).2) = fun f => { f with tg := p.nm } := funext fun f => by unfold stepF; rw [if_pos HKd.out]
    have h9 := HPp.out.with_ (n := c) (k := p.k) (F := fun f => { f with tg := p.nm }) HC.out HCk.out (fun _ => rfl) g.av
    rw [hF]
    simp only [withL] at h9
    exact h9

set_option maxRecDepth 100000 in
set_option maxHeartbeats 4000000 in
theorem setText_s {B wb bm bh top : Nat} {X : Nat → Prop} {g : Gr} {D : List (St × Nat)} {T : VT} {H : List VT} (p : Pa) (w : World) (h : PwM B wb bm bh (some top) X g D w) (hp : PwP bh X g D [T] [top] H) (hkd : p.kd = 7) :
    Calls Try.prog 36 #[.pointer (some ⟨wb, 0, none⟩), paV p] w fun e w' => StpP B wb bm bh top (stepU p T H) e w' ∧ BelT B w w' := by
  have HPp := hide9 hp
  have HKd := hide9 hkd
  rcases hp.fieldU p (by omega) with ⟨e, hst⟩ | ⟨c, e, hc, hck, hst⟩
  · have HE := hide9 e
    have HSt := hide9 hst
    clear e hst
    clear hp hkd
    have hbx : Below w.heap.size w (w.alloc (.cells #[.int .i64 p.kd, .int .i64 p.k.1, .int .i64 p.k.2, .int .i64 p.pa.1, .int .i64 p.pa.2, .int .i64 p.af.1, .int .i64 p.af.2, .string p.nm, .string p.vl] 42)) := (Below.refl _ _).alloc (Nat.le_refl _) _
    have HB : Hid (BelT B w (w.alloc (.cells #[.int .i64 p.kd, .int .i64 p.k.1, .int .i64 p.k.2, .int .i64 p.pa.1, .int .i64 p.pa.2, .int .i64 p.af.1, .int .i64 p.af.2, .string p.nm, .string p.vl] 42))) := BelT.of hbx h.le
    have HP : Hid (PwM B wb bm bh (some top) X g D (w.alloc (.cells #[.int .i64 p.kd, .int .i64 p.k.1, .int .i64 p.k.2, .int .i64 p.pa.1, .int .i64 p.pa.2, .int .i64 p.af.1, .int .i64 p.af.2, .string p.nm, .string p.vl] 42))) := h.below hbx
    have HK : Hid ((w.alloc (.cells #[.int .i64 p.kd, .int .i64 p.k.1, .int .i64 p.k.2, .int .i64 p.pa.1, .int .i64 p.pa.2, .int .i64 p.af.1, .int .i64 p.af.2, .string p.nm, .string p.vl] 42)).heap[w.heap.size]? = some (.cells #[.int .i64 p.kd, .int .i64 p.k.1, .int .i64 p.k.2, .int .i64 p.pa.1, .int .i64 p.pa.2, .int .i64 p.af.1, .int .i64 p.af.2, .string p.nm, .string p.vl] 42)) := heap_alloc_new _ _
    clear hbx h
    show Calls Try.prog 36 #[.pointer (some ⟨wb, 0, none⟩), .agg #[.int .i64 p.kd, .int .i64 p.k.1, .int .i64 p.k.2, .int .i64 p.pa.1, .int .i64 p.pa.2, .int .i64 p.af.1, .int .i64 p.af.2, .string p.nm, .string p.vl]] w _
    go_enter Try.func36, Try.ntmps36
    go_wp2
    obtain ⟨W0, eW0⟩ : ∃ X, X = (w.alloc (.cells #[.int .i64 p.kd, .int .i64 p.k.1, .int .i64 p.k.2, .int .i64 p.pa.1, .int .i64 p.pa.2, .int .i64 p.af.1, .int .i64 p.af.2, .string p.nm, .string p.vl] 42)) := ⟨_, rfl⟩
    rw [← eW0] at HB HP HK ⊢
    obtain ⟨kb, ekb⟩ : ∃ b, b = w.heap.size := ⟨_, rfl⟩
    rw [← ekb] at HK ⊢
    clear eW0 ekb
    refine wp_region_held_drew (S := fun W' => PwM B wb bm bh (some top) X g D W' ∧ W'.heap[kb]? = some (.cells #[.int .i64 p.kd, .int .i64 p.k.1, .int .i64 p.k.2, .int .i64 p.pa.1, .int .i64 p.pa.2, .int .i64 p.af.1, .int .i64 p.af.2, .string p.nm, .string p.vl] 42)) (by kernel_rfl) ⟨HP.out.drew, HK.out⟩ (fun hHeld => ?_)
    obtain ⟨Us1False7u0, eW⟩ : ∃ X, X = W0.drew := ⟨_, rfl⟩
    have hb : Below W0.heap.size W0 Us1False7u0 := by rw [eW]; exact (Below.refl _ _).drew
    replace HB : Hid (BelT B w Us1False7u0) := HB.out.trans (BelT.of hb HP.out.le)
    replace HP : Hid (PwM B wb bm bh (some top) X g D Us1False7u0) := HP.out.below hb
    replace HK : Hid (Us1False7u0.heap[kb]? = some (.cells #[.int .i64 p.kd, .int .i64 p.k.1, .int .i64 p.k.2, .int .i64 p.pa.1, .int .i64 p.pa.2, .int .i64 p.af.1, .int .i64 p.af.2, .string p.nm, .string p.vl] 42)) := (hb.block _ (row_lt HK.out)).trans HK.out
    rw [← eW] at hHeld ⊢
    clear eW hb
    refine tkW 0 (some 6) (v := ?_) ?_ hHeld ?_
    rotate_left
    · (intro ww _; go_simp; try with_reducible rfl)
    refine tkW 1 (some 7) (v := ?_) ?_ hHeld ?_
    rotate_left
    · (intro ww hSw; (try dsimp only at hSw); obtain ⟨hP, hK⟩ := hSw; have c0 := hP.c0; have b1 : ww.cell? ⟨kb, 1, none⟩ = some (.int .i64 p.k.1) := (by rw [cell_of_row ww kb 1 _ _ _ hK]; rfl); have b2 : ww.cell? ⟨kb, 2, none⟩ = some (.int .i64 p.k.2) := (by rw [cell_of_row ww kb 2 _ _ _ hK]; rfl); have hlk := hP.lookN HE.out; go_simp; try with_reducible rfl)
    refine tkW 2 (some 8) (v := ?_) ?_ hHeld ?_
    rotate_left
    · (intro ww _; go_simp; try with_reducible rfl)
    refine tkW 3 (some 9) (v := ?_) ?_ hHeld ?_
    rotate_left
    · (intro ww hSw; (try dsimp only at hSw); obtain ⟨hP, hK⟩ := hSw; have c0 := hP.c0; have b1 : ww.cell? ⟨kb, 1, none⟩ = some (.int .i64 p.k.1) := (by rw [cell_of_row ww kb 1 _ _ _ hK]; rfl); have b2 : ww.cell? ⟨kb, 2, none⟩ = some (.int .i64 p.k.2) := (by rw [cell_of_row ww kb 2 _ _ _ hK]; rfl); have hlk := hP.lookN HE.out; go_simp; try with_reducible rfl)
    refine tkW 4 (some 10) (v := ?_) ?_ hHeld ?_
    rotate_left
    · (intro ww _; go_simp; try with_reducible rfl)
    refine tkW 5 (some 11) (v := ?_) ?_ hHeld ?_
    rotate_left
    · (intro ww hSw; (try dsimp only at hSw); obtain ⟨hP, hK⟩ := hSw; have c0 := hP.c0; have b1 : ww.cell? ⟨kb, 1, none⟩ = some (.int .i64 p.k.1) := (by rw [cell_of_row ww kb 1 _ _ _ hK]; rfl); have b2 : ww.cell? ⟨kb, 2, none⟩ = some (.int .i64 p.k.2) := (by rw [cell_of_row ww kb 2 _ _ _ hK]; rfl); have hlk := hP.lookN HE.out; go_simp; try with_reducible rfl)
    refine tkW 6 (some 12) (v := ?_) ?_ hHeld ?_
    rotate_left
    · (intro ww hSw; (try dsimp only at hSw); obtain ⟨hP, hK⟩ := hSw; have c0 := hP.c0; have b1 : ww.cell? ⟨kb, 1, none⟩ = some (.int .i64 p.k.1) := (by rw [cell_of_row ww kb 1 _ _ _ hK]; rfl); have b2 : ww.cell? ⟨kb, 2, none⟩ = some (.int .i64 p.k.2) := (by rw [cell_of_row ww kb 2 _ _ _ hK]; rfl); have hlk := hP.lookN HE.out; go_simp; try with_reducible rfl)
    refine tkW 7 (some 5) (v := ?_) ?_ hHeld ?_
    rotate_left
    · (intro ww _; go_simp; try with_reducible rfl)
    refine wpAnyH_done (by kernel_rfl) ?_ _
    clear hHeld
    go_wp2
    (try rw [Exit.noGoto_ret])
    go_ret
    refine ⟨?_, HB.out⟩
    rw [HSt.out]
    exact StpP.err (by decide)
  · have hz : (stepF p (g.o c)).1 = 0 := (by unfold stepF; rw [if_neg (by rw [hkd]; decide), if_pos hkd])
    rw [if_neg (by rw [hz]; decide)] at hst
    have HE := hide9 e
    have HC := hide9 hc
    have HCk := hide9 hck
    have HSt := hide9 hst
    clear e hc hck hst hz
    clear hp hkd
    have hbx : Below w.heap.size w (w.alloc (.cells #[.int .i64 p.kd, .int .i64 p.k.1, .int .i64 p.k.2, .int .i64 p.pa.1, .int .i64 p.pa.2, .int .i64 p.af.1, .int .i64 p.af.2, .string p.nm, .string p.vl] 42)) := (Below.refl _ _).alloc (Nat.le_refl _) _
    have HB : Hid (BelT B w (w.alloc (.cells #[.int .i64 p.kd, .int .i64 p.k.1, .int .i64 p.k.2, .int .i64 p.pa.1, .int .i64 p.pa.2, .int .i64 p.af.1, .int .i64 p.af.2, .string p.nm, .string p.vl] 42))) := BelT.of hbx h.le
    have HP : Hid (PwM B wb bm bh (some top) X g D (w.alloc (.cells #[.int .i64 p.kd, .int .i64 p.k.1, .int .i64 p.k.2, .int .i64 p.pa.1, .int .i64 p.pa.2, .int .i64 p.af.1, .int .i64 p.af.2, .string p.nm, .string p.vl] 42))) := h.below hbx
    have HK : Hid ((w.alloc (.cells #[.int .i64 p.kd, .int .i64 p.k.1, .int .i64 p.k.2, .int .i64 p.pa.1, .int .i64 p.pa.2, .int .i64 p.af.1, .int .i64 p.af.2, .string p.nm, .string p.vl] 42)).heap[w.heap.size]? = some (.cells #[.int .i64 p.kd, .int .i64 p.k.1, .int .i64 p.k.2, .int .i64 p.pa.1, .int .i64 p.pa.2, .int .i64 p.af.1, .int .i64 p.af.2, .string p.nm, .string p.vl] 42)) := heap_alloc_new _ _
    clear hbx h
    show Calls Try.prog 36 #[.pointer (some ⟨wb, 0, none⟩), .agg #[.int .i64 p.kd, .int .i64 p.k.1, .int .i64 p.k.2, .int .i64 p.pa.1, .int .i64 p.pa.2, .int .i64 p.af.1, .int .i64 p.af.2, .string p.nm, .string p.vl]] w _
    go_enter Try.func36, Try.ntmps36
    go_wp2
    obtain ⟨W0, eW0⟩ : ∃ X, X = (w.alloc (.cells #[.int .i64 p.kd, .int .i64 p.k.1, .int .i64 p.k.2, .int .i64 p.pa.1, .int .i64 p.pa.2, .int .i64 p.af.1, .int .i64 p.af.2, .string p.nm, .string p.vl] 42)) := ⟨_, rfl⟩
    rw [← eW0] at HB HP HK ⊢
    obtain ⟨kb, ekb⟩ : ∃ b, b = w.heap.size := ⟨_, rfl⟩
    rw [← ekb] at HK ⊢
    clear eW0 ekb
    refine wp_region_held_drew (S := fun W' => PwM B wb bm bh (some top) X g D W' ∧ W'.heap[kb]? = some (.cells #[.int .i64 p.kd, .int .i64 p.k.1, .int .i64 p.k.2, .int .i64 p.pa.1, .int .i64 p.pa.2, .int .i64 p.af.1, .int .i64 p.af.2, .string p.nm, .string p.vl] 42)) (by kernel_rfl) ⟨HP.out.drew, HK.out⟩ (fun hHeld => ?_)
    obtain ⟨Us1True8u0, eW⟩ : ∃ X, X = W0.drew := ⟨_, rfl⟩
    have hb : Below W0.heap.size W0 Us1True8u0 := by rw [eW]; exact (Below.refl _ _).drew
    replace HB : Hid (BelT B w Us1True8u0) := HB.out.trans (BelT.of hb HP.out.le)
    replace HP : Hid (PwM B wb bm bh (some top) X g D Us1True8u0) := HP.out.below hb
    replace HK : Hid (Us1True8u0.heap[kb]? = some (.cells #[.int .i64 p.kd, .int .i64 p.k.1, .int .i64 p.k.2, .int .i64 p.pa.1, .int .i64 p.pa.2, .int .i64 p.af.1, .int .i64 p.af.2, .string p.nm, .string p.vl] 42)) := (hb.block _ (row_lt HK.out)).trans HK.out
    rw [← eW] at hHeld ⊢
    clear eW hb
    refine tkW 0 (some 6) (v := ?_) ?_ hHeld ?_
    rotate_left
    · (intro ww _; go_simp; try with_reducible rfl)
    refine tkW 1 (some 7) (v := ?_) ?_ hHeld ?_
    rotate_left
    · (intro ww hSw; (try dsimp only at hSw); obtain ⟨hP, hK⟩ := hSw; have c0 := hP.c0; have b1 : ww.cell? ⟨kb, 1, none⟩ = some (.int .i64 p.k.1) := (by rw [cell_of_row ww kb 1 _ _ _ hK]; rfl); have b2 : ww.cell? ⟨kb, 2, none⟩ = some (.int .i64 p.k.2) := (by rw [cell_of_row ww kb 2 _ _ _ hK]; rfl); have hlk := hP.lookS HE.out; go_simp; try with_reducible rfl)
    refine tkW 2 (some 8) (v := ?_) ?_ hHeld ?_
    rotate_left
    · (intro ww _; go_simp; try with_reducible rfl)
    refine tkW 3 (some 9) (v := ?_) ?_ hHeld ?_
    rotate_left
    · (intro ww hSw; (try dsimp only at hSw); obtain ⟨hP, hK⟩ := hSw; have c0 := hP.c0; have b1 : ww.cell? ⟨kb, 1, none⟩ = some (.int .i64 p.k.1) := (by rw [cell_of_row ww kb 1 _ _ _ hK]; rfl); have b2 : ww.cell? ⟨kb, 2, none⟩ = some (.int .i64 p.k.2) := (by rw [cell_of_row ww kb 2 _ _ _ hK]; rfl); have hlk := hP.lookS HE.out; go_simp; try with_reducible rfl)
    refine tkW 4 (some 10) (v := ?_) ?_ hHeld ?_
    rotate_left
    · (intro ww _; go_simp; try with_reducible rfl)
    refine tkW 5 (some 11) (v := ?_) ?_ hHeld ?_
    rotate_left
    · (intro ww hSw; (try dsimp only at hSw); obtain ⟨hP, hK⟩ := hSw; have c0 := hP.c0; have b1 : ww.cell? ⟨kb, 1, none⟩ = some (.int .i64 p.k.1) := (by rw [cell_of_row ww kb 1 _ _ _ hK]; rfl); have b2 : ww.cell? ⟨kb, 2, none⟩ = some (.int .i64 p.k.2) := (by rw [cell_of_row ww kb 2 _ _ _ hK]; rfl); have hlk := hP.lookS HE.out; go_simp; try with_reducible rfl)
    refine tkW 6 (some 12) (v := ?_) ?_ hHeld ?_
    rotate_left
    · (intro ww hSw; (try dsimp only at hSw); obtain ⟨hP, hK⟩ := hSw; have c0 := hP.c0; have b1 : ww.cell? ⟨kb, 1, none⟩ = some (.int .i64 p.k.1) := (by rw [cell_of_row ww kb 1 _ _ _ hK]; rfl); have b2 : ww.cell? ⟨kb, 2, none⟩ = some (.int .i64 p.k.2) := (by rw [cell_of_row ww kb 2 _ _ _ hK]; rfl); have hlk := hP.lookS HE.out; go_simp; try with_reducible rfl)
    refine tkW 7 (some 5) (v := ?_) ?_ hHeld ?_
    rotate_left
    · (intro ww _; go_simp; try with_reducible rfl)
    refine wpAnyH_done (by kernel_rfl) ?_ _
    clear hHeld
    have b8 : Us1True8u0.cell? ⟨kb, 8, none⟩ = some (.string p.vl) := (by rw [cell_of_row Us1True8u0 kb 8 _ _ _ HK.out]; rfl)
    obtain ⟨v3, u3⟩ : ∃ v, Us1True8u0.cell? ⟨c, 3, none⟩ = some v := ⟨_, by rw [cell_of_row Us1True8u0 c 3 _ _ _ (HP.out.mem c HC.out.1)]; rfl⟩
    have z3 : Us1True8u0.frozen? ⟨c, 3, none⟩ = false := HP.out.mem.fz HC.out.1 3
    have hO := HP.out.own (c := c) (i := 3) (v := .string p.vl) (f := { g.o c with tx := p.vl }) HC.out.1 rfl (by simp [gRow, updF_same])
    have HP2 : Hid (PwM B wb bm bh (some top) X ({ g with o := updF g.o c { g.o c with tx := p.vl }, av := g.av }) D (Us1True8u0.setCell ⟨c, 3, none⟩ (.string p.vl))) := hO.1
    have HB2 : Hid (BelT B w (Us1True8u0.setCell ⟨c, 3, none⟩ (.string p.vl))) := HB.out.trans hO.2.1
    clear hO
    go_wp2
    (try rw [Exit.noGoto_ret])
    go_ret
    refine ⟨?_, HB2.out⟩
    rw [HSt.out]
    refine StpP.ok ⟨HP2.out, ?_⟩
    have hF : (fun f : Nf => (stepF p f).2) = fun f => { f with tx := p.vl } := funext fun f => by unfold stepF; rw [if_neg (by rw [HKd.out]; decide), if_pos HKd.out]
    have h9 := HPp.out.with_ (n := c) (k := p.k) (F := fun f => { f with tx := p.vl }) HC.out HCk.out (fun _ => rfl) g.av
    rw [hF]
    simp only [withL] at h9
    exact h9

end Go.Proofs.Ytccpljllgpabnab
