/- take. -/
import Derived.Test.YtccpljllgpabnabPaE
import Derived.Test.YtccpljllgpabnabTk
import Derived.Deep.RegionHeld
namespace Go.Proofs.Ytccpljllgpabnab
open Go.RowKit
set_option linter.unusedVariables false
set_option linter.unusedSimpArgs false

/-- A step of the walk: links are turned. -/
theorem PwM.row {B wb bm bh : Nat} {tp : Option Nat} {X : Nat → Prop} {g : Gr} {D : List (St × Nat)} {W W' : World} (h : PwM B wb bm bh tp X g D W) (ht : Touch X W W') {k : Nat} {cs : Array Value} {t : TypeId} (hk : W.heap[k]? = some (.cells cs t)) (hne : t ≠ 51) : W'.heap[k]? = some (.cells cs t) := (ht.block _ (row_lt hk) (h.notX hk hne)).trans hk
theorem not_unl {g : Gr} {q c : Nat} (r : Nat) : c ∉ (unl g q c).C r := fun h => by
  have := (List.mem_filter.1 h).2
  simp at this

set_option maxRecDepth 100000 in
set_option maxHeartbeats 2000000 in
theorem take_none {B wb bm bh top : Nat} {X : Nat → Prop} {g : Gr} {D : List (St × Nat)} (p : Pa) (w : World) (h : PwM B wb bm bh (some top) X g D w) (e : getP Prod.fst D p.k = none) :
    Calls Try.prog 30 #[.pointer (some ⟨wb, 0, none⟩), paV p] w fun e w' => e = .returned (.int .i64 4) ∧ BelT B w w' := by
  have HE := hide9 e
  clear e
  have hbx : Below w.heap.size w (w.alloc (.cells #[.int .i64 p.kd, .int .i64 p.k.1, .int .i64 p.k.2, .int .i64 p.pa.1, .int .i64 p.pa.2, .int .i64 p.af.1, .int .i64 p.af.2, .string p.nm, .string p.vl] 42)) := (Below.refl _ _).alloc (Nat.le_refl _) _
  have HB : Hid (BelT B w (w.alloc (.cells #[.int .i64 p.kd, .int .i64 p.k.1, .int .i64 p.k.2, .int .i64 p.pa.1, .int .i64 p.pa.2, .int .i64 p.af.1, .int .i64 p.af.2, .string p.nm, .string p.vl] 42))) := BelT.of hbx h.le
  have HP : Hid (PwM B wb bm bh (some top) X g D (w.alloc (.cells #[.int .i64 p.kd, .int .i64 p.k.1, .int .i64 p.k.2, .int .i64 p.pa.1, .int .i64 p.pa.2, .int .i64 p.af.1, .int .i64 p.af.2, .string p.nm, .string p.vl] 42))) := h.below hbx
  have HK : Hid ((w.alloc (.cells #[.int .i64 p.kd, .int .i64 p.k.1, .int .i64 p.k.2, .int .i64 p.pa.1, .int .i64 p.pa.2, .int .i64 p.af.1, .int .i64 p.af.2, .string p.nm, .string p.vl] 42)).heap[w.heap.size]? = some (.cells #[.int .i64 p.kd, .int .i64 p.k.1, .int .i64 p.k.2, .int .i64 p.pa.1, .int .i64 p.pa.2, .int .i64 p.af.1, .int .i64 p.af.2, .string p.nm, .string p.vl] 42)) := heap_alloc_new _ _
  clear hbx h
  show Calls Try.prog 30 #[.pointer (some ⟨wb, 0, none⟩), .agg #[.int .i64 p.kd, .int .i64 p.k.1, .int .i64 p.k.2, .int .i64 p.pa.1, .int .i64 p.pa.2, .int .i64 p.af.1, .int .i64 p.af.2, .string p.nm, .string p.vl]] w _
  go_enter Try.func30, Try.ntmps30
  go_wp2
  obtain ⟨W0, eW0⟩ : ∃ X, X = (w.alloc (.cells #[.int .i64 p.kd, .int .i64 p.k.1, .int .i64 p.k.2, .int .i64 p.pa.1, .int .i64 p.pa.2, .int .i64 p.af.1, .int .i64 p.af.2, .string p.nm, .string p.vl] 42)) := ⟨_, rfl⟩
  rw [← eW0] at HB HP HK ⊢
  obtain ⟨kb, ekb⟩ : ∃ b, b = w.heap.size := ⟨_, rfl⟩
  rw [← ekb] at HK ⊢
  clear eW0 ekb
  refine wp_region_held_drew (S := fun W' => PwM B wb bm bh (some top) X g D W' ∧ W'.heap[kb]? = some (.cells #[.int .i64 p.kd, .int .i64 p.k.1, .int .i64 p.k.2, .int .i64 p.pa.1, .int .i64 p.pa.2, .int .i64 p.af.1, .int .i64 p.af.2, .string p.nm, .string p.vl] 42)) (by kernel_rfl) ⟨HP.out.drew, HK.out⟩ (fun hHeld => ?_)
  obtain ⟨Ut1none1u0, eW⟩ : ∃ X, X = W0.drew := ⟨_, rfl⟩
  have hb : Below W0.heap.size W0 Ut1none1u0 := by rw [eW]; exact (Below.refl _ _).drew
  replace HB : Hid (BelT B w Ut1none1u0) := HB.out.trans (BelT.of hb HP.out.le)
  replace HP : Hid (PwM B wb bm bh (some top) X g D Ut1none1u0) := HP.out.below hb
  replace HK : Hid (Ut1none1u0.heap[kb]? = some (.cells #[.int .i64 p.kd, .int .i64 p.k.1, .int .i64 p.k.2, .int .i64 p.pa.1, .int .i64 p.pa.2, .int .i64 p.af.1, .int .i64 p.af.2, .string p.nm, .string p.vl] 42)) := (hb.block _ (row_lt HK.out)).trans HK.out
  rw [← eW] at hHeld ⊢
  clear eW hb
  refine tkW 0 (some 6) (v := ?_) ?_ hHeld ?_
  rotate_left
  · (intro ww _; go_simp; try with_reducible rfl)
  refine tkW 1 (some 7) (v := ?_) ?_ hHeld ?_
  rotate_left
  · (intro ww hSw; (try dsimp only at hSw); obtain ⟨hP, hK⟩ := hSw; have c0 := hP.c0; have b1 : ww.cell? ⟨kb, 1, none⟩ = some (.int .i64 p.k.1) := (by rw [cell_of_row ww kb 1 _ _ _ hK]; rfl); have b2 : ww.cell? ⟨kb, 2, none⟩ = some (.int .i64 p.k.2) := (by rw [cell_of_row ww kb 2 _ _ _ hK]; rfl); have hlk := hP.lookN HE.out; go_simp; try with_reducible rfl)
  refine tkW 2 (some 8) (v := ?_) ?_ hHeld ?_
  rotate_left
  · (intro ww _; go_simp; try with_reducible rfl)
  refine tkW 3 (some 9) (v := ?_) ?_ hHeld ?_
  rotate_left
  · (intro ww hSw; (try dsimp only at hSw); obtain ⟨hP, hK⟩ := hSw; have c0 := hP.c0; have b1 : ww.cell? ⟨kb, 1, none⟩ = some (.int .i64 p.k.1) := (by rw [cell_of_row ww kb 1 _ _ _ hK]; rfl); have b2 : ww.cell? ⟨kb, 2, none⟩ = some (.int .i64 p.k.2) := (by rw [cell_of_row ww kb 2 _ _ _ hK]; rfl); have hlk := hP.lookN HE.out; go_simp; try with_reducible rfl)
  refine tkW 4 (some 10) (v := ?_) ?_ hHeld ?_
  rotate_left
  · (intro ww _; go_simp; try with_reducible rfl)
  refine tkW 5 (some 11) (v := ?_) ?_ hHeld ?_
  rotate_left
  · (intro ww hSw; (try dsimp only at hSw); obtain ⟨hP, hK⟩ := hSw; have c0 := hP.c0; have b1 : ww.cell? ⟨kb, 1, none⟩ = some (.int .i64 p.k.1) := (by rw [cell_of_row ww kb 1 _ _ _ hK]; rfl); have b2 : ww.cell? ⟨kb, 2, none⟩ = some (.int .i64 p.k.2) := (by rw [cell_of_row ww kb 2 _ _ _ hK]; rfl); have hlk := hP.lookN HE.out; go_simp; try with_reducible rfl)
  refine tkW 6 (some 12) (v := ?_) ?_ hHeld ?_
  rotate_left
  · (intro ww hSw; (try dsimp only at hSw); obtain ⟨hP, hK⟩ := hSw; have c0 := hP.c0; have b1 : ww.cell? ⟨kb, 1, none⟩ = some (.int .i64 p.k.1) := (by rw [cell_of_row ww kb 1 _ _ _ hK]; rfl); have b2 : ww.cell? ⟨kb, 2, none⟩ = some (.int .i64 p.k.2) := (by rw [cell_of_row ww kb 2 _ _ _ hK]; rfl); have hlk := hP.lookN HE.out; go_simp; try with_reducible rfl)
  refine tkW 7 (some 5) (v := ?_) ?_ hHeld ?_
  rotate_left
  · (intro ww _; go_simp; try with_reducible rfl)
  refine wpAnyH_done (by kernel_rfl) ?_ _
  clear hHeld
  go_wp2
  refine wp_region_held_drew (S := fun W' => PwM B wb bm bh (some top) X g D W') (by kernel_rfl) HP.out.drew (fun hHeld => ?_)
  obtain ⟨Ut2none2u0, eW⟩ : ∃ X, X = Ut1none1u0.drew := ⟨_, rfl⟩
  have hb : Below Ut1none1u0.heap.size Ut1none1u0 Ut2none2u0 := by rw [eW]; exact (Below.refl _ _).drew
  replace HB : Hid (BelT B w Ut2none2u0) := HB.out.trans (BelT.of hb HP.out.le)
  replace HP : Hid (PwM B wb bm bh (some top) X g D Ut2none2u0) := HP.out.below hb
  replace HK : Hid (Ut2none2u0.heap[kb]? = some (.cells #[.int .i64 p.kd, .int .i64 p.k.1, .int .i64 p.k.2, .int .i64 p.pa.1, .int .i64 p.pa.2, .int .i64 p.af.1, .int .i64 p.af.2, .string p.nm, .string p.vl] 42)) := (hb.block _ (row_lt HK.out)).trans HK.out
  rw [← eW] at hHeld ⊢
  clear eW hb
  refine tkW 0 (some 13) (v := ?_) ?_ hHeld ?_
  rotate_left
  · (intro ww _; go_simp; try with_reducible rfl)
  refine tkW 1 (some 14) (v := ?_) ?_ hHeld ?_
  rotate_left
  · (intro ww hSw; (try dsimp only at hSw); have hP := hSw; go_simp; try with_reducible rfl)
  refine tkW 2 (some 15) (v := ?_) ?_ hHeld ?_
  rotate_left
  · (intro ww _; go_simp; try with_reducible rfl)
  refine tkU 3 (some 16) hHeld ?_
  refine tkU 4 (some 17) hHeld ?_
  refine tkU 5 (some 18) hHeld ?_
  refine tkU 6 (some 19) hHeld ?_
  refine tkU 7 (some 20) hHeld ?_
  refine tkU 8 (some 21) hHeld ?_
  refine tkU 9 (some 22) hHeld ?_
  refine tkU 10 (some 23) hHeld ?_
  refine tkU 11 (some 24) hHeld ?_
  refine tkW 12 (some 25) (v := ?_) ?_ hHeld ?_
  rotate_left
  · (intro ww _; go_simp; try with_reducible rfl)
  refine wpAnyH_done (by kernel_rfl) ?_ _
  clear hHeld
  go_wp2
  (try rw [Exit.noGoto_ret])
  go_ret
  exact ⟨rfl, HB.out⟩

set_option maxRecDepth 100000 in
set_option maxHeartbeats 2000000 in
theorem take_held {B wb bm bh top : Nat} {X : Nat → Prop} {g : Gr} {D : List (St × Nat)} (p : Pa) (w : World) (h : PwM B wb bm bh (some top) X g D w) {c : Nat} (e : getP Prod.fst D p.k = some (p.k, c)) (hx : X c) (hb : X bh) (hu : g.up c = some bh) :
    Calls Try.prog 30 #[.pointer (some ⟨wb, 0, none⟩), paV p] w fun e w' => e = .returned (.int .i64 4) ∧ BelT B w w' := by
  have HE := hide9 e
  have HX := hide9 hx
  have HXb := hide9 hb
  have HU := hide9 hu
  clear e hx hb hu
  have hbx : Below w.heap.size w (w.alloc (.cells #[.int .i64 p.kd, .int .i64 p.k.1, .int .i64 p.k.2, .int .i64 p.pa.1, .int .i64 p.pa.2, .int .i64 p.af.1, .int .i64 p.af.2, .string p.nm, .string p.vl] 42)) := (Below.refl _ _).alloc (Nat.le_refl _) _
  have HB : Hid (BelT B w (w.alloc (.cells #[.int .i64 p.kd, .int .i64 p.k.1, .int .i64 p.k.2, .int .i64 p.pa.1, .int .i64 p.pa.2, .int .i64 p.af.1, .int .i64 p.af.2, .string p.nm, .string p.vl] 42))) := BelT.of hbx h.le
  have HP : Hid (PwM B wb bm bh (some top) X g D (w.alloc (.cells #[.int .i64 p.kd, .int .i64 p.k.1, .int .i64 p.k.2, .int .i64 p.pa.1, .int .i64 p.pa.2, .int .i64 p.af.1, .int .i64 p.af.2, .string p.nm, .string p.vl] 42))) := h.below hbx
  have HK : Hid ((w.alloc (.cells #[.int .i64 p.kd, .int .i64 p.k.1, .int .i64 p.k.2, .int .i64 p.pa.1, .int .i64 p.pa.2, .int .i64 p.af.1, .int .i64 p.af.2, .string p.nm, .string p.vl] 42)).heap[w.heap.size]? = some (.cells #[.int .i64 p.kd, .int .i64 p.k.1, .int .i64 p.k.2, .int .i64 p.pa.1, .int .i64 p.pa.2, .int .i64 p.af.1, .int .i64 p.af.2, .string p.nm, .string p.vl] 42)) := heap_alloc_new _ _
  clear hbx h
  show Calls Try.prog 30 #[.pointer (some ⟨wb, 0, none⟩), .agg #[.int .i64 p.kd, .int .i64 p.k.1, .int .i64 p.k.2, .int .i64 p.pa.1, .int .i64 p.pa.2, .int .i64 p.af.1, .int .i64 p.af.2, .string p.nm, .string p.vl]] w _
  go_enter Try.func30, Try.ntmps30
  go_wp2
  obtain ⟨W0, eW0⟩ : ∃ X, X = (w.alloc (.cells #[.int .i64 p.kd, .int .i64 p.k.1, .int .i64 p.k.2, .int .i64 p.pa.1, .int .i64 p.pa.2, .int .i64 p.af.1, .int .i64 p.af.2, .string p.nm, .string p.vl] 42)) := ⟨_, rfl⟩
  rw [← eW0] at HB HP HK ⊢
  obtain ⟨kb, ekb⟩ : ∃ b, b = w.heap.size := ⟨_, rfl⟩
  rw [← ekb] at HK ⊢
  clear eW0 ekb
  refine wp_region_held_drew (S := fun W' => PwM B wb bm bh (some top) X g D W' ∧ W'.heap[kb]? = some (.cells #[.int .i64 p.kd, .int .i64 p.k.1, .int .i64 p.k.2, .int .i64 p.pa.1, .int .i64 p.pa.2, .int .i64 p.af.1, .int .i64 p.af.2, .string p.nm, .string p.vl] 42)) (by kernel_rfl) ⟨HP.out.drew, HK.out⟩ (fun hHeld => ?_)
  obtain ⟨Ut1held3u0, eW⟩ : ∃ X, X = W0.drew := ⟨_, rfl⟩
  have hb : Below W0.heap.size W0 Ut1held3u0 := by rw [eW]; exact (Below.refl _ _).drew
  replace HB : Hid (BelT B w Ut1held3u0) := HB.out.trans (BelT.of hb HP.out.le)
  replace HP : Hid (PwM B wb bm bh (some top) X g D Ut1held3u0) := HP.out.below hb
  replace HK : Hid (Ut1held3u0.heap[kb]? = some (.cells #[.int .i64 p.kd, .int .i64 p.k.1, .int .i64 p.k.2, .int .i64 p.pa.1, .int .i64 p.pa.2, .int .i64 p.af.1, .int .i64 p.af.2, .string p.nm, .string p.vl] 42)) := (hb.block _ (row_lt HK.out)).trans HK.out
  rw [← eW] at hHeld ⊢
  clear eW hb
  refine tkW 0 (some 6) (v := ?_) ?_ hHeld ?_
  rotate_left
  · (intro ww _; go_simp; try with_reducible rfl)
  refine tkW 1 (some 7) (v := ?_) ?_ hHeld ?_
  rotate_left
  · (intro ww hSw; (try dsimp only at hSw); obtain ⟨hP, hK⟩ := hSw; have c0 := hP.c0; have b1 : ww.cell? ⟨kb, 1, none⟩ = some (.int .i64 p.k.1) := (by rw [cell_of_row ww kb 1 _ _ _ hK]; rfl); have b2 : ww.cell? ⟨kb, 2, none⟩ = some (.int .i64 p.k.2) := (by rw [cell_of_row ww kb 2 _ _ _ hK]; rfl); have hlk := hP.lookS HE.out; go_simp; try with_reducible rfl)
  refine tkW 2 (some 8) (v := ?_) ?_ hHeld ?_
  rotate_left
  · (intro ww _; go_simp; try with_reducible rfl)
  refine tkW 3 (some 9) (v := ?_) ?_ hHeld ?_
  rotate_left
  · (intro ww hSw; (try dsimp only at hSw); obtain ⟨hP, hK⟩ := hSw; have c0 := hP.c0; have b1 : ww.cell? ⟨kb, 1, none⟩ = some (.int .i64 p.k.1) := (by rw [cell_of_row ww kb 1 _ _ _ hK]; rfl); have b2 : ww.cell? ⟨kb, 2, none⟩ = some (.int .i64 p.k.2) := (by rw [cell_of_row ww kb 2 _ _ _ hK]; rfl); have hlk := hP.lookS HE.out; go_simp; try with_reducible rfl)
  refine tkW 4 (some 10) (v := ?_) ?_ hHeld ?_
  rotate_left
  · (intro ww _; go_simp; try with_reducible rfl)
  refine tkW 5 (some 11) (v := ?_) ?_ hHeld ?_
  rotate_left
  · (intro ww hSw; (try dsimp only at hSw); obtain ⟨hP, hK⟩ := hSw; have c0 := hP.c0; have b1 : ww.cell? ⟨kb, 1, none⟩ = some (.int .i64 p.k.1) := (by rw [cell_of_row ww kb 1 _ _ _ hK]; rfl); have b2 : ww.cell? ⟨kb, 2, none⟩ = some (.int .i64 p.k.2) := (by rw [cell_of_row ww kb 2 _ _ _ hK]; rfl); have hlk := hP.lookS HE.out; go_simp; try with_reducible rfl)
  refine tkW 6 (some 12) (v := ?_) ?_ hHeld ?_
  rotate_left
  · (intro ww hSw; (try dsimp only at hSw); obtain ⟨hP, hK⟩ := hSw; have c0 := hP.c0; have b1 : ww.cell? ⟨kb, 1, none⟩ = some (.int .i64 p.k.1) := (by rw [cell_of_row ww kb 1 _ _ _ hK]; rfl); have b2 : ww.cell? ⟨kb, 2, none⟩ = some (.int .i64 p.k.2) := (by rw [cell_of_row ww kb 2 _ _ _ hK]; rfl); have hlk := hP.lookS HE.out; go_simp; try with_reducible rfl)
  refine tkW 7 (some 5) (v := ?_) ?_ hHeld ?_
  rotate_left
  · (intro ww _; go_simp; try with_reducible rfl)
  refine wpAnyH_done (by kernel_rfl) ?_ _
  clear hHeld
  go_wp2
  refine wp_region_held_drew (S := fun W' => PwM B wb bm bh (some top) X g D W') (by kernel_rfl) HP.out.drew (fun hHeld => ?_)
  obtain ⟨Ut2held4u0, eW⟩ : ∃ X, X = Ut1held3u0.drew := ⟨_, rfl⟩
  have hb : Below Ut1held3u0.heap.size Ut1held3u0 Ut2held4u0 := by rw [eW]; exact (Below.refl _ _).drew
  replace HB : Hid (BelT B w Ut2held4u0) := HB.out.trans (BelT.of hb HP.out.le)
  replace HP : Hid (PwM B wb bm bh (some top) X g D Ut2held4u0) := HP.out.below hb
  replace HK : Hid (Ut2held4u0.heap[kb]? = some (.cells #[.int .i64 p.kd, .int .i64 p.k.1, .int .i64 p.k.2, .int .i64 p.pa.1, .int .i64 p.pa.2, .int .i64 p.af.1, .int .i64 p.af.2, .string p.nm, .string p.vl] 42)) := (hb.block _ (row_lt HK.out)).trans HK.out
  rw [← eW] at hHeld ⊢
  clear eW hb
  refine tkW 0 (some 13) (v := ?_) ?_ hHeld ?_
  rotate_left
  · (intro ww _; go_simp; try with_reducible rfl)
  refine tkW 1 (some 14) (v := ?_) ?_ hHeld ?_
  rotate_left
  · (intro ww hSw; (try dsimp only at hSw); have hP := hSw; have c2 := hP.c2; have u6 : ww.cell? ⟨c, 6, none⟩ = some (.pointer (some ⟨bh, 0, none⟩)) := (by have h9 := hP.mem.cup HX.out; rw [HU.out] at h9; exact h9); have heq := eqlB bh bh ww (hP.mem bh HXb.out) (hP.mem bh HXb.out); rw [decide_eq_true rfl] at heq; go_simp; try with_reducible rfl)
  refine tkW 2 (some 15) (v := ?_) ?_ hHeld ?_
  rotate_left
  · (intro ww _; go_simp; try with_reducible rfl)
  refine tkW 3 (some 16) (v := ?_) ?_ hHeld ?_
  rotate_left
  · (intro ww _; go_simp; try with_reducible rfl)
  refine tkW 4 (some 17) (v := ?_) ?_ hHeld ?_
  rotate_left
  · (intro ww hSw; (try dsimp only at hSw); have hP := hSw; have c2 := hP.c2; have u6 : ww.cell? ⟨c, 6, none⟩ = some (.pointer (some ⟨bh, 0, none⟩)) := (by have h9 := hP.mem.cup HX.out; rw [HU.out] at h9; exact h9); have heq := eqlB bh bh ww (hP.mem bh HXb.out) (hP.mem bh HXb.out); rw [decide_eq_true rfl] at heq; go_simp; try with_reducible rfl)
  refine tkW 5 (some 18) (v := ?_) ?_ hHeld ?_
  rotate_left
  · (intro ww _; go_simp; try with_reducible rfl)
  refine tkW 6 (some 19) (v := ?_) ?_ hHeld ?_
  rotate_left
  · (intro ww hSw; (try dsimp only at hSw); have hP := hSw; have c2 := hP.c2; have u6 : ww.cell? ⟨c, 6, none⟩ = some (.pointer (some ⟨bh, 0, none⟩)) := (by have h9 := hP.mem.cup HX.out; rw [HU.out] at h9; exact h9); have heq := eqlB bh bh ww (hP.mem bh HXb.out) (hP.mem bh HXb.out); rw [decide_eq_true rfl] at heq; go_simp; try with_reducible rfl)
  refine tkW 7 (some 20) (v := ?_) ?_ hHeld ?_
  rotate_left
  · (intro ww _; go_simp; try with_reducible rfl)
  refine tkW 8 (some 21) (v := ?_) ?_ hHeld ?_
  rotate_left
  · (intro ww hSw; (try dsimp only at hSw); have hP := hSw; have c2 := hP.c2; have u6 : ww.cell? ⟨c, 6, none⟩ = some (.pointer (some ⟨bh, 0, none⟩)) := (by have h9 := hP.mem.cup HX.out; rw [HU.out] at h9; exact h9); have heq := eqlB bh bh ww (hP.mem bh HXb.out) (hP.mem bh HXb.out); rw [decide_eq_true rfl] at heq; go_simp; try with_reducible rfl)
  refine tkW 9 (some 22) (v := ?_) ?_ hHeld ?_
  rotate_left
  · (intro ww _; go_simp; try with_reducible rfl)
  refine tkW 10 (some 23) (v := ?_) ?_ hHeld ?_
  rotate_left
  · (intro ww hSw; (try dsimp only at hSw); have hP := hSw; have c2 := hP.c2; have u6 : ww.cell? ⟨c, 6, none⟩ = some (.pointer (some ⟨bh, 0, none⟩)) := (by have h9 := hP.mem.cup HX.out; rw [HU.out] at h9; exact h9); have heq := eqlB bh bh ww (hP.mem bh HXb.out) (hP.mem bh HXb.out); rw [decide_eq_true rfl] at heq; go_simp; try with_reducible rfl)
  refine tkW 11 (some 24) (v := ?_) ?_ hHeld ?_
  rotate_left
  · (intro ww hSw; (try dsimp only at hSw); have hP := hSw; have c2 := hP.c2; have u6 : ww.cell? ⟨c, 6, none⟩ = some (.pointer (some ⟨bh, 0, none⟩)) := (by have h9 := hP.mem.cup HX.out; rw [HU.out] at h9; exact h9); have heq := eqlB bh bh ww (hP.mem bh HXb.out) (hP.mem bh HXb.out); rw [decide_eq_true rfl] at heq; go_simp; try with_reducible rfl)
  refine tkW 12 (some 25) (v := ?_) ?_ hHeld ?_
  rotate_left
  · (intro ww _; go_simp; try with_reducible rfl)
  refine wpAnyH_done (by kernel_rfl) ?_ _
  clear hHeld
  go_wp2
  (try rw [Exit.noGoto_ret])
  go_ret
  exact ⟨rfl, HB.out⟩

set_option maxRecDepth 100000 in
set_option maxHeartbeats 2000000 in
theorem take_top {B wb bm bh top : Nat} {X : Nat → Prop} {g : Gr} {D : List (St × Nat)} (p : Pa) (w : World) (h : PwM B wb bm bh (some top) X g D w) (e : getP Prod.fst D p.k = some (p.k, top)) (hx : X top) (hu : g.up top = none) :
    Calls Try.prog 30 #[.pointer (some ⟨wb, 0, none⟩), paV p] w fun e w' => e = .returned (.int .i64 7) ∧ BelT B w w' := by
  have HE := hide9 e
  have HX := hide9 hx
  have HU := hide9 hu
  clear e hx hu
  have hbx : Below w.heap.size w (w.alloc (.cells #[.int .i64 p.kd, .int .i64 p.k.1, .int .i64 p.k.2, .int .i64 p.pa.1, .int .i64 p.pa.2, .int .i64 p.af.1, .int .i64 p.af.2, .string p.nm, .string p.vl] 42)) := (Below.refl _ _).alloc (Nat.le_refl _) _
  have HB : Hid (BelT B w (w.alloc (.cells #[.int .i64 p.kd, .int .i64 p.k.1, .int .i64 p.k.2, .int .i64 p.pa.1, .int .i64 p.pa.2, .int .i64 p.af.1, .int .i64 p.af.2, .string p.nm, .string p.vl] 42))) := BelT.of hbx h.le
  have HP : Hid (PwM B wb bm bh (some top) X g D (w.alloc (.cells #[.int .i64 p.kd, .int .i64 p.k.1, .int .i64 p.k.2, .int .i64 p.pa.1, .int .i64 p.pa.2, .int .i64 p.af.1, .int .i64 p.af.2, .string p.nm, .string p.vl] 42))) := h.below hbx
  have HK : Hid ((w.alloc (.cells #[.int .i64 p.kd, .int .i64 p.k.1, .int .i64 p.k.2, .int .i64 p.pa.1, .int .i64 p.pa.2, .int .i64 p.af.1, .int .i64 p.af.2, .string p.nm, .string p.vl] 42)).heap[w.heap.size]? = some (.cells #[.int .i64 p.kd, .int .i64 p.k.1, .int .i64 p.k.2, .int .i64 p.pa.1, .int .i64 p.pa.2, .int .i64 p.af.1, .int .i64 p.af.2, .string p.nm, .string p.vl] 42)) := heap_alloc_new _ _
  clear hbx h
  show Calls Try.prog 30 #[.pointer (some ⟨wb, 0, none⟩), .agg #[.int .i64 p.kd, .int .i64 p.k.1, .int .i64 p.k.2, .int .i64 p.pa.1, .int .i64 p.pa.2, .int .i64 p.af.1, .int .i64 p.af.2, .string p.nm, .string p.vl]] w _
  go_enter Try.func30, Try.ntmps30
  go_wp2
  obtain ⟨W0, eW0⟩ : ∃ X, X = (w.alloc (.cells #[.int .i64 p.kd, .int .i64 p.k.1, .int .i64 p.k.2, .int .i64 p.pa.1, .int .i64 p.pa.2, .int .i64 p.af.1, .int .i64 p.af.2, .string p.nm, .string p.vl] 42)) := ⟨_, rfl⟩
  rw [← eW0] at HB HP HK ⊢
  obtain ⟨kb, ekb⟩ : ∃ b, b = w.heap.size := ⟨_, rfl⟩
  rw [← ekb] at HK ⊢
  clear eW0 ekb
  refine wp_region_held_drew (S := fun W' => PwM B wb bm bh (some top) X g D W' ∧ W'.heap[kb]? = some (.cells #[.int .i64 p.kd, .int .i64 p.k.1, .int .i64 p.k.2, .int .i64 p.pa.1, .int .i64 p.pa.2, .int .i64 p.af.1, .int .i64 p.af.2, .string p.nm, .string p.vl] 42)) (by kernel_rfl) ⟨HP.out.drew, HK.out⟩ (fun hHeld => ?_)
  obtain ⟨Ut1top5u0, eW⟩ : ∃ X, X = W0.drew := ⟨_, rfl⟩
  have hb : Below W0.heap.size W0 Ut1top5u0 := by rw [eW]; exact (Below.refl _ _).drew
  replace HB : Hid (BelT B w Ut1top5u0) := HB.out.trans (BelT.of hb HP.out.le)
  replace HP : Hid (PwM B wb bm bh (some top) X g D Ut1top5u0) := HP.out.below hb
  replace HK : Hid (Ut1top5u0.heap[kb]? = some (.cells #[.int .i64 p.kd, .int .i64 p.k.1, .int .i64 p.k.2, .int .i64 p.pa.1, .int .i64 p.pa.2, .int .i64 p.af.1, .int .i64 p.af.2, .string p.nm, .string p.vl] 42)) := (hb.block _ (row_lt HK.out)).trans HK.out
  rw [← eW] at hHeld ⊢
  clear eW hb
  refine tkW 0 (some 6) (v := ?_) ?_ hHeld ?_
  rotate_left
  · (intro ww _; go_simp; try with_reducible rfl)
  refine tkW 1 (some 7) (v := ?_) ?_ hHeld ?_
  rotate_left
  · (intro ww hSw; (try dsimp only at hSw); obtain ⟨hP, hK⟩ := hSw; have c0 := hP.c0; have b1 : ww.cell? ⟨kb, 1, none⟩ = some (.int .i64 p.k.1) := (by rw [cell_of_row ww kb 1 _ _ _ hK]; rfl); have b2 : ww.cell? ⟨kb, 2, none⟩ = some (.int .i64 p.k.2) := (by rw [cell_of_row ww kb 2 _ _ _ hK]; rfl); have hlk := hP.lookS HE.out; go_simp; try with_reducible rfl)
  refine tkW 2 (some 8) (v := ?_) ?_ hHeld ?_
  rotate_left
  · (intro ww _; go_simp; try with_reducible rfl)
  refine tkW 3 (some 9) (v := ?_) ?_ hHeld ?_
  rotate_left
  · (intro ww hSw; (try dsimp only at hSw); obtain ⟨hP, hK⟩ := hSw; have c0 := hP.c0; have b1 : ww.cell? ⟨kb, 1, none⟩ = some (.int .i64 p.k.1) := (by rw [cell_of_row ww kb 1 _ _ _ hK]; rfl); have b2 : ww.cell? ⟨kb, 2, none⟩ = some (.int .i64 p.k.2) := (by rw [cell_of_row ww kb 2 _ _ _ hK]; rfl); have hlk := hP.lookS HE.out; go_simp; try with_reducible rfl)
  refine tkW 4 (some 10) (v := ?_) ?_ hHeld ?_
  rotate_left
  · (intro ww _; go_simp; try with_reducible rfl)
  refine tkW 5 (some 11) (v := ?_) ?_ hHeld ?_
  rotate_left
  · (intro ww hSw; (try dsimp only at hSw); obtain ⟨hP, hK⟩ := hSw; have c0 := hP.c0; have b1 : ww.cell? ⟨kb, 1, none⟩ = some (.int .i64 p.k.1) := (by rw [cell_of_row ww kb 1 _ _ _ hK]; rfl); have b2 : ww.cell? ⟨kb, 2, none⟩ = some (.int .i64 p.k.2) := (by rw [cell_of_row ww kb 2 _ _ _ hK]; rfl); have hlk := hP.lookS HE.out; go_simp; try with_reducible rfl)
  refine tkW 6 (some 12) (v := ?_) ?_ hHeld ?_
  rotate_left
  · (intro ww hSw; (try dsimp only at hSw); obtain ⟨hP, hK⟩ := hSw; have c0 := hP.c0; have b1 : ww.cell? ⟨kb, 1, none⟩ = some (.int .i64 p.k.1) := (by rw [cell_of_row ww kb 1 _ _ _ hK]; rfl); have b2 : ww.cell? ⟨kb, 2, none⟩ = some (.int .i64 p.k.2) := (by rw [cell_of_row ww kb 2 _ _ _ hK]; rfl); have hlk := hP.lookS HE.out; go_simp; try with_reducible rfl)
  refine tkW 7 (some 5) (v := ?_) ?_ hHeld ?_
  rotate_left
  · (intro ww _; go_simp; try with_reducible rfl)
  refine wpAnyH_done (by kernel_rfl) ?_ _
  clear hHeld
  go_wp2
  refine wp_region_held_drew (S := fun W' => PwM B wb bm bh (some top) X g D W') (by kernel_rfl) HP.out.drew (fun hHeld => ?_)
  obtain ⟨Ut2top6u0, eW⟩ : ∃ X, X = Ut1top5u0.drew := ⟨_, rfl⟩
  have hb : Below Ut1top5u0.heap.size Ut1top5u0 Ut2top6u0 := by rw [eW]; exact (Below.refl _ _).drew
  replace HB : Hid (BelT B w Ut2top6u0) := HB.out.trans (BelT.of hb HP.out.le)
  replace HP : Hid (PwM B wb bm bh (some top) X g D Ut2top6u0) := HP.out.below hb
  replace HK : Hid (Ut2top6u0.heap[kb]? = some (.cells #[.int .i64 p.kd, .int .i64 p.k.1, .int .i64 p.k.2, .int .i64 p.pa.1, .int .i64 p.pa.2, .int .i64 p.af.1, .int .i64 p.af.2, .string p.nm, .string p.vl] 42)) := (hb.block _ (row_lt HK.out)).trans HK.out
  rw [← eW] at hHeld ⊢
  clear eW hb
  refine tkW 0 (some 13) (v := ?_) ?_ hHeld ?_
  rotate_left
  · (intro ww _; go_simp; try with_reducible rfl)
  refine tkW 1 (some 14) (v := ?_) ?_ hHeld ?_
  rotate_left
  · (intro ww hSw; (try dsimp only at hSw); have hP := hSw; have c2 := hP.c2; have u6 : ww.cell? ⟨top, 6, none⟩ = some (.pointer none) := (by have h9 := hP.mem.cup HX.out; rw [HU.out] at h9; exact h9); have heq := eqlN bh ww; go_simp; try with_reducible rfl)
  refine tkW 2 (some 15) (v := ?_) ?_ hHeld ?_
  rotate_left
  · (intro ww _; go_simp; try with_reducible rfl)
  refine tkW 3 (some 16) (v := ?_) ?_ hHeld ?_
  rotate_left
  · (intro ww _; go_simp; try with_reducible rfl)
  refine tkW 4 (some 17) (v := ?_) ?_ hHeld ?_
  rotate_left
  · (intro ww hSw; (try dsimp only at hSw); have hP := hSw; have c2 := hP.c2; have u6 : ww.cell? ⟨top, 6, none⟩ = some (.pointer none) := (by have h9 := hP.mem.cup HX.out; rw [HU.out] at h9; exact h9); have heq := eqlN bh ww; go_simp; try with_reducible rfl)
  refine tkW 5 (some 18) (v := ?_) ?_ hHeld ?_
  rotate_left
  · (intro ww _; go_simp; try with_reducible rfl)
  refine tkW 6 (some 19) (v := ?_) ?_ hHeld ?_
  rotate_left
  · (intro ww hSw; (try dsimp only at hSw); have hP := hSw; have c2 := hP.c2; have u6 : ww.cell? ⟨top, 6, none⟩ = some (.pointer none) := (by have h9 := hP.mem.cup HX.out; rw [HU.out] at h9; exact h9); have heq := eqlN bh ww; go_simp; try with_reducible rfl)
  refine tkW 7 (some 20) (v := ?_) ?_ hHeld ?_
  rotate_left
  · (intro ww _; go_simp; try with_reducible rfl)
  refine tkW 8 (some 21) (v := ?_) ?_ hHeld ?_
  rotate_left
  · (intro ww hSw; (try dsimp only at hSw); have hP := hSw; have c2 := hP.c2; have u6 : ww.cell? ⟨top, 6, none⟩ = some (.pointer none) := (by have h9 := hP.mem.cup HX.out; rw [HU.out] at h9; exact h9); have heq := eqlN bh ww; go_simp; try with_reducible rfl)
  refine tkW 9 (some 22) (v := ?_) ?_ hHeld ?_
  rotate_left
  · (intro ww _; go_simp; try with_reducible rfl)
  refine tkW 10 (some 23) (v := ?_) ?_ hHeld ?_
  rotate_left
  · (intro ww hSw; (try dsimp only at hSw); have hP := hSw; have c2 := hP.c2; have u6 : ww.cell? ⟨top, 6, none⟩ = some (.pointer none) := (by have h9 := hP.mem.cup HX.out; rw [HU.out] at h9; exact h9); have heq := eqlN bh ww; go_simp; try with_reducible rfl)
  refine tkW 11 (some 24) (v := ?_) ?_ hHeld ?_
  rotate_left
  · (intro ww hSw; (try dsimp only at hSw); have hP := hSw; have c2 := hP.c2; have u6 : ww.cell? ⟨top, 6, none⟩ = some (.pointer none) := (by have h9 := hP.mem.cup HX.out; rw [HU.out] at h9; exact h9); have heq := eqlN bh ww; go_simp; try with_reducible rfl)
  refine tkW 12 (some 25) (v := ?_) ?_ hHeld ?_
  rotate_left
  · (intro ww _; go_simp; try with_reducible rfl)
  refine wpAnyH_done (by kernel_rfl) ?_ _
  clear hHeld
  have c1 : Ut2top6u0.cell? ⟨wb, 1, none⟩ = some (.pointer (some ⟨top, 0, none⟩)) := HP.out.c1
  have heq := eqlB top top Ut2top6u0 (HP.out.mem top HX.out) (HP.out.mem top HX.out)
  rw [decide_eq_true rfl] at heq
  go_wp2
  (try rw [Exit.noGoto_ret])
  go_ret
  exact ⟨rfl, HB.out⟩

set_option maxRecDepth 100000 in
set_option maxHeartbeats 2000000 in
theorem take_do {B wb bm bh top : Nat} {X : Nat → Prop} {g : Gr} {D : List (St × Nat)} (p : Pa) (w : World) (h : PwM B wb bm bh (some top) X g D w) {c q : Nat} (e : getP Prod.fst D p.k = some (p.k, c)) (hx : X c) (hb : X bh) (hu : g.up c = some q) (hq : X q) (hqb : q ≠ bh) (hxt : X top) (hct : c ≠ top) (hl : Lnk X g) (hcq : c ∈ g.C q) :
    Calls Try.prog 30 #[.pointer (some ⟨wb, 0, none⟩), paV p] w fun e w' => e = .returned (.int .i64 0) ∧ PwM B wb bm bh (some top) X (lnk (unl g q c) c bh none) D w' ∧ BelT B w w' := by
  have HE := hide9 e
  have HX := hide9 hx
  have HXb := hide9 hb
  have HU := hide9 hu
  have HXq := hide9 hq
  have HQb := hide9 hqb
  have HXt := hide9 hxt
  have HCt := hide9 hct
  have HL := hide9 hl
  have HCq := hide9 hcq
  clear e hx hb hu hq hqb hxt hct hl hcq
  have hbx : Below w.heap.size w (w.alloc (.cells #[.int .i64 p.kd, .int .i64 p.k.1, .int .i64 p.k.2, .int .i64 p.pa.1, .int .i64 p.pa.2, .int .i64 p.af.1, .int .i64 p.af.2, .string p.nm, .string p.vl] 42)) := (Below.refl _ _).alloc (Nat.le_refl _) _
  have HB : Hid (BelT B w (w.alloc (.cells #[.int .i64 p.kd, .int .i64 p.k.1, .int .i64 p.k.2, .int .i64 p.pa.1, .int .i64 p.pa.2, .int .i64 p.af.1, .int .i64 p.af.2, .string p.nm, .string p.vl] 42))) := BelT.of hbx h.le
  have HP : Hid (PwM B wb bm bh (some top) X g D (w.alloc (.cells #[.int .i64 p.kd, .int .i64 p.k.1, .int .i64 p.k.2, .int .i64 p.pa.1, .int .i64 p.pa.2, .int .i64 p.af.1, .int .i64 p.af.2, .string p.nm, .string p.vl] 42))) := h.below hbx
  have HK : Hid ((w.alloc (.cells #[.int .i64 p.kd, .int .i64 p.k.1, .int .i64 p.k.2, .int .i64 p.pa.1, .int .i64 p.pa.2, .int .i64 p.af.1, .int .i64 p.af.2, .string p.nm, .string p.vl] 42)).heap[w.heap.size]? = some (.cells #[.int .i64 p.kd, .int .i64 p.k.1, .int .i64 p.k.2, .int .i64 p.pa.1, .int .i64 p.pa.2, .int .i64 p.af.1, .int .i64 p.af.2, .string p.nm, .string p.vl] 42)) := heap_alloc_new _ _
  clear hbx h
  show Calls Try.prog 30 #[.pointer (some ⟨wb, 0, none⟩), .agg #[.int .i64 p.kd, .int .i64 p.k.1, .int .i64 p.k.2, .int .i64 p.pa.1, .int .i64 p.pa.2, .int .i64 p.af.1, .int .i64 p.af.2, .string p.nm, .string p.vl]] w _
  go_enter Try.func30, Try.ntmps30
  go_wp2
  obtain ⟨W0, eW0⟩ : ∃ X, X = (w.alloc (.cells #[.int .i64 p.kd, .int .i64 p.k.1, .int .i64 p.k.2, .int .i64 p.pa.1, .int .i64 p.pa.2, .int .i64 p.af.1, .int .i64 p.af.2, .string p.nm, .string p.vl] 42)) := ⟨_, rfl⟩
  rw [← eW0] at HB HP HK ⊢
  obtain ⟨kb, ekb⟩ : ∃ b, b = w.heap.size := ⟨_, rfl⟩
  rw [← ekb] at HK ⊢
  clear eW0 ekb
  refine wp_region_held_drew (S := fun W' => PwM B wb bm bh (some top) X g D W' ∧ W'.heap[kb]? = some (.cells #[.int .i64 p.kd, .int .i64 p.k.1, .int .i64 p.k.2, .int .i64 p.pa.1, .int .i64 p.pa.2, .int .i64 p.af.1, .int .i64 p.af.2, .string p.nm, .string p.vl] 42)) (by kernel_rfl) ⟨HP.out.drew, HK.out⟩ (fun hHeld => ?_)
  obtain ⟨Ut1do7u0, eW⟩ : ∃ X, X = W0.drew := ⟨_, rfl⟩
  have hb : Below W0.heap.size W0 Ut1do7u0 := by rw [eW]; exact (Below.refl _ _).drew
  replace HB : Hid (BelT B w Ut1do7u0) := HB.out.trans (BelT.of hb HP.out.le)
  replace HP : Hid (PwM B wb bm bh (some top) X g D Ut1do7u0) := HP.out.below hb
  replace HK : Hid (Ut1do7u0.heap[kb]? = some (.cells #[.int .i64 p.kd, .int .i64 p.k.1, .int .i64 p.k.2, .int .i64 p.pa.1, .int .i64 p.pa.2, .int .i64 p.af.1, .int .i64 p.af.2, .string p.nm, .string p.vl] 42)) := (hb.block _ (row_lt HK.out)).trans HK.out
  rw [← eW] at hHeld ⊢
  clear eW hb
  refine tkW 0 (some 6) (v := ?_) ?_ hHeld ?_
  rotate_left
  · (intro ww _; go_simp; try with_reducible rfl)
  refine tkW 1 (some 7) (v := ?_) ?_ hHeld ?_
  rotate_left
  · (intro ww hSw; (try dsimp only at hSw); obtain ⟨hP, hK⟩ := hSw; have c0 := hP.c0; have b1 : ww.cell? ⟨kb, 1, none⟩ = some (.int .i64 p.k.1) := (by rw [cell_of_row ww kb 1 _ _ _ hK]; rfl); have b2 : ww.cell? ⟨kb, 2, none⟩ = some (.int .i64 p.k.2) := (by rw [cell_of_row ww kb 2 _ _ _ hK]; rfl); have hlk := hP.lookS HE.out; go_simp; try with_reducible rfl)
  refine tkW 2 (some 8) (v := ?_) ?_ hHeld ?_
  rotate_left
  · (intro ww _; go_simp; try with_reducible rfl)
  refine tkW 3 (some 9) (v := ?_) ?_ hHeld ?_
  rotate_left
  · (intro ww hSw; (try dsimp only at hSw); obtain ⟨hP, hK⟩ := hSw; have c0 := hP.c0; have b1 : ww.cell? ⟨kb, 1, none⟩ = some (.int .i64 p.k.1) := (by rw [cell_of_row ww kb 1 _ _ _ hK]; rfl); have b2 : ww.cell? ⟨kb, 2, none⟩ = some (.int .i64 p.k.2) := (by rw [cell_of_row ww kb 2 _ _ _ hK]; rfl); have hlk := hP.lookS HE.out; go_simp; try with_reducible rfl)
  refine tkW 4 (some 10) (v := ?_) ?_ hHeld ?_
  rotate_left
  · (intro ww _; go_simp; try with_reducible rfl)
  refine tkW 5 (some 11) (v := ?_) ?_ hHeld ?_
  rotate_left
  · (intro ww hSw; (try dsimp only at hSw); obtain ⟨hP, hK⟩ := hSw; have c0 := hP.c0; have b1 : ww.cell? ⟨kb, 1, none⟩ = some (.int .i64 p.k.1) := (by rw [cell_of_row ww kb 1 _ _ _ hK]; rfl); have b2 : ww.cell? ⟨kb, 2, none⟩ = some (.int .i64 p.k.2) := (by rw [cell_of_row ww kb 2 _ _ _ hK]; rfl); have hlk := hP.lookS HE.out; go_simp; try with_reducible rfl)
  refine tkW 6 (some 12) (v := ?_) ?_ hHeld ?_
  rotate_left
  · (intro ww hSw; (try dsimp only at hSw); obtain ⟨hP, hK⟩ := hSw; have c0 := hP.c0; have b1 : ww.cell? ⟨kb, 1, none⟩ = some (.int .i64 p.k.1) := (by rw [cell_of_row ww kb 1 _ _ _ hK]; rfl); have b2 : ww.cell? ⟨kb, 2, none⟩ = some (.int .i64 p.k.2) := (by rw [cell_of_row ww kb 2 _ _ _ hK]; rfl); have hlk := hP.lookS HE.out; go_simp; try with_reducible rfl)
  refine tkW 7 (some 5) (v := ?_) ?_ hHeld ?_
  rotate_left
  · (intro ww _; go_simp; try with_reducible rfl)
  refine wpAnyH_done (by kernel_rfl) ?_ _
  clear hHeld
  go_wp2
  refine wp_region_held_drew (S := fun W' => PwM B wb bm bh (some top) X g D W') (by kernel_rfl) HP.out.drew (fun hHeld => ?_)
  obtain ⟨Ut2do8u0, eW⟩ : ∃ X, X = Ut1do7u0.drew := ⟨_, rfl⟩
  have hb : Below Ut1do7u0.heap.size Ut1do7u0 Ut2do8u0 := by rw [eW]; exact (Below.refl _ _).drew
  replace HB : Hid (BelT B w Ut2do8u0) := HB.out.trans (BelT.of hb HP.out.le)
  replace HP : Hid (PwM B wb bm bh (some top) X g D Ut2do8u0) := HP.out.below hb
  replace HK : Hid (Ut2do8u0.heap[kb]? = some (.cells #[.int .i64 p.kd, .int .i64 p.k.1, .int .i64 p.k.2, .int .i64 p.pa.1, .int .i64 p.pa.2, .int .i64 p.af.1, .int .i64 p.af.2, .string p.nm, .string p.vl] 42)) := (hb.block _ (row_lt HK.out)).trans HK.out
  rw [← eW] at hHeld ⊢
  clear eW hb
  refine tkW 0 (some 13) (v := ?_) ?_ hHeld ?_
  rotate_left
  · (intro ww _; go_simp; try with_reducible rfl)
  refine tkW 1 (some 14) (v := ?_) ?_ hHeld ?_
  rotate_left
  · (intro ww hSw; (try dsimp only at hSw); have hP := hSw; have c2 := hP.c2; have u6 : ww.cell? ⟨c, 6, none⟩ = some (.pointer (some ⟨q, 0, none⟩)) := (by have h9 := hP.mem.cup HX.out; rw [HU.out] at h9; exact h9); have heq := eqlB q bh ww (hP.mem q HXq.out) (hP.mem bh HXb.out); rw [decide_eq_false HQb.out] at heq; go_simp; try with_reducible rfl)
  refine tkW 2 (some 15) (v := ?_) ?_ hHeld ?_
  rotate_left
  · (intro ww _; go_simp; try with_reducible rfl)
  refine tkW 3 (some 16) (v := ?_) ?_ hHeld ?_
  rotate_left
  · (intro ww _; go_simp; try with_reducible rfl)
  refine tkW 4 (some 17) (v := ?_) ?_ hHeld ?_
  rotate_left
  · (intro ww hSw; (try dsimp only at hSw); have hP := hSw; have c2 := hP.c2; have u6 : ww.cell? ⟨c, 6, none⟩ = some (.pointer (some ⟨q, 0, none⟩)) := (by have h9 := hP.mem.cup HX.out; rw [HU.out] at h9; exact h9); have heq := eqlB q bh ww (hP.mem q HXq.out) (hP.mem bh HXb.out); rw [decide_eq_false HQb.out] at heq; go_simp; try with_reducible rfl)
  refine tkW 5 (some 18) (v := ?_) ?_ hHeld ?_
  rotate_left
  · (intro ww _; go_simp; try with_reducible rfl)
  refine tkW 6 (some 19) (v := ?_) ?_ hHeld ?_
  rotate_left
  · (intro ww hSw; (try dsimp only at hSw); have hP := hSw; have c2 := hP.c2; have u6 : ww.cell? ⟨c, 6, none⟩ = some (.pointer (some ⟨q, 0, none⟩)) := (by have h9 := hP.mem.cup HX.out; rw [HU.out] at h9; exact h9); have heq := eqlB q bh ww (hP.mem q HXq.out) (hP.mem bh HXb.out); rw [decide_eq_false HQb.out] at heq; go_simp; try with_reducible rfl)
  refine tkW 7 (some 20) (v := ?_) ?_ hHeld ?_
  rotate_left
  · (intro ww _; go_simp; try with_reducible rfl)
  refine tkW 8 (some 21) (v := ?_) ?_ hHeld ?_
  rotate_left
  · (intro ww hSw; (try dsimp only at hSw); have hP := hSw; have c2 := hP.c2; have u6 : ww.cell? ⟨c, 6, none⟩ = some (.pointer (some ⟨q, 0, none⟩)) := (by have h9 := hP.mem.cup HX.out; rw [HU.out] at h9; exact h9); have heq := eqlB q bh ww (hP.mem q HXq.out) (hP.mem bh HXb.out); rw [decide_eq_false HQb.out] at heq; go_simp; try with_reducible rfl)
  refine tkW 9 (some 22) (v := ?_) ?_ hHeld ?_
  rotate_left
  · (intro ww _; go_simp; try with_reducible rfl)
  refine tkW 10 (some 23) (v := ?_) ?_ hHeld ?_
  rotate_left
  · (intro ww hSw; (try dsimp only at hSw); have hP := hSw; have c2 := hP.c2; have u6 : ww.cell? ⟨c, 6, none⟩ = some (.pointer (some ⟨q, 0, none⟩)) := (by have h9 := hP.mem.cup HX.out; rw [HU.out] at h9; exact h9); have heq := eqlB q bh ww (hP.mem q HXq.out) (hP.mem bh HXb.out); rw [decide_eq_false HQb.out] at heq; go_simp; try with_reducible rfl)
  refine tkW 11 (some 24) (v := ?_) ?_ hHeld ?_
  rotate_left
  · (intro ww hSw; (try dsimp only at hSw); have hP := hSw; have c2 := hP.c2; have u6 : ww.cell? ⟨c, 6, none⟩ = some (.pointer (some ⟨q, 0, none⟩)) := (by have h9 := hP.mem.cup HX.out; rw [HU.out] at h9; exact h9); have heq := eqlB q bh ww (hP.mem q HXq.out) (hP.mem bh HXb.out); rw [decide_eq_false HQb.out] at heq; go_simp; try with_reducible rfl)
  refine tkW 12 (some 25) (v := ?_) ?_ hHeld ?_
  rotate_left
  · (intro ww _; go_simp; try with_reducible rfl)
  refine wpAnyH_done (by kernel_rfl) ?_ _
  clear hHeld
  have c1 : Ut2do8u0.cell? ⟨wb, 1, none⟩ = some (.pointer (some ⟨top, 0, none⟩)) := HP.out.c1
  have heq := eqlB c top Ut2do8u0 (HP.out.mem c HX.out) (HP.out.mem top HXt.out)
  rw [decide_eq_false HCt.out] at heq
  go_wp2_with (go_at_call 50; refine (unlink_s HP.out HL.out HXq.out HCq.out).mono ?_; rintro e w1 ⟨⟨v, rfl⟩, hg, ht⟩; have c2 : w1.cell? ⟨wb, 2, none⟩ = some (.pointer (some ⟨bh, 0, none⟩)) := hg.c2)
  replace HB : Hid (BelT B w w1) := HB.out.trans (HP.out.touchT ht)
  replace HK : Hid (w1.heap[kb]? = some (.cells #[.int .i64 p.kd, .int .i64 p.k.1, .int .i64 p.k.2, .int .i64 p.pa.1, .int .i64 p.pa.2, .int .i64 p.af.1, .int .i64 p.af.2, .string p.nm, .string p.vl] 42)) := HP.out.row ht HK.out (by decide)
  replace HP : Hid (PwM B wb bm bh (some top) X (unl g q c) D w1) := hg
  clear hg ht
  clear heq c1
  refine (link_s (a := none) HP.out (HL.out.unl HXq.out HCq.out) HX.out (fun r _ => not_unl r) HXb.out (fun x e => by cases e)).mono ?_
  rintro e w2 ⟨⟨v2, rfl⟩, hg, ht⟩
  replace HB : Hid (BelT B w w2) := HB.out.trans (HP.out.touchT ht)
  replace HK : Hid (w2.heap[kb]? = some (.cells #[.int .i64 p.kd, .int .i64 p.k.1, .int .i64 p.k.2, .int .i64 p.pa.1, .int .i64 p.pa.2, .int .i64 p.af.1, .int .i64 p.af.2, .string p.nm, .string p.vl] 42)) := HP.out.row ht HK.out (by decide)
  replace HP : Hid (PwM B wb bm bh (some top) X (lnk (unl g q c) c bh none) D w2) := hg
  clear hg ht
  clear c2
  go_wp2
  (try rw [Exit.noGoto_ret])
  go_ret
  exact ⟨rfl, HP.out, HB.out⟩

theorem len_nodes {w : World} {b : Nat} {E : List (St × Nat)} (h : MapIs Prod.fst (fun e => ptr (some e.2)) w b E) : (Builtin.len_ #[52] 3 #[.map (some b)]).run Try.prog w = .ok (.int .i64 (E.length : Int)) w := by
  obtain ⟨es, cl, hb, he⟩ := h
  have hz : es.size = E.length := by
    have := congrArg List.length he.ent
    simpa using this
  simp [Builtin.len_, run_underlying Try.underlying52, run_underlying Try.underlying3, MapKept.run_getObj_map hb, hz, Result.andThen]
  rfl

end Go.Proofs.Ytccpljllgpabnab
