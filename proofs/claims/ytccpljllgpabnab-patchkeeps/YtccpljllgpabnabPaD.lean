/- What the work is asked: isZero, held, ahead, inTree. -/
import Derived.Test.YtccpljllgpabnabPaC
namespace Go.Proofs.Ytccpljllgpabnab
open Go.RowKit
set_option linter.unusedVariables false
set_option linter.unusedSimpArgs false

set_option maxRecDepth 100000 in
set_option maxHeartbeats 1000000 in
theorem held_none {B wb bm bh : Nat} {top : Option Nat} {X : Nat → Prop} {g : Gr} {D : List (St × Nat)} (k : St) (w : World) (h : PwM B wb bm bh top X g D w) (e : getP Prod.fst D k = none) :
    Calls Try.prog 51 #[.pointer (some ⟨wb, 0, none⟩), .agg #[.int .i64 k.1, .int .i64 k.2]] w fun e w' => e = .returned (.pointer none) ∧ Below w.heap.size w w' := by
  have HE := hide9 e
  clear e
  have hbx : Below w.heap.size w (w.alloc (.cells #[.int .i64 k.1, .int .i64 k.2] 23)) := (Below.refl _ _).alloc (Nat.le_refl _) _
  have HP : Hid (PwM B wb bm bh top X g D (w.alloc (.cells #[.int .i64 k.1, .int .i64 k.2] 23))) := h.below hbx
  have HK : Hid ((w.alloc (.cells #[.int .i64 k.1, .int .i64 k.2] 23)).heap[w.heap.size]? = some (.cells #[.int .i64 k.1, .int .i64 k.2] 23)) := heap_alloc_new _ _
  have HB : Hid (Below w.heap.size w (w.alloc (.cells #[.int .i64 k.1, .int .i64 k.2] 23))) := hbx
  clear hbx h
  show Calls Try.prog 51 #[.pointer (some ⟨wb, 0, none⟩), .agg #[.int .i64 k.1, .int .i64 k.2]] w _
  go_enter Try.func51, Try.ntmps51
  go_wp2
  obtain ⟨W0, eW0⟩ : ∃ X, X = (w.alloc (.cells #[.int .i64 k.1, .int .i64 k.2] 23)) := ⟨_, rfl⟩
  rw [← eW0] at HP HK HB ⊢
  obtain ⟨kb, ekb⟩ : ∃ b, b = w.heap.size := ⟨_, rfl⟩
  rw [← ekb] at HK ⊢
  clear eW0 ekb
  refine wp_region_held_drew (S := fun W' => PwM B wb bm bh top X g D W' ∧ W'.heap[kb]? = some (.cells #[.int .i64 k.1, .int .i64 k.2] 23)) (by kernel_rfl) ⟨HP.out.drew, HK.out⟩ (fun hHeld => ?_)
  obtain ⟨Uh1none1u0, eW⟩ : ∃ X, X = W0.drew := ⟨_, rfl⟩
  have hb : Below W0.heap.size W0 Uh1none1u0 := by rw [eW]; exact (Below.refl _ _).drew
  replace HP : Hid (PwM B wb bm bh top X g D Uh1none1u0) := HP.out.below hb
  replace HK : Hid (Uh1none1u0.heap[kb]? = some (.cells #[.int .i64 k.1, .int .i64 k.2] 23)) := (hb.block _ (row_lt HK.out)).trans HK.out
  replace HB : Hid (Below w.heap.size w Uh1none1u0) := HB.out.trans (hb.mono HB.out.size)
  rw [← eW] at hHeld ⊢
  clear eW hb
  refine tkW 0 (some 6) (v := ?_) ?_ hHeld ?_
  rotate_left
  · (intro ww _; go_simp; try with_reducible rfl)
  refine tkW 1 (some 7) (v := ?_) ?_ hHeld ?_
  rotate_left
  · (intro ww hSw; (try dsimp only at hSw); obtain ⟨hP, hK⟩ := hSw; have c0 := hP.c0; have k0 : ww.cell? ⟨kb, 0, none⟩ = some (.int .i64 k.1) := (by rw [cell_of_row ww kb 0 _ _ _ hK]; rfl); have k1 : ww.cell? ⟨kb, 1, none⟩ = some (.int .i64 k.2) := (by rw [cell_of_row ww kb 1 _ _ _ hK]; rfl); have hlk := hP.lookN HE.out; go_simp; try with_reducible rfl)
  refine tkW 2 (some 8) (v := ?_) ?_ hHeld ?_
  rotate_left
  · (intro ww _; go_simp; try with_reducible rfl)
  refine tkW 3 (some 9) (v := ?_) ?_ hHeld ?_
  rotate_left
  · (intro ww hSw; (try dsimp only at hSw); obtain ⟨hP, hK⟩ := hSw; have c0 := hP.c0; have k0 : ww.cell? ⟨kb, 0, none⟩ = some (.int .i64 k.1) := (by rw [cell_of_row ww kb 0 _ _ _ hK]; rfl); have k1 : ww.cell? ⟨kb, 1, none⟩ = some (.int .i64 k.2) := (by rw [cell_of_row ww kb 1 _ _ _ hK]; rfl); have hlk := hP.lookN HE.out; go_simp; try with_reducible rfl)
  refine tkW 4 (some 10) (v := ?_) ?_ hHeld ?_
  rotate_left
  · (intro ww hSw; (try dsimp only at hSw); obtain ⟨hP, hK⟩ := hSw; have c0 := hP.c0; have k0 : ww.cell? ⟨kb, 0, none⟩ = some (.int .i64 k.1) := (by rw [cell_of_row ww kb 0 _ _ _ hK]; rfl); have k1 : ww.cell? ⟨kb, 1, none⟩ = some (.int .i64 k.2) := (by rw [cell_of_row ww kb 1 _ _ _ hK]; rfl); have hlk := hP.lookN HE.out; go_simp; try with_reducible rfl)
  refine tkW 5 (some 11) (v := ?_) ?_ hHeld ?_
  rotate_left
  · (intro ww hSw; (try dsimp only at hSw); obtain ⟨hP, hK⟩ := hSw; have c0 := hP.c0; have k0 : ww.cell? ⟨kb, 0, none⟩ = some (.int .i64 k.1) := (by rw [cell_of_row ww kb 0 _ _ _ hK]; rfl); have k1 : ww.cell? ⟨kb, 1, none⟩ = some (.int .i64 k.2) := (by rw [cell_of_row ww kb 1 _ _ _ hK]; rfl); have hlk := hP.lookN HE.out; go_simp; try with_reducible rfl)
  refine tkW 6 (some 5) (v := ?_) ?_ hHeld ?_
  rotate_left
  · (intro ww _; go_simp; try with_reducible rfl)
  refine wpAnyH_done (by kernel_rfl) ?_ _
  clear hHeld
  go_wp2
  refine wp_region_held_drew (S := fun W' => PwM B wb bm bh top X g D W') (by kernel_rfl) HP.out.drew (fun hHeld => ?_)
  obtain ⟨Uh2none2u0, eW⟩ : ∃ X, X = Uh1none1u0.drew := ⟨_, rfl⟩
  have hb : Below Uh1none1u0.heap.size Uh1none1u0 Uh2none2u0 := by rw [eW]; exact (Below.refl _ _).drew
  replace HP : Hid (PwM B wb bm bh top X g D Uh2none2u0) := HP.out.below hb
  replace HB : Hid (Below w.heap.size w Uh2none2u0) := HB.out.trans (hb.mono HB.out.size)
  rw [← eW] at hHeld ⊢
  clear eW hb
  refine tkW 0 (some 12) (v := ?_) ?_ hHeld ?_
  rotate_left
  · (intro ww _; go_simp; try with_reducible rfl)
  refine tkW 1 (some 13) (v := ?_) ?_ hHeld ?_
  rotate_left
  · (intro ww hSw; (try dsimp only at hSw); have hP := hSw; go_simp; try with_reducible rfl)
  refine tkW 2 (some 14) (v := ?_) ?_ hHeld ?_
  rotate_left
  · (intro ww _; go_simp; try with_reducible rfl)
  refine tkU 3 (some 15) hHeld ?_
  refine tkU 4 (some 16) hHeld ?_
  refine tkU 5 (some 17) hHeld ?_
  refine tkU 6 (some 18) hHeld ?_
  refine tkU 7 (some 19) hHeld ?_
  refine tkU 8 (some 20) hHeld ?_
  refine tkU 9 (some 21) hHeld ?_
  refine tkU 10 (some 22) hHeld ?_
  refine tkU 11 (some 23) hHeld ?_
  refine tkW 12 (some 24) (v := ?_) ?_ hHeld ?_
  rotate_left
  · (intro ww _; go_simp; try with_reducible rfl)
  refine wpAnyH_done (by kernel_rfl) ?_ _
  clear hHeld
  go_wp2
  (try rw [Exit.noGoto_ret])
  go_ret
  exact ⟨rfl, HB.out⟩

set_option maxRecDepth 100000 in
set_option maxHeartbeats 1000000 in
theorem held_yes {B wb bm bh : Nat} {top : Option Nat} {X : Nat → Prop} {g : Gr} {D : List (St × Nat)} (k : St) (w : World) (h : PwM B wb bm bh top X g D w) {c : Nat} (e : getP Prod.fst D k = some (k, c)) (hx : X c) (hb : X bh) (hu : g.up c = some bh) :
    Calls Try.prog 51 #[.pointer (some ⟨wb, 0, none⟩), .agg #[.int .i64 k.1, .int .i64 k.2]] w fun e w' => e = .returned (.pointer (some ⟨c, 0, none⟩)) ∧ Below w.heap.size w w' := by
  have HE := hide9 e
  have HX := hide9 hx
  have HXb := hide9 hb
  have HU := hide9 hu
  clear e hx hb hu
  have hbx : Below w.heap.size w (w.alloc (.cells #[.int .i64 k.1, .int .i64 k.2] 23)) := (Below.refl _ _).alloc (Nat.le_refl _) _
  have HP : Hid (PwM B wb bm bh top X g D (w.alloc (.cells #[.int .i64 k.1, .int .i64 k.2] 23))) := h.below hbx
  have HK : Hid ((w.alloc (.cells #[.int .i64 k.1, .int .i64 k.2] 23)).heap[w.heap.size]? = some (.cells #[.int .i64 k.1, .int .i64 k.2] 23)) := heap_alloc_new _ _
  have HB : Hid (Below w.heap.size w (w.alloc (.cells #[.int .i64 k.1, .int .i64 k.2] 23))) := hbx
  clear hbx h
  show Calls Try.prog 51 #[.pointer (some ⟨wb, 0, none⟩), .agg #[.int .i64 k.1, .int .i64 k.2]] w _
  go_enter Try.func51, Try.ntmps51
  go_wp2
  obtain ⟨W0, eW0⟩ : ∃ X, X = (w.alloc (.cells #[.int .i64 k.1, .int .i64 k.2] 23)) := ⟨_, rfl⟩
  rw [← eW0] at HP HK HB ⊢
  obtain ⟨kb, ekb⟩ : ∃ b, b = w.heap.size := ⟨_, rfl⟩
  rw [← ekb] at HK ⊢
  clear eW0 ekb
  refine wp_region_held_drew (S := fun W' => PwM B wb bm bh top X g D W' ∧ W'.heap[kb]? = some (.cells #[.int .i64 k.1, .int .i64 k.2] 23)) (by kernel_rfl) ⟨HP.out.drew, HK.out⟩ (fun hHeld => ?_)
  obtain ⟨Uh1yes3u0, eW⟩ : ∃ X, X = W0.drew := ⟨_, rfl⟩
  have hb : Below W0.heap.size W0 Uh1yes3u0 := by rw [eW]; exact (Below.refl _ _).drew
  replace HP : Hid (PwM B wb bm bh top X g D Uh1yes3u0) := HP.out.below hb
  replace HK : Hid (Uh1yes3u0.heap[kb]? = some (.cells #[.int .i64 k.1, .int .i64 k.2] 23)) := (hb.block _ (row_lt HK.out)).trans HK.out
  replace HB : Hid (Below w.heap.size w Uh1yes3u0) := HB.out.trans (hb.mono HB.out.size)
  rw [← eW] at hHeld ⊢
  clear eW hb
  refine tkW 0 (some 6) (v := ?_) ?_ hHeld ?_
  rotate_left
  · (intro ww _; go_simp; try with_reducible rfl)
  refine tkW 1 (some 7) (v := ?_) ?_ hHeld ?_
  rotate_left
  · (intro ww hSw; (try dsimp only at hSw); obtain ⟨hP, hK⟩ := hSw; have c0 := hP.c0; have k0 : ww.cell? ⟨kb, 0, none⟩ = some (.int .i64 k.1) := (by rw [cell_of_row ww kb 0 _ _ _ hK]; rfl); have k1 : ww.cell? ⟨kb, 1, none⟩ = some (.int .i64 k.2) := (by rw [cell_of_row ww kb 1 _ _ _ hK]; rfl); have hlk := hP.lookS HE.out; go_simp; try with_reducible rfl)
  refine tkW 2 (some 8) (v := ?_) ?_ hHeld ?_
  rotate_left
  · (intro ww _; go_simp; try with_reducible rfl)
  refine tkW 3 (some 9) (v := ?_) ?_ hHeld ?_
  rotate_left
  · (intro ww hSw; (try dsimp only at hSw); obtain ⟨hP, hK⟩ := hSw; have c0 := hP.c0; have k0 : ww.cell? ⟨kb, 0, none⟩ = some (.int .i64 k.1) := (by rw [cell_of_row ww kb 0 _ _ _ hK]; rfl); have k1 : ww.cell? ⟨kb, 1, none⟩ = some (.int .i64 k.2) := (by rw [cell_of_row ww kb 1 _ _ _ hK]; rfl); have hlk := hP.lookS HE.out; go_simp; try with_reducible rfl)
  refine tkW 4 (some 10) (v := ?_) ?_ hHeld ?_
  rotate_left
  · (intro ww hSw; (try dsimp only at hSw); obtain ⟨hP, hK⟩ := hSw; have c0 := hP.c0; have k0 : ww.cell? ⟨kb, 0, none⟩ = some (.int .i64 k.1) := (by rw [cell_of_row ww kb 0 _ _ _ hK]; rfl); have k1 : ww.cell? ⟨kb, 1, none⟩ = some (.int .i64 k.2) := (by rw [cell_of_row ww kb 1 _ _ _ hK]; rfl); have hlk := hP.lookS HE.out; go_simp; try with_reducible rfl)
  refine tkW 5 (some 11) (v := ?_) ?_ hHeld ?_
  rotate_left
  · (intro ww hSw; (try dsimp only at hSw); obtain ⟨hP, hK⟩ := hSw; have c0 := hP.c0; have k0 : ww.cell? ⟨kb, 0, none⟩ = some (.int .i64 k.1) := (by rw [cell_of_row ww kb 0 _ _ _ hK]; rfl); have k1 : ww.cell? ⟨kb, 1, none⟩ = some (.int .i64 k.2) := (by rw [cell_of_row ww kb 1 _ _ _ hK]; rfl); have hlk := hP.lookS HE.out; go_simp; try with_reducible rfl)
  refine tkW 6 (some 5) (v := ?_) ?_ hHeld ?_
  rotate_left
  · (intro ww _; go_simp; try with_reducible rfl)
  refine wpAnyH_done (by kernel_rfl) ?_ _
  clear hHeld
  go_wp2
  refine wp_region_held_drew (S := fun W' => PwM B wb bm bh top X g D W') (by kernel_rfl) HP.out.drew (fun hHeld => ?_)
  obtain ⟨Uh2yes4u0, eW⟩ : ∃ X, X = Uh1yes3u0.drew := ⟨_, rfl⟩
  have hb : Below Uh1yes3u0.heap.size Uh1yes3u0 Uh2yes4u0 := by rw [eW]; exact (Below.refl _ _).drew
  replace HP : Hid (PwM B wb bm bh top X g D Uh2yes4u0) := HP.out.below hb
  replace HB : Hid (Below w.heap.size w Uh2yes4u0) := HB.out.trans (hb.mono HB.out.size)
  rw [← eW] at hHeld ⊢
  clear eW hb
  refine tkW 0 (some 12) (v := ?_) ?_ hHeld ?_
  rotate_left
  · (intro ww _; go_simp; try with_reducible rfl)
  refine tkW 1 (some 13) (v := ?_) ?_ hHeld ?_
  rotate_left
  · (intro ww hSw; (try dsimp only at hSw); have hP := hSw; have c2 := hP.c2; have u6 : ww.cell? ⟨c, 6, none⟩ = some (.pointer (some ⟨bh, 0, none⟩)) := (by have h9 := hP.mem.cup HX.out; rw [HU.out] at h9; exact h9); have heq := eqlB bh bh ww (hP.mem bh HXb.out) (hP.mem bh HXb.out); rw [decide_eq_true rfl] at heq; go_simp; try with_reducible rfl)
  refine tkW 2 (some 14) (v := ?_) ?_ hHeld ?_
  rotate_left
  · (intro ww _; go_simp; try with_reducible rfl)
  refine tkW 3 (some 15) (v := ?_) ?_ hHeld ?_
  rotate_left
  · (intro ww _; go_simp; try with_reducible rfl)
  refine tkW 4 (some 16) (v := ?_) ?_ hHeld ?_
  rotate_left
  · (intro ww hSw; (try dsimp only at hSw); have hP := hSw; have c2 := hP.c2; have u6 : ww.cell? ⟨c, 6, none⟩ = some (.pointer (some ⟨bh, 0, none⟩)) := (by have h9 := hP.mem.cup HX.out; rw [HU.out] at h9; exact h9); have heq := eqlB bh bh ww (hP.mem bh HXb.out) (hP.mem bh HXb.out); rw [decide_eq_true rfl] at heq; go_simp; try with_reducible rfl)
  refine tkW 5 (some 17) (v := ?_) ?_ hHeld ?_
  rotate_left
  · (intro ww _; go_simp; try with_reducible rfl)
  refine tkW 6 (some 18) (v := ?_) ?_ hHeld ?_
  rotate_left
  · (intro ww hSw; (try dsimp only at hSw); have hP := hSw; have c2 := hP.c2; have u6 : ww.cell? ⟨c, 6, none⟩ = some (.pointer (some ⟨bh, 0, none⟩)) := (by have h9 := hP.mem.cup HX.out; rw [HU.out] at h9; exact h9); have heq := eqlB bh bh ww (hP.mem bh HXb.out) (hP.mem bh HXb.out); rw [decide_eq_true rfl] at heq; go_simp; try with_reducible rfl)
  refine tkW 7 (some 19) (v := ?_) ?_ hHeld ?_
  rotate_left
  · (intro ww _; go_simp; try with_reducible rfl)
  refine tkW 8 (some 20) (v := ?_) ?_ hHeld ?_
  rotate_left
  · (intro ww hSw; (try dsimp only at hSw); have hP := hSw; have c2 := hP.c2; have u6 : ww.cell? ⟨c, 6, none⟩ = some (.pointer (some ⟨bh, 0, none⟩)) := (by have h9 := hP.mem.cup HX.out; rw [HU.out] at h9; exact h9); have heq := eqlB bh bh ww (hP.mem bh HXb.out) (hP.mem bh HXb.out); rw [decide_eq_true rfl] at heq; go_simp; try with_reducible rfl)
  refine tkW 9 (some 21) (v := ?_) ?_ hHeld ?_
  rotate_left
  · (intro ww _; go_simp; try with_reducible rfl)
  refine tkW 10 (some 22) (v := ?_) ?_ hHeld ?_
  rotate_left
  · (intro ww hSw; (try dsimp only at hSw); have hP := hSw; have c2 := hP.c2; have u6 : ww.cell? ⟨c, 6, none⟩ = some (.pointer (some ⟨bh, 0, none⟩)) := (by have h9 := hP.mem.cup HX.out; rw [HU.out] at h9; exact h9); have heq := eqlB bh bh ww (hP.mem bh HXb.out) (hP.mem bh HXb.out); rw [decide_eq_true rfl] at heq; go_simp; try with_reducible rfl)
  refine tkW 11 (some 23) (v := ?_) ?_ hHeld ?_
  rotate_left
  · (intro ww hSw; (try dsimp only at hSw); have hP := hSw; have c2 := hP.c2; have u6 : ww.cell? ⟨c, 6, none⟩ = some (.pointer (some ⟨bh, 0, none⟩)) := (by have h9 := hP.mem.cup HX.out; rw [HU.out] at h9; exact h9); have heq := eqlB bh bh ww (hP.mem bh HXb.out) (hP.mem bh HXb.out); rw [decide_eq_true rfl] at heq; go_simp; try with_reducible rfl)
  refine tkW 12 (some 24) (v := ?_) ?_ hHeld ?_
  rotate_left
  · (intro ww _; go_simp; try with_reducible rfl)
  refine wpAnyH_done (by kernel_rfl) ?_ _
  clear hHeld
  go_wp2
  (try rw [Exit.noGoto_ret])
  go_ret
  exact ⟨rfl, HB.out⟩

set_option maxRecDepth 100000 in
set_option maxHeartbeats 1000000 in
theorem held_nil {B wb bm bh : Nat} {top : Option Nat} {X : Nat → Prop} {g : Gr} {D : List (St × Nat)} (k : St) (w : World) (h : PwM B wb bm bh top X g D w) {c : Nat} (e : getP Prod.fst D k = some (k, c)) (hx : X c) (hb : X bh) (hu : g.up c = none) :
    Calls Try.prog 51 #[.pointer (some ⟨wb, 0, none⟩), .agg #[.int .i64 k.1, .int .i64 k.2]] w fun e w' => e = .returned (.pointer none) ∧ Below w.heap.size w w' := by
  have HE := hide9 e
  have HX := hide9 hx
  have HXb := hide9 hb
  have HU := hide9 hu
  clear e hx hb hu
  have hbx : Below w.heap.size w (w.alloc (.cells #[.int .i64 k.1, .int .i64 k.2] 23)) := (Below.refl _ _).alloc (Nat.le_refl _) _
  have HP : Hid (PwM B wb bm bh top X g D (w.alloc (.cells #[.int .i64 k.1, .int .i64 k.2] 23))) := h.below hbx
  have HK : Hid ((w.alloc (.cells #[.int .i64 k.1, .int .i64 k.2] 23)).heap[w.heap.size]? = some (.cells #[.int .i64 k.1, .int .i64 k.2] 23)) := heap_alloc_new _ _
  have HB : Hid (Below w.heap.size w (w.alloc (.cells #[.int .i64 k.1, .int .i64 k.2] 23))) := hbx
  clear hbx h
  show Calls Try.prog 51 #[.pointer (some ⟨wb, 0, none⟩), .agg #[.int .i64 k.1, .int .i64 k.2]] w _
  go_enter Try.func51, Try.ntmps51
  go_wp2
  obtain ⟨W0, eW0⟩ : ∃ X, X = (w.alloc (.cells #[.int .i64 k.1, .int .i64 k.2] 23)) := ⟨_, rfl⟩
  rw [← eW0] at HP HK HB ⊢
  obtain ⟨kb, ekb⟩ : ∃ b, b = w.heap.size := ⟨_, rfl⟩
  rw [← ekb] at HK ⊢
  clear eW0 ekb
  refine wp_region_held_drew (S := fun W' => PwM B wb bm bh top X g D W' ∧ W'.heap[kb]? = some (.cells #[.int .i64 k.1, .int .i64 k.2] 23)) (by kernel_rfl) ⟨HP.out.drew, HK.out⟩ (fun hHeld => ?_)
  obtain ⟨Uh1nil5u0, eW⟩ : ∃ X, X = W0.drew := ⟨_, rfl⟩
  have hb : Below W0.heap.size W0 Uh1nil5u0 := by rw [eW]; exact (Below.refl _ _).drew
  replace HP : Hid (PwM B wb bm bh top X g D Uh1nil5u0) := HP.out.below hb
  replace HK : Hid (Uh1nil5u0.heap[kb]? = some (.cells #[.int .i64 k.1, .int .i64 k.2] 23)) := (hb.block _ (row_lt HK.out)).trans HK.out
  replace HB : Hid (Below w.heap.size w Uh1nil5u0) := HB.out.trans (hb.mono HB.out.size)
  rw [← eW] at hHeld ⊢
  clear eW hb
  refine tkW 0 (some 6) (v := ?_) ?_ hHeld ?_
  rotate_left
  · (intro ww _; go_simp; try with_reducible rfl)
  refine tkW 1 (some 7) (v := ?_) ?_ hHeld ?_
  rotate_left
  · (intro ww hSw; (try dsimp only at hSw); obtain ⟨hP, hK⟩ := hSw; have c0 := hP.c0; have k0 : ww.cell? ⟨kb, 0, none⟩ = some (.int .i64 k.1) := (by rw [cell_of_row ww kb 0 _ _ _ hK]; rfl); have k1 : ww.cell? ⟨kb, 1, none⟩ = some (.int .i64 k.2) := (by rw [cell_of_row ww kb 1 _ _ _ hK]; rfl); have hlk := hP.lookS HE.out; go_simp; try with_reducible rfl)
  refine tkW 2 (some 8) (v := ?_) ?_ hHeld ?_
  rotate_left
  · (intro ww _; go_simp; try with_reducible rfl)
  refine tkW 3 (some 9) (v := ?_) ?_ hHeld ?_
  rotate_left
  · (intro ww hSw; (try dsimp only at hSw); obtain ⟨hP, hK⟩ := hSw; have c0 := hP.c0; have k0 : ww.cell? ⟨kb, 0, none⟩ = some (.int .i64 k.1) := (by rw [cell_of_row ww kb 0 _ _ _ hK]; rfl); have k1 : ww.cell? ⟨kb, 1, none⟩ = some (.int .i64 k.2) := (by rw [cell_of_row ww kb 1 _ _ _ hK]; rfl); have hlk := hP.lookS HE.out; go_simp; try with_reducible rfl)
  refine tkW 4 (some 10) (v := ?_) ?_ hHeld ?_
  rotate_left
  · (intro ww hSw; (try dsimp only at hSw); obtain ⟨hP, hK⟩ := hSw; have c0 := hP.c0; have k0 : ww.cell? ⟨kb, 0, none⟩ = some (.int .i64 k.1) := (by rw [cell_of_row ww kb 0 _ _ _ hK]; rfl); have k1 : ww.cell? ⟨kb, 1, none⟩ = some (.int .i64 k.2) := (by rw [cell_of_row ww kb 1 _ _ _ hK]; rfl); have hlk := hP.lookS HE.out; go_simp; try with_reducible rfl)
  refine tkW 5 (some 11) (v := ?_) ?_ hHeld ?_
  rotate_left
  · (intro ww hSw; (try dsimp only at hSw); obtain ⟨hP, hK⟩ := hSw; have c0 := hP.c0; have k0 : ww.cell? ⟨kb, 0, none⟩ = some (.int .i64 k.1) := (by rw [cell_of_row ww kb 0 _ _ _ hK]; rfl); have k1 : ww.cell? ⟨kb, 1, none⟩ = some (.int .i64 k.2) := (by rw [cell_of_row ww kb 1 _ _ _ hK]; rfl); have hlk := hP.lookS HE.out; go_simp; try with_reducible rfl)
  refine tkW 6 (some 5) (v := ?_) ?_ hHeld ?_
  rotate_left
  · (intro ww _; go_simp; try with_reducible rfl)
  refine wpAnyH_done (by kernel_rfl) ?_ _
  clear hHeld
  go_wp2
  refine wp_region_held_drew (S := fun W' => PwM B wb bm bh top X g D W') (by kernel_rfl) HP.out.drew (fun hHeld => ?_)
  obtain ⟨Uh2nil6u0, eW⟩ : ∃ X, X = Uh1nil5u0.drew := ⟨_, rfl⟩
  have hb : Below Uh1nil5u0.heap.size Uh1nil5u0 Uh2nil6u0 := by rw [eW]; exact (Below.refl _ _).drew
  replace HP : Hid (PwM B wb bm bh top X g D Uh2nil6u0) := HP.out.below hb
  replace HB : Hid (Below w.heap.size w Uh2nil6u0) := HB.out.trans (hb.mono HB.out.size)
  rw [← eW] at hHeld ⊢
  clear eW hb
  refine tkW 0 (some 12) (v := ?_) ?_ hHeld ?_
  rotate_left
  · (intro ww _; go_simp; try with_reducible rfl)
  refine tkW 1 (some 13) (v := ?_) ?_ hHeld ?_
  rotate_left
  · (intro ww hSw; (try dsimp only at hSw); have hP := hSw; have c2 := hP.c2; have u6 : ww.cell? ⟨c, 6, none⟩ = some (.pointer none) := (by have h9 := hP.mem.cup HX.out; rw [HU.out] at h9; exact h9); have heq := eqlN bh ww; go_simp; try with_reducible rfl)
  refine tkW 2 (some 14) (v := ?_) ?_ hHeld ?_
  rotate_left
  · (intro ww _; go_simp; try with_reducible rfl)
  refine tkW 3 (some 15) (v := ?_) ?_ hHeld ?_
  rotate_left
  · (intro ww _; go_simp; try with_reducible rfl)
  refine tkW 4 (some 16) (v := ?_) ?_ hHeld ?_
  rotate_left
  · (intro ww hSw; (try dsimp only at hSw); have hP := hSw; have c2 := hP.c2; have u6 : ww.cell? ⟨c, 6, none⟩ = some (.pointer none) := (by have h9 := hP.mem.cup HX.out; rw [HU.out] at h9; exact h9); have heq := eqlN bh ww; go_simp; try with_reducible rfl)
  refine tkW 5 (some 17) (v := ?_) ?_ hHeld ?_
  rotate_left
  · (intro ww _; go_simp; try with_reducible rfl)
  refine tkW 6 (some 18) (v := ?_) ?_ hHeld ?_
  rotate_left
  · (intro ww hSw; (try dsimp only at hSw); have hP := hSw; have c2 := hP.c2; have u6 : ww.cell? ⟨c, 6, none⟩ = some (.pointer none) := (by have h9 := hP.mem.cup HX.out; rw [HU.out] at h9; exact h9); have heq := eqlN bh ww; go_simp; try with_reducible rfl)
  refine tkW 7 (some 19) (v := ?_) ?_ hHeld ?_
  rotate_left
  · (intro ww _; go_simp; try with_reducible rfl)
  refine tkW 8 (some 20) (v := ?_) ?_ hHeld ?_
  rotate_left
  · (intro ww hSw; (try dsimp only at hSw); have hP := hSw; have c2 := hP.c2; have u6 : ww.cell? ⟨c, 6, none⟩ = some (.pointer none) := (by have h9 := hP.mem.cup HX.out; rw [HU.out] at h9; exact h9); have heq := eqlN bh ww; go_simp; try with_reducible rfl)
  refine tkW 9 (some 21) (v := ?_) ?_ hHeld ?_
  rotate_left
  · (intro ww _; go_simp; try with_reducible rfl)
  refine tkW 10 (some 22) (v := ?_) ?_ hHeld ?_
  rotate_left
  · (intro ww hSw; (try dsimp only at hSw); have hP := hSw; have c2 := hP.c2; have u6 : ww.cell? ⟨c, 6, none⟩ = some (.pointer none) := (by have h9 := hP.mem.cup HX.out; rw [HU.out] at h9; exact h9); have heq := eqlN bh ww; go_simp; try with_reducible rfl)
  refine tkW 11 (some 23) (v := ?_) ?_ hHeld ?_
  rotate_left
  · (intro ww hSw; (try dsimp only at hSw); have hP := hSw; have c2 := hP.c2; have u6 : ww.cell? ⟨c, 6, none⟩ = some (.pointer none) := (by have h9 := hP.mem.cup HX.out; rw [HU.out] at h9; exact h9); have heq := eqlN bh ww; go_simp; try with_reducible rfl)
  refine tkW 12 (some 24) (v := ?_) ?_ hHeld ?_
  rotate_left
  · (intro ww _; go_simp; try with_reducible rfl)
  refine wpAnyH_done (by kernel_rfl) ?_ _
  clear hHeld
  go_wp2
  (try rw [Exit.noGoto_ret])
  go_ret
  exact ⟨rfl, HB.out⟩

set_option maxRecDepth 100000 in
set_option maxHeartbeats 1000000 in
theorem held_no {B wb bm bh : Nat} {top : Option Nat} {X : Nat → Prop} {g : Gr} {D : List (St × Nat)} (k : St) (w : World) (h : PwM B wb bm bh top X g D w) {c q : Nat} (e : getP Prod.fst D k = some (k, c)) (hx : X c) (hb : X bh) (hq : X q) (hu : g.up c = some q) (hn : q ≠ bh) :
    Calls Try.prog 51 #[.pointer (some ⟨wb, 0, none⟩), .agg #[.int .i64 k.1, .int .i64 k.2]] w fun e w' => e = .returned (.pointer none) ∧ Below w.heap.size w w' := by
  have HE := hide9 e
  have HX := hide9 hx
  have HXb := hide9 hb
  have HU := hide9 hu
  have HXq := hide9 hq
  have HN := hide9 hn
  clear e hx hb hu hq hn
  have hbx : Below w.heap.size w (w.alloc (.cells #[.int .i64 k.1, .int .i64 k.2] 23)) := (Below.refl _ _).alloc (Nat.le_refl _) _
  have HP : Hid (PwM B wb bm bh top X g D (w.alloc (.cells #[.int .i64 k.1, .int .i64 k.2] 23))) := h.below hbx
  have HK : Hid ((w.alloc (.cells #[.int .i64 k.1, .int .i64 k.2] 23)).heap[w.heap.size]? = some (.cells #[.int .i64 k.1, .int .i64 k.2] 23)) := heap_alloc_new _ _
  have HB : Hid (Below w.heap.size w (w.alloc (.cells #[.int .i64 k.1, .int .i64 k.2] 23))) := hbx
  clear hbx h
  show Calls Try.prog 51 #[.pointer (some ⟨wb, 0, none⟩), .agg #[.int .i64 k.1, .int .i64 k.2]] w _
  go_enter Try.func51, Try.ntmps51
  go_wp2
  obtain ⟨W0, eW0⟩ : ∃ X, X = (w.alloc (.cells #[.int .i64 k.1, .int .i64 k.2] 23)) := ⟨_, rfl⟩
  rw [← eW0] at HP HK HB ⊢
  obtain ⟨kb, ekb⟩ : ∃ b, b = w.heap.size := ⟨_, rfl⟩
  rw [← ekb] at HK ⊢
  clear eW0 ekb
  refine wp_region_held_drew (S := fun W' => PwM B wb bm bh top X g D W' ∧ W'.heap[kb]? = some (.cells #[.int .i64 k.1, .int .i64 k.2] 23)) (by kernel_rfl) ⟨HP.out.drew, HK.out⟩ (fun hHeld => ?_)
  obtain ⟨Uh1no7u0, eW⟩ : ∃ X, X = W0.drew := ⟨_, rfl⟩
  have hb : Below W0.heap.size W0 Uh1no7u0 := by rw [eW]; exact (Below.refl _ _).drew
  replace HP : Hid (PwM B wb bm bh top X g D Uh1no7u0) := HP.out.below hb
  replace HK : Hid (Uh1no7u0.heap[kb]? = some (.cells #[.int .i64 k.1, .int .i64 k.2] 23)) := (hb.block _ (row_lt HK.out)).trans HK.out
  replace HB : Hid (Below w.heap.size w Uh1no7u0) := HB.out.trans (hb.mono HB.out.size)
  rw [← eW] at hHeld ⊢
  clear eW hb
  refine tkW 0 (some 6) (v := ?_) ?_ hHeld ?_
  rotate_left
  · (intro ww _; go_simp; try with_reducible rfl)
  refine tkW 1 (some 7) (v := ?_) ?_ hHeld ?_
  rotate_left
  · (intro ww hSw; (try dsimp only at hSw); obtain ⟨hP, hK⟩ := hSw; have c0 := hP.c0; have k0 : ww.cell? ⟨kb, 0, none⟩ = some (.int .i64 k.1) := (by rw [cell_of_row ww kb 0 _ _ _ hK]; rfl); have k1 : ww.cell? ⟨kb, 1, none⟩ = some (.int .i64 k.2) := (by rw [cell_of_row ww kb 1 _ _ _ hK]; rfl); have hlk := hP.lookS HE.out; go_simp; try with_reducible rfl)
  refine tkW 2 (some 8) (v := ?_) ?_ hHeld ?_
  rotate_left
  · (intro ww _; go_simp; try with_reducible rfl)
  refine tkW 3 (some 9) (v := ?_) ?_ hHeld ?_
  rotate_left
  · (intro ww hSw; (try dsimp only at hSw); obtain ⟨hP, hK⟩ := hSw; have c0 := hP.c0; have k0 : ww.cell? ⟨kb, 0, none⟩ = some (.int .i64 k.1) := (by rw [cell_of_row ww kb 0 _ _ _ hK]; rfl); have k1 : ww.cell? ⟨kb, 1, none⟩ = some (.int .i64 k.2) := (by rw [cell_of_row ww kb 1 _ _ _ hK]; rfl); have hlk := hP.lookS HE.out; go_simp; try with_reducible rfl)
  refine tkW 4 (some 10) (v := ?_) ?_ hHeld ?_
  rotate_left
  · (intro ww hSw; (try dsimp only at hSw); obtain ⟨hP, hK⟩ := hSw; have c0 := hP.c0; have k0 : ww.cell? ⟨kb, 0, none⟩ = some (.int .i64 k.1) := (by rw [cell_of_row ww kb 0 _ _ _ hK]; rfl); have k1 : ww.cell? ⟨kb, 1, none⟩ = some (.int .i64 k.2) := (by rw [cell_of_row ww kb 1 _ _ _ hK]; rfl); have hlk := hP.lookS HE.out; go_simp; try with_reducible rfl)
  refine tkW 5 (some 11) (v := ?_) ?_ hHeld ?_
  rotate_left
  · (intro ww hSw; (try dsimp only at hSw); obtain ⟨hP, hK⟩ := hSw; have c0 := hP.c0; have k0 : ww.cell? ⟨kb, 0, none⟩ = some (.int .i64 k.1) := (by rw [cell_of_row ww kb 0 _ _ _ hK]; rfl); have k1 : ww.cell? ⟨kb, 1, none⟩ = some (.int .i64 k.2) := (by rw [cell_of_row ww kb 1 _ _ _ hK]; rfl); have hlk := hP.lookS HE.out; go_simp; try with_reducible rfl)
  refine tkW 6 (some 5) (v := ?_) ?_ hHeld ?_
  rotate_left
  · (intro ww _; go_simp; try with_reducible rfl)
  refine wpAnyH_done (by kernel_rfl) ?_ _
  clear hHeld
  go_wp2
  refine wp_region_held_drew (S := fun W' => PwM B wb bm bh top X g D W') (by kernel_rfl) HP.out.drew (fun hHeld => ?_)
  obtain ⟨Uh2no8u0, eW⟩ : ∃ X, X = Uh1no7u0.drew := ⟨_, rfl⟩
  have hb : Below Uh1no7u0.heap.size Uh1no7u0 Uh2no8u0 := by rw [eW]; exact (Below.refl _ _).drew
  replace HP : Hid (PwM B wb bm bh top X g D Uh2no8u0) := HP.out.below hb
  replace HB : Hid (Below w.heap.size w Uh2no8u0) := HB.out.trans (hb.mono HB.out.size)
  rw [← eW] at hHeld ⊢
  clear eW hb
  refine tkW 0 (some 12) (v := ?_) ?_ hHeld ?_
  rotate_left
  · (intro ww _; go_simp; try with_reducible rfl)
  refine tkW 1 (some 13) (v := ?_) ?_ hHeld ?_
  rotate_left
  · (intro ww hSw; (try dsimp only at hSw); have hP := hSw; have c2 := hP.c2; have u6 : ww.cell? ⟨c, 6, none⟩ = some (.pointer (some ⟨q, 0, none⟩)) := (by have h9 := hP.mem.cup HX.out; rw [HU.out] at h9; exact h9); have heq := eqlB q bh ww (hP.mem q HXq.out) (hP.mem bh HXb.out); rw [decide_eq_false HN.out] at heq; go_simp; try with_reducible rfl)
  refine tkW 2 (some 14) (v := ?_) ?_ hHeld ?_
  rotate_left
  · (intro ww _; go_simp; try with_reducible rfl)
  refine tkW 3 (some 15) (v := ?_) ?_ hHeld ?_
  rotate_left
  · (intro ww _; go_simp; try with_reducible rfl)
  refine tkW 4 (some 16) (v := ?_) ?_ hHeld ?_
  rotate_left
  · (intro ww hSw; (try dsimp only at hSw); have hP := hSw; have c2 := hP.c2; have u6 : ww.cell? ⟨c, 6, none⟩ = some (.pointer (some ⟨q, 0, none⟩)) := (by have h9 := hP.mem.cup HX.out; rw [HU.out] at h9; exact h9); have heq := eqlB q bh ww (hP.mem q HXq.out) (hP.mem bh HXb.out); rw [decide_eq_false HN.out] at heq; go_simp; try with_reducible rfl)
  refine tkW 5 (some 17) (v := ?_) ?_ hHeld ?_
  rotate_left
  · (intro ww _; go_simp; try with_reducible rfl)
  refine tkW 6 (some 18) (v := ?_) ?_ hHeld ?_
  rotate_left
  · (intro ww hSw; (try dsimp only at hSw); have hP := hSw; have c2 := hP.c2; have u6 : ww.cell? ⟨c, 6, none⟩ = some (.pointer (some ⟨q, 0, none⟩)) := (by have h9 := hP.mem.cup HX.out; rw [HU.out] at h9; exact h9); have heq := eqlB q bh ww (hP.mem q HXq.out) (hP.mem bh HXb.out); rw [decide_eq_false HN.out] at heq; go_simp; try with_reducible rfl)
  refine tkW 7 (some 19) (v := ?_) ?_ hHeld ?_
  rotate_left
  · (intro ww _; go_simp; try with_reducible rfl)
  refine tkW 8 (some 20) (v := ?_) ?_ hHeld ?_
  rotate_left
  · (intro ww hSw; (try dsimp only at hSw); have hP := hSw; have c2 := hP.c2; have u6 : ww.cell? ⟨c, 6, none⟩ = some (.pointer (some ⟨q, 0, none⟩)) := (by have h9 := hP.mem.cup HX.out; rw [HU.out] at h9; exact h9); have heq := eqlB q bh ww (hP.mem q HXq.out) (hP.mem bh HXb.out); rw [decide_eq_false HN.out] at heq; go_simp; try with_reducible rfl)
  refine tkW 9 (some 21) (v := ?_) ?_ hHeld ?_
  rotate_left
  · (intro ww _; go_simp; try with_reducible rfl)
  refine tkW 10 (some 22) (v := ?_) ?_ hHeld ?_
  rotate_left
  · (intro ww hSw; (try dsimp only at hSw); have hP := hSw; have c2 := hP.c2; have u6 : ww.cell? ⟨c, 6, none⟩ = some (.pointer (some ⟨q, 0, none⟩)) := (by have h9 := hP.mem.cup HX.out; rw [HU.out] at h9; exact h9); have heq := eqlB q bh ww (hP.mem q HXq.out) (hP.mem bh HXb.out); rw [decide_eq_false HN.out] at heq; go_simp; try with_reducible rfl)
  refine tkW 11 (some 23) (v := ?_) ?_ hHeld ?_
  rotate_left
  · (intro ww hSw; (try dsimp only at hSw); have hP := hSw; have c2 := hP.c2; have u6 : ww.cell? ⟨c, 6, none⟩ = some (.pointer (some ⟨q, 0, none⟩)) := (by have h9 := hP.mem.cup HX.out; rw [HU.out] at h9; exact h9); have heq := eqlB q bh ww (hP.mem q HXq.out) (hP.mem bh HXb.out); rw [decide_eq_false HN.out] at heq; go_simp; try with_reducible rfl)
  refine tkW 12 (some 24) (v := ?_) ?_ hHeld ?_
  rotate_left
  · (intro ww _; go_simp; try with_reducible rfl)
  refine wpAnyH_done (by kernel_rfl) ?_ _
  clear hHeld
  go_wp2
  (try rw [Exit.noGoto_ret])
  go_ret
  exact ⟨rfl, HB.out⟩

theorem isZero_any (s : St) (w : World) : Calls Try.prog 43 #[.agg #[.int .i64 s.1, .int .i64 s.2]] w fun e w' => e = .returned (.bool (decide (s = (0, 0)))) ∧ Below w.heap.size w w' := by
  have hbx : Below w.heap.size w (w.alloc (.cells #[.int .i64 s.1, .int .i64 s.2] 23)) := (Below.refl _ _).alloc (Nat.le_refl _) _
  have HB := hide9 hbx
  clear hbx
  have heq := fun w => eqlSt s.1 s.2 0 0 w
  go_enter Try.func43, Try.ntmps43
  go_wp2
  have e9 : (decide (s.1 = 0) && decide (s.2 = 0)) = decide (s = (0, 0)) := by
    obtain ⟨a, b⟩ := s
    by_cases h1 : a = 0 <;> by_cases h2 : b = 0 <;> simp [h1, h2]
  go_ret
  refine ⟨?_, HB.out⟩
  rw [← e9]
  rfl

set_option maxRecDepth 100000 in
set_option maxHeartbeats 1000000 in
theorem ahead_zero {B wb bm bh : Nat} {top : Option Nat} {X : Nat → Prop} {g : Gr} {D : List (St × Nat)} (p : Nat) (k : St) (w : World) (h : PwM B wb bm bh top X g D w) (hz : k = (0, 0)) :
    Calls Try.prog 53 #[.pointer (some ⟨wb, 0, none⟩), .pointer (some ⟨p, 0, none⟩), .agg #[.int .i64 k.1, .int .i64 k.2]] w fun e w' => e = .returned (.tuple #[.pointer none, .bool true]) ∧ Below w.heap.size w w' := by
  have HZ : Hid (decide (k = (0, 0)) = true) := decide_eq_true hz
  clear hz
  have hbx : Below w.heap.size w (w.alloc (.cells #[.int .i64 k.1, .int .i64 k.2] 23)) := (Below.refl _ _).alloc (Nat.le_refl _) _
  have HP : Hid (PwM B wb bm bh top X g D (w.alloc (.cells #[.int .i64 k.1, .int .i64 k.2] 23))) := h.below hbx
  have HK : Hid ((w.alloc (.cells #[.int .i64 k.1, .int .i64 k.2] 23)).heap[w.heap.size]? = some (.cells #[.int .i64 k.1, .int .i64 k.2] 23)) := heap_alloc_new _ _
  have HB : Hid (Below w.heap.size w (w.alloc (.cells #[.int .i64 k.1, .int .i64 k.2] 23))) := hbx
  clear hbx h
  show Calls Try.prog 53 #[.pointer (some ⟨wb, 0, none⟩), .pointer (some ⟨p, 0, none⟩), .agg #[.int .i64 k.1, .int .i64 k.2]] w _
  go_enter Try.func53, Try.ntmps53
  go_wp2_with (go_at_call 43; refine (isZero_any k _).mono ?_; rintro e w1 ⟨rfl, hb⟩; rw [HZ.out])
  replace HP : Hid (PwM B wb bm bh top X g D w1) := HP.out.below hb
  replace HK : Hid (w1.heap[w.heap.size]? = some (.cells #[.int .i64 k.1, .int .i64 k.2] 23)) := (hb.block _ (row_lt HK.out)).trans HK.out
  replace HB : Hid (Below w.heap.size w w1) := HB.out.trans (hb.mono HB.out.size)
  clear hb
  go_wp2
  (try rw [Exit.noGoto_ret])
  go_ret2
  exact ⟨rfl, HB.out⟩

set_option maxRecDepth 100000 in
set_option maxHeartbeats 1000000 in
theorem ahead_none {B wb bm bh : Nat} {top : Option Nat} {X : Nat → Prop} {g : Gr} {D : List (St × Nat)} (p : Nat) (k : St) (w : World) (h : PwM B wb bm bh top X g D w) (hz : k ≠ (0, 0)) (e : getP Prod.fst D k = none) :
    Calls Try.prog 53 #[.pointer (some ⟨wb, 0, none⟩), .pointer (some ⟨p, 0, none⟩), .agg #[.int .i64 k.1, .int .i64 k.2]] w fun e w' => e = .returned (.tuple #[.pointer none, .bool false]) ∧ Below w.heap.size w w' := by
  have HZ : Hid (decide (k = (0, 0)) = false) := decide_eq_false hz
  have HE := hide9 e
  clear hz e
  have hbx : Below w.heap.size w (w.alloc (.cells #[.int .i64 k.1, .int .i64 k.2] 23)) := (Below.refl _ _).alloc (Nat.le_refl _) _
  have HP : Hid (PwM B wb bm bh top X g D (w.alloc (.cells #[.int .i64 k.1, .int .i64 k.2] 23))) := h.below hbx
  have HK : Hid ((w.alloc (.cells #[.int .i64 k.1, .int .i64 k.2] 23)).heap[w.heap.size]? = some (.cells #[.int .i64 k.1, .int .i64 k.2] 23)) := heap_alloc_new _ _
  have HB : Hid (Below w.heap.size w (w.alloc (.cells #[.int .i64 k.1, .int .i64 k.2] 23))) := hbx
  clear hbx h
  show Calls Try.prog 53 #[.pointer (some ⟨wb, 0, none⟩), .pointer (some ⟨p, 0, none⟩), .agg #[.int .i64 k.1, .int .i64 k.2]] w _
  go_enter Try.func53, Try.ntmps53
  go_wp2_with (go_at_call 43; refine (isZero_any k _).mono ?_; rintro e w1 ⟨rfl, hb⟩; rw [HZ.out])
  replace HP : Hid (PwM B wb bm bh top X g D w1) := HP.out.below hb
  replace HK : Hid (w1.heap[w.heap.size]? = some (.cells #[.int .i64 k.1, .int .i64 k.2] 23)) := (hb.block _ (row_lt HK.out)).trans HK.out
  replace HB : Hid (Below w.heap.size w w1) := HB.out.trans (hb.mono HB.out.size)
  clear hb
  obtain ⟨kb, ekb⟩ : ∃ b, b = w.heap.size := ⟨_, rfl⟩
  rw [← ekb] at HK ⊢
  clear ekb
  go_wp2
  refine wp_region_held_drew (S := fun W' => PwM B wb bm bh top X g D W' ∧ W'.heap[kb]? = some (.cells #[.int .i64 k.1, .int .i64 k.2] 23)) (by kernel_rfl) ⟨HP.out.drew, HK.out⟩ (fun hHeld => ?_)
  obtain ⟨Ua1none9u0, eW⟩ : ∃ X, X = w1.drew := ⟨_, rfl⟩
  have hb : Below w1.heap.size w1 Ua1none9u0 := by rw [eW]; exact (Below.refl _ _).drew
  replace HP : Hid (PwM B wb bm bh top X g D Ua1none9u0) := HP.out.below hb
  replace HK : Hid (Ua1none9u0.heap[kb]? = some (.cells #[.int .i64 k.1, .int .i64 k.2] 23)) := (hb.block _ (row_lt HK.out)).trans HK.out
  replace HB : Hid (Below w.heap.size w Ua1none9u0) := HB.out.trans (hb.mono HB.out.size)
  rw [← eW] at hHeld ⊢
  clear eW hb
  refine tkW 0 (some 11) (v := ?_) ?_ hHeld ?_
  rotate_left
  · (intro ww _; go_simp; try with_reducible rfl)
  refine tkW 1 (some 12) (v := ?_) ?_ hHeld ?_
  rotate_left
  · (intro ww hSw; (try dsimp only at hSw); obtain ⟨hP, hK⟩ := hSw; have c0 := hP.c0; have k0 : ww.cell? ⟨kb, 0, none⟩ = some (.int .i64 k.1) := (by rw [cell_of_row ww kb 0 _ _ _ hK]; rfl); have k1 : ww.cell? ⟨kb, 1, none⟩ = some (.int .i64 k.2) := (by rw [cell_of_row ww kb 1 _ _ _ hK]; rfl); have hlk := hP.lookN HE.out; go_simp; try with_reducible rfl)
  refine tkW 2 (some 13) (v := ?_) ?_ hHeld ?_
  rotate_left
  · (intro ww _; go_simp; try with_reducible rfl)
  refine tkW 3 (some 14) (v := ?_) ?_ hHeld ?_
  rotate_left
  · (intro ww hSw; (try dsimp only at hSw); obtain ⟨hP, hK⟩ := hSw; have c0 := hP.c0; have k0 : ww.cell? ⟨kb, 0, none⟩ = some (.int .i64 k.1) := (by rw [cell_of_row ww kb 0 _ _ _ hK]; rfl); have k1 : ww.cell? ⟨kb, 1, none⟩ = some (.int .i64 k.2) := (by rw [cell_of_row ww kb 1 _ _ _ hK]; rfl); have hlk := hP.lookN HE.out; go_simp; try with_reducible rfl)
  refine tkW 4 (some 15) (v := ?_) ?_ hHeld ?_
  rotate_left
  · (intro ww hSw; (try dsimp only at hSw); obtain ⟨hP, hK⟩ := hSw; have c0 := hP.c0; have k0 : ww.cell? ⟨kb, 0, none⟩ = some (.int .i64 k.1) := (by rw [cell_of_row ww kb 0 _ _ _ hK]; rfl); have k1 : ww.cell? ⟨kb, 1, none⟩ = some (.int .i64 k.2) := (by rw [cell_of_row ww kb 1 _ _ _ hK]; rfl); have hlk := hP.lookN HE.out; go_simp; try with_reducible rfl)
  refine tkW 5 (some 16) (v := ?_) ?_ hHeld ?_
  rotate_left
  · (intro ww hSw; (try dsimp only at hSw); obtain ⟨hP, hK⟩ := hSw; have c0 := hP.c0; have k0 : ww.cell? ⟨kb, 0, none⟩ = some (.int .i64 k.1) := (by rw [cell_of_row ww kb 0 _ _ _ hK]; rfl); have k1 : ww.cell? ⟨kb, 1, none⟩ = some (.int .i64 k.2) := (by rw [cell_of_row ww kb 1 _ _ _ hK]; rfl); have hlk := hP.lookN HE.out; go_simp; try with_reducible rfl)
  refine tkW 6 (some 8) (v := ?_) ?_ hHeld ?_
  rotate_left
  · (intro ww _; go_simp; try with_reducible rfl)
  refine wpAnyH_done (by kernel_rfl) ?_ _
  clear hHeld
  go_wp2
  (try rw [Exit.noGoto_ret])
  go_ret2
  exact ⟨rfl, HB.out⟩

set_option maxRecDepth 100000 in
set_option maxHeartbeats 1000000 in
theorem ahead_yes {B wb bm bh : Nat} {top : Option Nat} {X : Nat → Prop} {g : Gr} {D : List (St × Nat)} (p : Nat) (k : St) (w : World) (h : PwM B wb bm bh top X g D w) (hz : k ≠ (0, 0)) {c : Nat} (e : getP Prod.fst D k = some (k, c)) (hx : X c) (hb : X p) (hu : g.up c = some p) :
    Calls Try.prog 53 #[.pointer (some ⟨wb, 0, none⟩), .pointer (some ⟨p, 0, none⟩), .agg #[.int .i64 k.1, .int .i64 k.2]] w fun e w' => e = .returned (.tuple #[.pointer (some ⟨c, 0, none⟩), .bool true]) ∧ Below w.heap.size w w' := by
  have HZ : Hid (decide (k = (0, 0)) = false) := decide_eq_false hz
  have HE := hide9 e
  clear hz e
  have HX := hide9 hx
  have HXb := hide9 hb
  have HU := hide9 hu
  clear hx hb hu
  have hbx : Below w.heap.size w (w.alloc (.cells #[.int .i64 k.1, .int .i64 k.2] 23)) := (Below.refl _ _).alloc (Nat.le_refl _) _
  have HP : Hid (PwM B wb bm bh top X g D (w.alloc (.cells #[.int .i64 k.1, .int .i64 k.2] 23))) := h.below hbx
  have HK : Hid ((w.alloc (.cells #[.int .i64 k.1, .int .i64 k.2] 23)).heap[w.heap.size]? = some (.cells #[.int .i64 k.1, .int .i64 k.2] 23)) := heap_alloc_new _ _
  have HB : Hid (Below w.heap.size w (w.alloc (.cells #[.int .i64 k.1, .int .i64 k.2] 23))) := hbx
  clear hbx h
  show Calls Try.prog 53 #[.pointer (some ⟨wb, 0, none⟩), .pointer (some ⟨p, 0, none⟩), .agg #[.int .i64 k.1, .int .i64 k.2]] w _
  go_enter Try.func53, Try.ntmps53
  go_wp2_with (go_at_call 43; refine (isZero_any k _).mono ?_; rintro e w1 ⟨rfl, hb⟩; rw [HZ.out])
  replace HP : Hid (PwM B wb bm bh top X g D w1) := HP.out.below hb
  replace HK : Hid (w1.heap[w.heap.size]? = some (.cells #[.int .i64 k.1, .int .i64 k.2] 23)) := (hb.block _ (row_lt HK.out)).trans HK.out
  replace HB : Hid (Below w.heap.size w w1) := HB.out.trans (hb.mono HB.out.size)
  clear hb
  obtain ⟨kb, ekb⟩ : ∃ b, b = w.heap.size := ⟨_, rfl⟩
  rw [← ekb] at HK ⊢
  clear ekb
  go_wp2
  refine wp_region_held_drew (S := fun W' => PwM B wb bm bh top X g D W' ∧ W'.heap[kb]? = some (.cells #[.int .i64 k.1, .int .i64 k.2] 23)) (by kernel_rfl) ⟨HP.out.drew, HK.out⟩ (fun hHeld => ?_)
  obtain ⟨Ua1yes10u0, eW⟩ : ∃ X, X = w1.drew := ⟨_, rfl⟩
  have hb : Below w1.heap.size w1 Ua1yes10u0 := by rw [eW]; exact (Below.refl _ _).drew
  replace HP : Hid (PwM B wb bm bh top X g D Ua1yes10u0) := HP.out.below hb
  replace HK : Hid (Ua1yes10u0.heap[kb]? = some (.cells #[.int .i64 k.1, .int .i64 k.2] 23)) := (hb.block _ (row_lt HK.out)).trans HK.out
  replace HB : Hid (Below w.heap.size w Ua1yes10u0) := HB.out.trans (hb.mono HB.out.size)
  rw [← eW] at hHeld ⊢
  clear eW hb
  refine tkW 0 (some 11) (v := ?_) ?_ hHeld ?_
  rotate_left
  · (intro ww _; go_simp; try with_reducible rfl)
  refine tkW 1 (some 12) (v := ?_) ?_ hHeld ?_
  rotate_left
  · (intro ww hSw; (try dsimp only at hSw); obtain ⟨hP, hK⟩ := hSw; have c0 := hP.c0; have k0 : ww.cell? ⟨kb, 0, none⟩ = some (.int .i64 k.1) := (by rw [cell_of_row ww kb 0 _ _ _ hK]; rfl); have k1 : ww.cell? ⟨kb, 1, none⟩ = some (.int .i64 k.2) := (by rw [cell_of_row ww kb 1 _ _ _ hK]; rfl); have hlk := hP.lookS HE.out; go_simp; try with_reducible rfl)
  refine tkW 2 (some 13) (v := ?_) ?_ hHeld ?_
  rotate_left
  · (intro ww _; go_simp; try with_reducible rfl)
  refine tkW 3 (some 14) (v := ?_) ?_ hHeld ?_
  rotate_left
  · (intro ww hSw; (try dsimp only at hSw); obtain ⟨hP, hK⟩ := hSw; have c0 := hP.c0; have k0 : ww.cell? ⟨kb, 0, none⟩ = some (.int .i64 k.1) := (by rw [cell_of_row ww kb 0 _ _ _ hK]; rfl); have k1 : ww.cell? ⟨kb, 1, none⟩ = some (.int .i64 k.2) := (by rw [cell_of_row ww kb 1 _ _ _ hK]; rfl); have hlk := hP.lookS HE.out; go_simp; try with_reducible rfl)
  refine tkW 4 (some 15) (v := ?_) ?_ hHeld ?_
  rotate_left
  · (intro ww hSw; (try dsimp only at hSw); obtain ⟨hP, hK⟩ := hSw; have c0 := hP.c0; have k0 : ww.cell? ⟨kb, 0, none⟩ = some (.int .i64 k.1) := (by rw [cell_of_row ww kb 0 _ _ _ hK]; rfl); have k1 : ww.cell? ⟨kb, 1, none⟩ = some (.int .i64 k.2) := (by rw [cell_of_row ww kb 1 _ _ _ hK]; rfl); have hlk := hP.lookS HE.out; go_simp; try with_reducible rfl)
  refine tkW 5 (some 16) (v := ?_) ?_ hHeld ?_
  rotate_left
  · (intro ww hSw; (try dsimp only at hSw); obtain ⟨hP, hK⟩ := hSw; have c0 := hP.c0; have k0 : ww.cell? ⟨kb, 0, none⟩ = some (.int .i64 k.1) := (by rw [cell_of_row ww kb 0 _ _ _ hK]; rfl); have k1 : ww.cell? ⟨kb, 1, none⟩ = some (.int .i64 k.2) := (by rw [cell_of_row ww kb 1 _ _ _ hK]; rfl); have hlk := hP.lookS HE.out; go_simp; try with_reducible rfl)
  refine tkW 6 (some 8) (v := ?_) ?_ hHeld ?_
  rotate_left
  · (intro ww _; go_simp; try with_reducible rfl)
  refine wpAnyH_done (by kernel_rfl) ?_ _
  clear hHeld
  have u6 : Ua1yes10u0.cell? ⟨c, 6, none⟩ = some (.pointer (some ⟨p, 0, none⟩)) := (by have h9 := HP.out.mem.cup HX.out; rw [HU.out] at h9; exact h9)
  have heq := neqB p p Ua1yes10u0 (HP.out.mem p HXb.out) (HP.out.mem p HXb.out)
  rw [decide_eq_true rfl] at heq
  go_wp2
  (try rw [Exit.noGoto_ret])
  go_ret2
  exact ⟨rfl, HB.out⟩

set_option maxRecDepth 100000 in
set_option maxHeartbeats 1000000 in
theorem ahead_nil {B wb bm bh : Nat} {top : Option Nat} {X : Nat → Prop} {g : Gr} {D : List (St × Nat)} (p : Nat) (k : St) (w : World) (h : PwM B wb bm bh top X g D w) (hz : k ≠ (0, 0)) {c : Nat} (e : getP Prod.fst D k = some (k, c)) (hx : X c) (hb : X p) (hu : g.up c = none) :
    Calls Try.prog 53 #[.pointer (some ⟨wb, 0, none⟩), .pointer (some ⟨p, 0, none⟩), .agg #[.int .i64 k.1, .int .i64 k.2]] w fun e w' => e = .returned (.tuple #[.pointer none, .bool false]) ∧ Below w.heap.size w w' := by
  have HZ : Hid (decide (k = (0, 0)) = false) := decide_eq_false hz
  have HE := hide9 e
  clear hz e
  have HX := hide9 hx
  have HXb := hide9 hb
  have HU := hide9 hu
  clear hx hb hu
  have hbx : Below w.heap.size w (w.alloc (.cells #[.int .i64 k.1, .int .i64 k.2] 23)) := (Below.refl _ _).alloc (Nat.le_refl _) _
  have HP : Hid (PwM B wb bm bh top X g D (w.alloc (.cells #[.int .i64 k.1, .int .i64 k.2] 23))) := h.below hbx
  have HK : Hid ((w.alloc (.cells #[.int .i64 k.1, .int .i64 k.2] 23)).heap[w.heap.size]? = some (.cells #[.int .i64 k.1, .int .i64 k.2] 23)) := heap_alloc_new _ _
  have HB : Hid (Below w.heap.size w (w.alloc (.cells #[.int .i64 k.1, .int .i64 k.2] 23))) := hbx
  clear hbx h
  show Calls Try.prog 53 #[.pointer (some ⟨wb, 0, none⟩), .pointer (some ⟨p, 0, none⟩), .agg #[.int .i64 k.1, .int .i64 k.2]] w _
  go_enter Try.func53, Try.ntmps53
  go_wp2_with (go_at_call 43; refine (isZero_any k _).mono ?_; rintro e w1 ⟨rfl, hb⟩; rw [HZ.out])
  replace HP : Hid (PwM B wb bm bh top X g D w1) := HP.out.below hb
  replace HK : Hid (w1.heap[w.heap.size]? = some (.cells #[.int .i64 k.1, .int .i64 k.2] 23)) := (hb.block _ (row_lt HK.out)).trans HK.out
  replace HB : Hid (Below w.heap.size w w1) := HB.out.trans (hb.mono HB.out.size)
  clear hb
  obtain ⟨kb, ekb⟩ : ∃ b, b = w.heap.size := ⟨_, rfl⟩
  rw [← ekb] at HK ⊢
  clear ekb
  go_wp2
  refine wp_region_held_drew (S := fun W' => PwM B wb bm bh top X g D W' ∧ W'.heap[kb]? = some (.cells #[.int .i64 k.1, .int .i64 k.2] 23)) (by kernel_rfl) ⟨HP.out.drew, HK.out⟩ (fun hHeld => ?_)
  obtain ⟨Ua1nil11u0, eW⟩ : ∃ X, X = w1.drew := ⟨_, rfl⟩
  have hb : Below w1.heap.size w1 Ua1nil11u0 := by rw [eW]; exact (Below.refl _ _).drew
  replace HP : Hid (PwM B wb bm bh top X g D Ua1nil11u0) := HP.out.below hb
  replace HK : Hid (Ua1nil11u0.heap[kb]? = some (.cells #[.int .i64 k.1, .int .i64 k.2] 23)) := (hb.block _ (row_lt HK.out)).trans HK.out
  replace HB : Hid (Below w.heap.size w Ua1nil11u0) := HB.out.trans (hb.mono HB.out.size)
  rw [← eW] at hHeld ⊢
  clear eW hb
  refine tkW 0 (some 11) (v := ?_) ?_ hHeld ?_
  rotate_left
  · (intro ww _; go_simp; try with_reducible rfl)
  refine tkW 1 (some 12) (v := ?_) ?_ hHeld ?_
  rotate_left
  · (intro ww hSw; (try dsimp only at hSw); obtain ⟨hP, hK⟩ := hSw; have c0 := hP.c0; have k0 : ww.cell? ⟨kb, 0, none⟩ = some (.int .i64 k.1) := (by rw [cell_of_row ww kb 0 _ _ _ hK]; rfl); have k1 : ww.cell? ⟨kb, 1, none⟩ = some (.int .i64 k.2) := (by rw [cell_of_row ww kb 1 _ _ _ hK]; rfl); have hlk := hP.lookS HE.out; go_simp; try with_reducible rfl)
  refine tkW 2 (some 13) (v := ?_) ?_ hHeld ?_
  rotate_left
  · (intro ww _; go_simp; try with_reducible rfl)
  refine tkW 3 (some 14) (v := ?_) ?_ hHeld ?_
  rotate_left
  · (intro ww hSw; (try dsimp only at hSw); obtain ⟨hP, hK⟩ := hSw; have c0 := hP.c0; have k0 : ww.cell? ⟨kb, 0, none⟩ = some (.int .i64 k.1) := (by rw [cell_of_row ww kb 0 _ _ _ hK]; rfl); have k1 : ww.cell? ⟨kb, 1, none⟩ = some (.int .i64 k.2) := (by rw [cell_of_row ww kb 1 _ _ _ hK]; rfl); have hlk := hP.lookS HE.out; go_simp; try with_reducible rfl)
  refine tkW 4 (some 15) (v := ?_) ?_ hHeld ?_
  rotate_left
  · (intro ww hSw; (try dsimp only at hSw); obtain ⟨hP, hK⟩ := hSw; have c0 := hP.c0; have k0 : ww.cell? ⟨kb, 0, none⟩ = some (.int .i64 k.1) := (by rw [cell_of_row ww kb 0 _ _ _ hK]; rfl); have k1 : ww.cell? ⟨kb, 1, none⟩ = some (.int .i64 k.2) := (by rw [cell_of_row ww kb 1 _ _ _ hK]; rfl); have hlk := hP.lookS HE.out; go_simp; try with_reducible rfl)
  refine tkW 5 (some 16) (v := ?_) ?_ hHeld ?_
  rotate_left
  · (intro ww hSw; (try dsimp only at hSw); obtain ⟨hP, hK⟩ := hSw; have c0 := hP.c0; have k0 : ww.cell? ⟨kb, 0, none⟩ = some (.int .i64 k.1) := (by rw [cell_of_row ww kb 0 _ _ _ hK]; rfl); have k1 : ww.cell? ⟨kb, 1, none⟩ = some (.int .i64 k.2) := (by rw [cell_of_row ww kb 1 _ _ _ hK]; rfl); have hlk := hP.lookS HE.out; go_simp; try with_reducible rfl)
  refine tkW 6 (some 8) (v := ?_) ?_ hHeld ?_
  rotate_left
  · (intro ww _; go_simp; try with_reducible rfl)
  refine wpAnyH_done (by kernel_rfl) ?_ _
  clear hHeld
  have u6 : Ua1nil11u0.cell? ⟨c, 6, none⟩ = some (.pointer none) := (by have h9 := HP.out.mem.cup HX.out; rw [HU.out] at h9; exact h9)
  have heq := neqN p Ua1nil11u0
  go_wp2
  (try rw [Exit.noGoto_ret])
  go_ret2
  exact ⟨rfl, HB.out⟩

set_option maxRecDepth 100000 in
set_option maxHeartbeats 1000000 in
theorem ahead_no {B wb bm bh : Nat} {top : Option Nat} {X : Nat → Prop} {g : Gr} {D : List (St × Nat)} (p : Nat) (k : St) (w : World) (h : PwM B wb bm bh top X g D w) (hz : k ≠ (0, 0)) {c q : Nat} (e : getP Prod.fst D k = some (k, c)) (hx : X c) (hb : X p) (hq : X q) (hu : g.up c = some q) (hn : q ≠ p) :
    Calls Try.prog 53 #[.pointer (some ⟨wb, 0, none⟩), .pointer (some ⟨p, 0, none⟩), .agg #[.int .i64 k.1, .int .i64 k.2]] w fun e w' => e = .returned (.tuple #[.pointer none, .bool false]) ∧ Below w.heap.size w w' := by
  have HZ : Hid (decide (k = (0, 0)) = false) := decide_eq_false hz
  have HE := hide9 e
  clear hz e
  have HX := hide9 hx
  have HXb := hide9 hb
  have HU := hide9 hu
  clear hx hb hu
  have HXq := hide9 hq
  have HN := hide9 hn
  clear hq hn
  have hbx : Below w.heap.size w (w.alloc (.cells #[.int .i64 k.1, .int .i64 k.2] 23)) := (Below.refl _ _).alloc (Nat.le_refl _) _
  have HP : Hid (PwM B wb bm bh top X g D (w.alloc (.cells #[.int .i64 k.1, .int .i64 k.2] 23))) := h.below hbx
  have HK : Hid ((w.alloc (.cells #[.int .i64 k.1, .int .i64 k.2] 23)).heap[w.heap.size]? = some (.cells #[.int .i64 k.1, .int .i64 k.2] 23)) := heap_alloc_new _ _
  have HB : Hid (Below w.heap.size w (w.alloc (.cells #[.int .i64 k.1, .int .i64 k.2] 23))) := hbx
  clear hbx h
  show Calls Try.prog 53 #[.pointer (some ⟨wb, 0, none⟩), .pointer (some ⟨p, 0, none⟩), .agg #[.int .i64 k.1, .int .i64 k.2]] w _
  go_enter Try.func53, Try.ntmps53
  go_wp2_with (go_at_call 43; refine (isZero_any k _).mono ?_; rintro e w1 ⟨rfl, hb⟩; rw [HZ.out])
  replace HP : Hid (PwM B wb bm bh top X g D w1) := HP.out.below hb
  replace HK : Hid (w1.heap[w.heap.size]? = some (.cells #[.int .i64 k.1, .int .i64 k.2] 23)) := (hb.block _ (row_lt HK.out)).trans HK.out
  replace HB : Hid (Below w.heap.size w w1) := HB.out.trans (hb.mono HB.out.size)
  clear hb
  obtain ⟨kb, ekb⟩ : ∃ b, b = w.heap.size := ⟨_, rfl⟩
  rw [← ekb] at HK ⊢
  clear ekb
  go_wp2
  refine wp_region_held_drew (S := fun W' => PwM B wb bm bh top X g D W' ∧ W'.heap[kb]? = some (.cells #[.int .i64 k.1, .int .i64 k.2] 23)) (by kernel_rfl) ⟨HP.out.drew, HK.out⟩ (fun hHeld => ?_)
  obtain ⟨Ua1no12u0, eW⟩ : ∃ X, X = w1.drew := ⟨_, rfl⟩
  have hb : Below w1.heap.size w1 Ua1no12u0 := by rw [eW]; exact (Below.refl _ _).drew
  replace HP : Hid (PwM B wb bm bh top X g D Ua1no12u0) := HP.out.below hb
  replace HK : Hid (Ua1no12u0.heap[kb]? = some (.cells #[.int .i64 k.1, .int .i64 k.2] 23)) := (hb.block _ (row_lt HK.out)).trans HK.out
  replace HB : Hid (Below w.heap.size w Ua1no12u0) := HB.out.trans (hb.mono HB.out.size)
  rw [← eW] at hHeld ⊢
  clear eW hb
  refine tkW 0 (some 11) (v := ?_) ?_ hHeld ?_
  rotate_left
  · (intro ww _; go_simp; try with_reducible rfl)
  refine tkW 1 (some 12) (v := ?_) ?_ hHeld ?_
  rotate_left
  · (intro ww hSw; (try dsimp only at hSw); obtain ⟨hP, hK⟩ := hSw; have c0 := hP.c0; have k0 : ww.cell? ⟨kb, 0, none⟩ = some (.int .i64 k.1) := (by rw [cell_of_row ww kb 0 _ _ _ hK]; rfl); have k1 : ww.cell? ⟨kb, 1, none⟩ = some (.int .i64 k.2) := (by rw [cell_of_row ww kb 1 _ _ _ hK]; rfl); have hlk := hP.lookS HE.out; go_simp; try with_reducible rfl)
  refine tkW 2 (some 13) (v := ?_) ?_ hHeld ?_
  rotate_left
  · (intro ww _; go_simp; try with_reducible rfl)
  refine tkW 3 (some 14) (v := ?_) ?_ hHeld ?_
  rotate_left
  · (intro ww hSw; (try dsimp only at hSw); obtain ⟨hP, hK⟩ := hSw; have c0 := hP.c0; have k0 : ww.cell? ⟨kb, 0, none⟩ = some (.int .i64 k.1) := (by rw [cell_of_row ww kb 0 _ _ _ hK]; rfl); have k1 : ww.cell? ⟨kb, 1, none⟩ = some (.int .i64 k.2) := (by rw [cell_of_row ww kb 1 _ _ _ hK]; rfl); have hlk := hP.lookS HE.out; go_simp; try with_reducible rfl)
  refine tkW 4 (some 15) (v := ?_) ?_ hHeld ?_
  rotate_left
  · (intro ww hSw; (try dsimp only at hSw); obtain ⟨hP, hK⟩ := hSw; have c0 := hP.c0; have k0 : ww.cell? ⟨kb, 0, none⟩ = some (.int .i64 k.1) := (by rw [cell_of_row ww kb 0 _ _ _ hK]; rfl); have k1 : ww.cell? ⟨kb, 1, none⟩ = some (.int .i64 k.2) := (by rw [cell_of_row ww kb 1 _ _ _ hK]; rfl); have hlk := hP.lookS HE.out; go_simp; try with_reducible rfl)
  refine tkW 5 (some 16) (v := ?_) ?_ hHeld ?_
  rotate_left
  · (intro ww hSw; (try dsimp only at hSw); obtain ⟨hP, hK⟩ := hSw; have c0 := hP.c0; have k0 : ww.cell? ⟨kb, 0, none⟩ = some (.int .i64 k.1) := (by rw [cell_of_row ww kb 0 _ _ _ hK]; rfl); have k1 : ww.cell? ⟨kb, 1, none⟩ = some (.int .i64 k.2) := (by rw [cell_of_row ww kb 1 _ _ _ hK]; rfl); have hlk := hP.lookS HE.out; go_simp; try with_reducible rfl)
  refine tkW 6 (some 8) (v := ?_) ?_ hHeld ?_
  rotate_left
  · (intro ww _; go_simp; try with_reducible rfl)
  refine wpAnyH_done (by kernel_rfl) ?_ _
  clear hHeld
  have u6 : Ua1no12u0.cell? ⟨c, 6, none⟩ = some (.pointer (some ⟨q, 0, none⟩)) := (by have h9 := HP.out.mem.cup HX.out; rw [HU.out] at h9; exact h9)
  have heq := neqB q p Ua1no12u0 (HP.out.mem q HXq.out) (HP.out.mem p HXb.out)
  rw [decide_eq_false HN.out] at heq
  go_wp2
  (try rw [Exit.noGoto_ret])
  go_ret2
  exact ⟨rfl, HB.out⟩

set_option maxRecDepth 100000 in
set_option maxHeartbeats 1000000 in
theorem inTree_none {B wb bm bh top : Nat} {X : Nat → Prop} {g : Gr} {D : List (St × Nat)} (k : St) (w : World) (h : PwM B wb bm bh (some top) X g D w) (e : getP Prod.fst D k = none) :
    Calls Try.prog 52 #[.pointer (some ⟨wb, 0, none⟩), .agg #[.int .i64 k.1, .int .i64 k.2]] w fun e w' => e = .returned (.pointer none) ∧ Below w.heap.size w w' := by
  have HE := hide9 e
  clear e
  have hbx : Below w.heap.size w (w.alloc (.cells #[.int .i64 k.1, .int .i64 k.2] 23)) := (Below.refl _ _).alloc (Nat.le_refl _) _
  have HP : Hid (PwM B wb bm bh (some top) X g D (w.alloc (.cells #[.int .i64 k.1, .int .i64 k.2] 23))) := h.below hbx
  have HK : Hid ((w.alloc (.cells #[.int .i64 k.1, .int .i64 k.2] 23)).heap[w.heap.size]? = some (.cells #[.int .i64 k.1, .int .i64 k.2] 23)) := heap_alloc_new _ _
  have HB : Hid (Below w.heap.size w (w.alloc (.cells #[.int .i64 k.1, .int .i64 k.2] 23))) := hbx
  clear hbx h
  show Calls Try.prog 52 #[.pointer (some ⟨wb, 0, none⟩), .agg #[.int .i64 k.1, .int .i64 k.2]] w _
  go_enter Try.func52, Try.ntmps52
  go_wp2
  obtain ⟨W0, eW0⟩ : ∃ X, X = (w.alloc (.cells #[.int .i64 k.1, .int .i64 k.2] 23)) := ⟨_, rfl⟩
  rw [← eW0] at HP HK HB ⊢
  obtain ⟨kb, ekb⟩ : ∃ b, b = w.heap.size := ⟨_, rfl⟩
  rw [← ekb] at HK ⊢
  clear eW0 ekb
  refine wp_region_held_drew (S := fun W' => PwM B wb bm bh (some top) X g D W' ∧ W'.heap[kb]? = some (.cells #[.int .i64 k.1, .int .i64 k.2] 23)) (by kernel_rfl) ⟨HP.out.drew, HK.out⟩ (fun hHeld => ?_)
  obtain ⟨Ui1none13u0, eW⟩ : ∃ X, X = W0.drew := ⟨_, rfl⟩
  have hb : Below W0.heap.size W0 Ui1none13u0 := by rw [eW]; exact (Below.refl _ _).drew
  replace HP : Hid (PwM B wb bm bh (some top) X g D Ui1none13u0) := HP.out.below hb
  replace HK : Hid (Ui1none13u0.heap[kb]? = some (.cells #[.int .i64 k.1, .int .i64 k.2] 23)) := (hb.block _ (row_lt HK.out)).trans HK.out
  replace HB : Hid (Below w.heap.size w Ui1none13u0) := HB.out.trans (hb.mono HB.out.size)
  rw [← eW] at hHeld ⊢
  clear eW hb
  refine tkW 0 (some 7) (v := ?_) ?_ hHeld ?_
  rotate_left
  · (intro ww _; go_simp; try with_reducible rfl)
  refine tkW 1 (some 8) (v := ?_) ?_ hHeld ?_
  rotate_left
  · (intro ww hSw; (try dsimp only at hSw); obtain ⟨hP, hK⟩ := hSw; have c0 := hP.c0; have k0 : ww.cell? ⟨kb, 0, none⟩ = some (.int .i64 k.1) := (by rw [cell_of_row ww kb 0 _ _ _ hK]; rfl); have k1 : ww.cell? ⟨kb, 1, none⟩ = some (.int .i64 k.2) := (by rw [cell_of_row ww kb 1 _ _ _ hK]; rfl); have hlk := hP.lookN HE.out; go_simp; try with_reducible rfl)
  refine tkW 2 (some 9) (v := ?_) ?_ hHeld ?_
  rotate_left
  · (intro ww _; go_simp; try with_reducible rfl)
  refine tkW 3 (some 10) (v := ?_) ?_ hHeld ?_
  rotate_left
  · (intro ww hSw; (try dsimp only at hSw); obtain ⟨hP, hK⟩ := hSw; have c0 := hP.c0; have k0 : ww.cell? ⟨kb, 0, none⟩ = some (.int .i64 k.1) := (by rw [cell_of_row ww kb 0 _ _ _ hK]; rfl); have k1 : ww.cell? ⟨kb, 1, none⟩ = some (.int .i64 k.2) := (by rw [cell_of_row ww kb 1 _ _ _ hK]; rfl); have hlk := hP.lookN HE.out; go_simp; try with_reducible rfl)
  refine tkW 4 (some 11) (v := ?_) ?_ hHeld ?_
  rotate_left
  · (intro ww hSw; (try dsimp only at hSw); obtain ⟨hP, hK⟩ := hSw; have c0 := hP.c0; have k0 : ww.cell? ⟨kb, 0, none⟩ = some (.int .i64 k.1) := (by rw [cell_of_row ww kb 0 _ _ _ hK]; rfl); have k1 : ww.cell? ⟨kb, 1, none⟩ = some (.int .i64 k.2) := (by rw [cell_of_row ww kb 1 _ _ _ hK]; rfl); have hlk := hP.lookN HE.out; go_simp; try with_reducible rfl)
  refine tkW 5 (some 12) (v := ?_) ?_ hHeld ?_
  rotate_left
  · (intro ww hSw; (try dsimp only at hSw); obtain ⟨hP, hK⟩ := hSw; have c0 := hP.c0; have k0 : ww.cell? ⟨kb, 0, none⟩ = some (.int .i64 k.1) := (by rw [cell_of_row ww kb 0 _ _ _ hK]; rfl); have k1 : ww.cell? ⟨kb, 1, none⟩ = some (.int .i64 k.2) := (by rw [cell_of_row ww kb 1 _ _ _ hK]; rfl); have hlk := hP.lookN HE.out; go_simp; try with_reducible rfl)
  refine tkW 6 (some 5) (v := ?_) ?_ hHeld ?_
  rotate_left
  · (intro ww _; go_simp; try with_reducible rfl)
  refine wpAnyH_done (by kernel_rfl) ?_ _
  clear hHeld
  clear HK
  go_wp2
  go_loopg [6] 0 (fun gk u wr => u = .pointer none ∧ wr = Ui1none13u0)
  case atStart => exact ⟨rfl, rfl⟩
  case round =>
    obtain ⟨rfl, rfl⟩ := hrel
    go_wp2
    (try rw [Exit.noGoto_ret])
    go_ret
    exact ⟨rfl, HB.out⟩

set_option maxRecDepth 100000 in
set_option maxHeartbeats 1000000 in
theorem inTree_some {B wb bm bh top : Nat} {X : Nat → Prop} {g : Gr} {D : List (St × Nat)} (k : St) (w : World) (h : PwM B wb bm bh (some top) X g D w) {c m y : Nat} (e : getP Prod.fst D k = some (k, c)) (hx : X c) (hxt : X top) (ht : g.up top = none) (hup : UpN g m c y) (hy : g.up y = none) (hcl : ∀ c p, X c → g.up c = some p → X p) :
    Calls Try.prog 52 #[.pointer (some ⟨wb, 0, none⟩), .agg #[.int .i64 k.1, .int .i64 k.2]] w fun e w' => e = .returned (if y = top then .pointer (some ⟨c, 0, none⟩) else .pointer none) ∧ Below w.heap.size w w' := by
  have HE := hide9 e
  have HX := hide9 hx
  have HXt := hide9 hxt
  have HTop := hide9 ht
  have HUp := hide9 hup
  have HY := hide9 hy
  have HCl := hide9 hcl
  clear e hx hxt ht hup hy hcl
  have hbx : Below w.heap.size w (w.alloc (.cells #[.int .i64 k.1, .int .i64 k.2] 23)) := (Below.refl _ _).alloc (Nat.le_refl _) _
  have HP : Hid (PwM B wb bm bh (some top) X g D (w.alloc (.cells #[.int .i64 k.1, .int .i64 k.2] 23))) := h.below hbx
  have HK : Hid ((w.alloc (.cells #[.int .i64 k.1, .int .i64 k.2] 23)).heap[w.heap.size]? = some (.cells #[.int .i64 k.1, .int .i64 k.2] 23)) := heap_alloc_new _ _
  have HB : Hid (Below w.heap.size w (w.alloc (.cells #[.int .i64 k.1, .int .i64 k.2] 23))) := hbx
  clear hbx h
  obtain ⟨rs, hrs⟩ : ∃ r : Value, r = (if y = top then .pointer (some ⟨c, 0, none⟩) else .pointer none) := ⟨_, rfl⟩
  rw [← hrs]
  have HRs := hide9 hrs
  clear hrs
  show Calls Try.prog 52 #[.pointer (some ⟨wb, 0, none⟩), .agg #[.int .i64 k.1, .int .i64 k.2]] w _
  go_enter Try.func52, Try.ntmps52
  go_wp2
  obtain ⟨W0, eW0⟩ : ∃ X, X = (w.alloc (.cells #[.int .i64 k.1, .int .i64 k.2] 23)) := ⟨_, rfl⟩
  rw [← eW0] at HP HK HB ⊢
  obtain ⟨kb, ekb⟩ : ∃ b, b = w.heap.size := ⟨_, rfl⟩
  rw [← ekb] at HK ⊢
  clear eW0 ekb
  refine wp_region_held_drew (S := fun W' => PwM B wb bm bh (some top) X g D W' ∧ W'.heap[kb]? = some (.cells #[.int .i64 k.1, .int .i64 k.2] 23)) (by kernel_rfl) ⟨HP.out.drew, HK.out⟩ (fun hHeld => ?_)
  obtain ⟨Ui1some14u0, eW⟩ : ∃ X, X = W0.drew := ⟨_, rfl⟩
  have hb : Below W0.heap.size W0 Ui1some14u0 := by rw [eW]; exact (Below.refl _ _).drew
  replace HP : Hid (PwM B wb bm bh (some top) X g D Ui1some14u0) := HP.out.below hb
  replace HK : Hid (Ui1some14u0.heap[kb]? = some (.cells #[.int .i64 k.1, .int .i64 k.2] 23)) := (hb.block _ (row_lt HK.out)).trans HK.out
  replace HB : Hid (Below w.heap.size w Ui1some14u0) := HB.out.trans (hb.mono HB.out.size)
  rw [← eW] at hHeld ⊢
  clear eW hb
  refine tkW 0 (some 7) (v := ?_) ?_ hHeld ?_
  rotate_left
  · (intro ww _; go_simp; try with_reducible rfl)
  refine tkW 1 (some 8) (v := ?_) ?_ hHeld ?_
  rotate_left
  · (intro ww hSw; (try dsimp only at hSw); obtain ⟨hP, hK⟩ := hSw; have c0 := hP.c0; have k0 : ww.cell? ⟨kb, 0, none⟩ = some (.int .i64 k.1) := (by rw [cell_of_row ww kb 0 _ _ _ hK]; rfl); have k1 : ww.cell? ⟨kb, 1, none⟩ = some (.int .i64 k.2) := (by rw [cell_of_row ww kb 1 _ _ _ hK]; rfl); have hlk := hP.lookS HE.out; go_simp; try with_reducible rfl)
  refine tkW 2 (some 9) (v := ?_) ?_ hHeld ?_
  rotate_left
  · (intro ww _; go_simp; try with_reducible rfl)
  refine tkW 3 (some 10) (v := ?_) ?_ hHeld ?_
  rotate_left
  · (intro ww hSw; (try dsimp only at hSw); obtain ⟨hP, hK⟩ := hSw; have c0 := hP.c0; have k0 : ww.cell? ⟨kb, 0, none⟩ = some (.int .i64 k.1) := (by rw [cell_of_row ww kb 0 _ _ _ hK]; rfl); have k1 : ww.cell? ⟨kb, 1, none⟩ = some (.int .i64 k.2) := (by rw [cell_of_row ww kb 1 _ _ _ hK]; rfl); have hlk := hP.lookS HE.out; go_simp; try with_reducible rfl)
  refine tkW 4 (some 11) (v := ?_) ?_ hHeld ?_
  rotate_left
  · (intro ww hSw; (try dsimp only at hSw); obtain ⟨hP, hK⟩ := hSw; have c0 := hP.c0; have k0 : ww.cell? ⟨kb, 0, none⟩ = some (.int .i64 k.1) := (by rw [cell_of_row ww kb 0 _ _ _ hK]; rfl); have k1 : ww.cell? ⟨kb, 1, none⟩ = some (.int .i64 k.2) := (by rw [cell_of_row ww kb 1 _ _ _ hK]; rfl); have hlk := hP.lookS HE.out; go_simp; try with_reducible rfl)
  refine tkW 5 (some 12) (v := ?_) ?_ hHeld ?_
  rotate_left
  · (intro ww hSw; (try dsimp only at hSw); obtain ⟨hP, hK⟩ := hSw; have c0 := hP.c0; have k0 : ww.cell? ⟨kb, 0, none⟩ = some (.int .i64 k.1) := (by rw [cell_of_row ww kb 0 _ _ _ hK]; rfl); have k1 : ww.cell? ⟨kb, 1, none⟩ = some (.int .i64 k.2) := (by rw [cell_of_row ww kb 1 _ _ _ hK]; rfl); have hlk := hP.lookS HE.out; go_simp; try with_reducible rfl)
  refine tkW 6 (some 5) (v := ?_) ?_ hHeld ?_
  rotate_left
  · (intro ww _; go_simp; try with_reducible rfl)
  refine wpAnyH_done (by kernel_rfl) ?_ _
  clear hHeld
  clear HK
  go_wp2
  go_loopg [6] (m + 1) (fun gk u wr => wr = Ui1some14u0 ∧ ((∃ b j, u = .pointer (some ⟨b, 0, none⟩) ∧ gk = j + 1 ∧ Hid (X b ∧ UpN g j b y)) ∨ (u = .pointer none ∧ gk = 0 ∧ Hid (y ≠ top))))
  case atStart => exact ⟨rfl, .inl ⟨c, m, rfl, rfl, HX.out, HUp.out⟩⟩
  case round =>
    obtain ⟨rfl, hrel⟩ := hrel
    rcases hrel with ⟨b, j, rfl, rfl, HJ⟩ | ⟨rfl, rfl, HNe⟩
    · have c1 : wr.cell? ⟨wb, 1, none⟩ = some (.pointer (some ⟨top, 0, none⟩)) := HP.out.c1
      have heq : (binOp .eql 49 (.pointer (some ⟨b, 0, none⟩)) (.pointer (some ⟨top, 0, none⟩))).run Try.prog wr = .ok (.bool (decide (b = top))) wr := eqlB b top wr (HP.out.mem b HJ.out.1) (HP.out.mem top HXt.out)
      by_cases hbt : b = top
      · have HBt := hide9 hbt
        rw [decide_eq_true hbt] at heq
        clear hbt
        go_wp2
        (try rw [Exit.noGoto_ret])
        go_ret
        refine ⟨?_, HB.out⟩
        have hey : y = top := UpN.uniq HY.out HTop.out HJ.out.2 (show UpN g 0 b top from HBt.out)
        rw [HRs.out, if_pos hey]
        rfl
      · have HBt := hide9 hbt
        rw [decide_eq_false hbt] at heq
        clear hbt
        cases j with
        | zero =>
          have hby : b = y := HJ.out.2
          have u6 : wr.cell? ⟨b, 6, none⟩ = some (.pointer none) := (by have h9 := HP.out.mem.cup HJ.out.1; rw [hby, HY.out] at h9; rw [hby]; exact h9)
          have HNe : Hid (y ≠ top) := fun e => HBt.out (hby.trans e)
          clear hby
          go_wp2
          go_roundg 0
          case measure => omega
          case rel => exact ⟨rfl, .inr ⟨rfl, rfl, HNe⟩⟩
        | succ j =>
          obtain ⟨q, hq1, hq2⟩ := HJ.out.2
          have HQ : Hid (X q ∧ UpN g j q y) := ⟨HCl.out b q HJ.out.1 hq1, hq2⟩
          have u6 : wr.cell? ⟨b, 6, none⟩ = some (.pointer (some ⟨q, 0, none⟩)) := (by have h9 := HP.out.mem.cup HJ.out.1; rw [hq1] at h9; exact h9)
          clear hq1 hq2
          go_wp2
          go_roundg (j + 1)
          case measure => omega
          case rel => exact ⟨rfl, .inl ⟨q, j, rfl, rfl, HQ⟩⟩
    · go_wp2
      (try rw [Exit.noGoto_ret])
      go_ret
      refine ⟨?_, HB.out⟩
      rw [HRs.out, if_neg HNe.out]
      rfl

end Go.Proofs.Ytccpljllgpabnab
