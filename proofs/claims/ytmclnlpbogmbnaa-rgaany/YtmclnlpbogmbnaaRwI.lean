/- under, Ahead. -/
import Derived.Test.YtmclnlpbogmbnaaRwH
namespace Go.Proofs.Ytmclnlpbogmbnaa
open Go.RowKit
set_option linter.unusedVariables false
set_option linter.unusedSimpArgs false

theorem results_cell_row2 {P : Program} {fn : Func} {p u : Tmp} {ty : TypeId} (h : fn.results = #[.cell p ty, .tmp u]) (tmps : Array Value) (w : World) (g : Nat) (t : TypeId) (cs : Array Value) (fr : Nat × Nat) (d : TypeDesc)
    (hp : tmps.getD p undef = .pointer (some ⟨g, 0, none⟩)) (hg : w.heap[g]? = some (.cells cs t fr))
    (hu : P.underlying ty = some d) (hd : (match d with | .struct _ | .array _ _ => true | _ => false) = true) (hi : (P.info? ty).map (·.size) = some cs.size) {k : Value} (hk : tmps.getD u undef = k) :
    (results fn tmps).run P w = .ok (.tuple #[.agg cs, k]) w := by
  rw [results_cell_tmp h, hp, hk]
  simp [asAddr, run_loadVar_row w g t ty cs fr d hg hu hd hi]
/-- What under answers. -/
def UnP (F : Nat → Prop) (w : World) (L : List Sl) (s : St) (e : Ending) (w' : World) : Prop := ∃ sv, e = .returned (.tuple #[.agg #[.int .i64 (upO L s).1, .int .i64 (upO L s).2], sv]) ∧ OwnSt 0 w' sv (kidL L (upO L s)) ∧ (∀ k, sv.ownBlock = some k → F k) ∧ Below w.heap.size w w'

set_option maxRecDepth 100000 in
set_option maxHeartbeats 8000000 in
theorem under_any (F : Nat → Prop) (rb : Nat) (L : List Sl) (ma mb : Nat) (fv : Value) (E : List (St × Value)) (s : St) (w : World) (h : RowIs F w rb L (behZ L) (frL L) ma mb fv E) :
    Calls Try.prog 33 #[.pointer (some ⟨rb, 0, none⟩), .agg #[.int .i64 s.1, .int .i64 s.2]] w fun e w' => UnP F w L s e w' := by
  obtain ⟨W0, eW⟩ : ∃ X, X = (w.alloc (.cells (stCells s).toArray 30)).alloc (.cells [.int .i64 0, .int .i64 0].toArray 30) := ⟨_, rfl⟩
  have hb0 : Below w.heap.size w W0 := by rw [eW]; exact ((Below.refl _ _).alloc (Nat.le_refl _) _).alloc (by simp) _
  have HB : Hid (Below w.heap.size w W0) := hb0
  have HX : Hid (BxC w.heap.size (stCells s) 30 W0) := by rw [eW]; exact (BxC.new2 w _ _ _ _).1
  have HR9 : Hid (BxC (w.heap.size + 1) [.int .i64 0, .int .i64 0] 30 W0) := by rw [eW]; exact (BxC.new2 w _ _ _ _).2
  have HR : Hid (RowIs F W0 rb L (behZ L) (frL L) ma mb fv E) := h.below hb0
  have HG : Hid (GoodL L) := h.good
  obtain ⟨bx, ebx⟩ : ∃ b, b = w.heap.size := ⟨_, rfl⟩
  have HFl : Hid (∀ k, F k → k < bx) := by (rw [ebx]; exact h.lt)
  have HBx : Hid (w.heap.size ≤ bx) := Nat.le_of_eq ebx.symm
  clear h hb0
  go_enter Try.func33, Try.ntmps33
  go_wp2
  have eW2 := eW
  simp only [stCells] at eW2
  rw [← eW2]
  rw [← ebx] at HX HR9 ⊢
  clear eW2 eW ebx
  refine wp_region_held_drew (S := fun W' => BxC bx (stCells s) 30 W' ∧ RowIs F W' rb L (behZ L) (frL L) ma mb fv E) (by kernel_rfl) ⟨HX.out.below (Below.refl _ _).drew, HR.out.below (Below.refl _ _).drew⟩ (fun hHeld => ?_)
  obtain ⟨Ua4u0, eW⟩ : ∃ X, X = W0.drew := ⟨_, rfl⟩
  have hb : Below W0.heap.size W0 Ua4u0 := by rw [eW]; exact (Below.refl _ _).drew
  replace HB : Hid (Below w.heap.size w Ua4u0) := HB.out.trans (hb.mono HB.out.size)
  replace HR9 : Hid (BxC (bx + 1) [.int .i64 0, .int .i64 0] 30 Ua4u0) := HR9.out.below hb
  rw [← eW] at hHeld ⊢
  clear eW hb
  refine tkW 0 (some 7) (v := ?_) ?_ hHeld ?_
  rotate_left
  · (intro ww _; go_simp; try with_reducible rfl)
  refine tkW 1 (some 8) (v := ?_) ?_ hHeld ?_
  rotate_left
  · (intro ww hSw; (try dsimp only at hSw); have hS := hSw; go_simp; try with_reducible rfl)
  refine tkW 2 (some 9) (v := ?_) ?_ hHeld ?_
  rotate_left
  · (intro ww _; go_simp; try with_reducible rfl)
  refine tkW 3 (some 10) (v := ?_) ?_ hHeld ?_
  rotate_left
  · (intro ww hSw; (try dsimp only at hSw); have hS := hSw; have c0 := hS.2.c0; have hlk : (Instr.lookup 57 (.map (some ma)) (.agg #[.int .i64 s.1, .int .i64 s.2]) false).run Try.prog ww = .ok (.agg #[.int .i64 (afO L s).1, .int .i64 (afO L s).2]) ww := hS.2.am.look1 hS.2.good s; have x0 := hS.1.cell 0 _ rfl; have x1 := hS.1.cell 1 _ rfl; go_simp; try with_reducible rfl)
  refine tkW 4 (some 11) (v := ?_) ?_ hHeld ?_
  rotate_left
  · (intro ww hSw; (try dsimp only at hSw); have hS := hSw; have c0 := hS.2.c0; have hlk : (Instr.lookup 57 (.map (some ma)) (.agg #[.int .i64 s.1, .int .i64 s.2]) false).run Try.prog ww = .ok (.agg #[.int .i64 (afO L s).1, .int .i64 (afO L s).2]) ww := hS.2.am.look1 hS.2.good s; have x0 := hS.1.cell 0 _ rfl; have x1 := hS.1.cell 1 _ rfl; go_simp; try with_reducible rfl)
  refine tkW 5 (some 12) (v := ?_) ?_ hHeld ?_
  rotate_left
  · (intro ww hSw; (try dsimp only at hSw); have hS := hSw; have c0 := hS.2.c0; have hlk : (Instr.lookup 57 (.map (some ma)) (.agg #[.int .i64 s.1, .int .i64 s.2]) false).run Try.prog ww = .ok (.agg #[.int .i64 (afO L s).1, .int .i64 (afO L s).2]) ww := hS.2.am.look1 hS.2.good s; have x0 := hS.1.cell 0 _ rfl; have x1 := hS.1.cell 1 _ rfl; go_simp; try with_reducible rfl)
  refine wpAnyH_ready (rs := [6]) (by kernel_rfl) (by simp) ?_
  refine AllReadyH.cons (o := ⟨some 6, _, _, _, _, _⟩) rfl (fun K hK => ?_) AllReadyH.nil
  have HNb0 : Hid (bx + 1 < Ua4u0.heap.size ∧ ∀ j, F j → j ≠ Ua4u0.heap.size) := ⟨HR9.out.lt, fun j hj e => by have := hHeld.2.lt j hj; omega⟩
  have hbx : Below Ua4u0.heap.size Ua4u0 (Ua4u0.alloc (.cells #[.int .i64 0, .int .i64 0] 30)) := (Below.refl _ _).alloc (Nat.le_refl _) _
  go_simp
  refine hK.out _ _ (⟨hHeld.1.below hbx, hHeld.2.below hbx⟩) (fun hHeld2 => ?_)
  clear hK K hHeld
  have hHeld := hHeld2
  clear hHeld2
  (try simp only [Act.put, List.setIfInBounds_toArray, List.set_cons_zero, List.set_cons_succ])
  obtain ⟨Ua4u1, eW⟩ : ∃ X, X = Ua4u0.alloc (.cells #[.int .i64 0, .int .i64 0] 30) := ⟨_, rfl⟩
  have hb : Below Ua4u0.heap.size Ua4u0 Ua4u1 := by rw [eW]; exact (Below.refl _ _).alloc (Nat.le_refl _) _
  replace HB : Hid (Below w.heap.size w Ua4u1) := HB.out.trans (hb.mono HB.out.size)
  replace HR9 : Hid (BxC (bx + 1) [.int .i64 0, .int .i64 0] 30 Ua4u1) := HR9.out.below hb
  have HZ : Hid (Ua4u1.heap[Ua4u0.heap.size]? = some (.cells #[.int .i64 0, .int .i64 0] 30)) := by rw [eW]; exact heap_alloc_new _ _
  rw [← eW] at hHeld ⊢
  clear eW
  clear hbx
  obtain ⟨nb, enb⟩ : ∃ b, b = Ua4u0.heap.size := ⟨_, rfl⟩
  have HNb : Hid (bx + 1 < nb ∧ ∀ j, F j → j ≠ nb) := by rw [enb]; exact HNb0.out
  rw [← enb] at HZ ⊢
  clear enb
  clear HNb0
  clear hb
  refine wpAnyH_ready (rs := [7]) (by kernel_rfl) (by simp) ?_
  refine AllReadyH.cons (o := ⟨none, _, _, _, _, _⟩) rfl (fun K hK => ?_) AllReadyH.nil
  refine step_store_row rfl 30 (.tmp 6) (.tmp 12) rfl nb 30 #[.int .i64 0, .int .i64 0] (stCells (afO L s)).toArray rfl rfl HZ.out sizeStamp rfl (by simp [Value.oneCell', stCells]) ?_
  obtain ⟨Ua4u2, eW⟩ : ∃ Y, Y = Ua4u1.setRow nb (stCells (afO L s)).toArray := ⟨_, rfl⟩
  have ht9 : Touch (fun j => j = nb) Ua4u1 Ua4u2 := by rw [eW]; exact Touch.of_grown (grown_setRow _ _ _) fun j e _ => by cases e; rfl
  have HAf : Hid (BxC nb (stCells (afO L s)) 30 Ua4u2) := by (rw [eW]; exact setRow_same HZ.out)
  rw [← eW]
  have hS2 : BxC bx (stCells s) 30 Ua4u2 ∧ RowIs F Ua4u2 rb L (behZ L) (frL L) ma mb fv E := ⟨hHeld.1.touch ht9 (fun e => by have := HNb.out.1; omega), hHeld.2.touch ht9 (fun j hj e => HNb.out.2 j hj e)⟩
  replace HB : Hid (Below w.heap.size w Ua4u2) := HB.out.trans (ht9.below (fun j e => by have := HNb.out.1; have := HBx.out; omega) HB.out.size)
  replace HR9 : Hid (BxC (bx + 1) [.int .i64 0, .int .i64 0] 30 Ua4u2) := HR9.out.touch ht9 (fun e => by have := HNb.out.1; omega)
  refine hK.out _ _ (hS2) (fun hHeld2 => ?_)
  clear hK K hHeld
  have hHeld := hHeld2
  clear hHeld2
  (try simp only [Act.put, List.setIfInBounds_toArray, List.set_cons_zero, List.set_cons_succ])
  clear eW hS2 HZ ht9
  refine wpAnyH_done (by kernel_rfl) ?_ _
  have HRw : Hid (RowIs F Ua4u2 rb L (behZ L) (frL L) ma mb fv E) := hHeld.2
  clear hHeld
  have x0 := HAf.out.cell 0 _ rfl
  have x1 := HAf.out.cell 1 _ rfl
  go_wp2_with fail
  clear x0 x1
  refine (hasIs_any F rb L (behZ L) (frL L) ma mb fv E (afO L s) _ HRw.out).mono ?_
  rintro e w2 ⟨rfl, hb⟩
  replace HRw : Hid (RowIs F w2 rb L (behZ L) (frL L) ma mb fv E) := HRw.out.below hb
  replace HB : Hid (Below w.heap.size w w2) := HB.out.trans (hb.mono HB.out.size)
  replace HAf : Hid (BxC nb (stCells (afO L s)) 30 w2) := HAf.out.below hb
  replace HR9 : Hid (BxC (bx + 1) [.int .i64 0, .int .i64 0] 30 w2) := HR9.out.below hb
  clear hb
  cases hH : hasL L (afO L s) with
  | false =>
    have HU : Hid (upO L s = z0) := by (show _ = _; unfold upO; rw [hH]; rfl)
    have HKd : Hid (kidL L z0 = frL L) := by (show _ = _; unfold kidL; rw [if_pos rfl])
    clear hH
    go_wp2
    refine wp_region_held_drew (S := fun W' => BxC nb (stCells (afO L s)) 30 W' ∧ RowIs F W' rb L (behZ L) (frL L) ma mb fv E) (by kernel_rfl) ⟨HAf.out.below (Below.refl _ _).drew, HRw.out.below (Below.refl _ _).drew⟩ (fun hHeld => ?_)
    obtain ⟨Ub5u0, eW⟩ : ∃ X, X = w2.drew := ⟨_, rfl⟩
    have hb : Below w2.heap.size w2 Ub5u0 := by rw [eW]; exact (Below.refl _ _).drew
    replace HB : Hid (Below w.heap.size w Ub5u0) := HB.out.trans (hb.mono HB.out.size)
    replace HR9 : Hid (BxC (bx + 1) [.int .i64 0, .int .i64 0] 30 Ub5u0) := HR9.out.below hb
    rw [← eW] at hHeld ⊢
    clear eW hb
    refine tkW 0 (some 17) (v := ?_) ?_ hHeld ?_
    rotate_left
    · (intro ww hSw; (try dsimp only at hSw); have hS := hSw; go_simp; try with_reducible rfl)
    refine tkW 1 (some 18) (v := ?_) ?_ hHeld ?_
    rotate_left
    · (intro ww _; go_simp; try with_reducible rfl)
    refine tkW 2 (some 19) (v := ?_) ?_ hHeld ?_
    rotate_left
    · (intro ww hSw; (try dsimp only at hSw); have hS := hSw; go_simp; try with_reducible rfl)
    refine tkW 3 (some 20) (v := ?_) ?_ hHeld ?_
    rotate_left
    · (intro ww _; go_simp; try with_reducible rfl)
    refine tkW 4 (some 21) (v := ?_) ?_ hHeld ?_
    rotate_left
    · (intro ww hSw; (try dsimp only at hSw); have hS := hSw; have c2 := hS.2.c2; go_simp; try with_reducible rfl)
    refine wpAnyH_ready (rs := [5]) (by kernel_rfl) (by simp) ?_
    refine AllReadyH.cons (o := ⟨none, _, _, _, _, _⟩) rfl (fun K hK => ?_) AllReadyH.nil
    refine step_store_row rfl 30 (.tmp 4) (.tmp 17) rfl (bx + 1) 30 #[.int .i64 0, .int .i64 0] (#[.int .i64 0, .int .i64 0]) rfl rfl HR9.out sizeStamp rfl (by simp [Value.oneCell', stCells]) ?_
    obtain ⟨Ub5u1, eW⟩ : ∃ Y, Y = Ub5u0.setRow (bx + 1) (#[.int .i64 0, .int .i64 0]) := ⟨_, rfl⟩
    have ht9 : Touch (fun j => j = bx + 1) Ub5u0 Ub5u1 := by rw [eW]; exact Touch.of_grown (grown_setRow _ _ _) fun j e _ => by cases e; rfl
    have HR8 : Hid (Ub5u1.heap[bx + 1]? = some (.cells (#[.int .i64 0, .int .i64 0]) 30)) := by (rw [eW]; exact setRow_same HR9.out)
    rw [← eW]
    have hS2 : BxC nb (stCells (afO L s)) 30 Ub5u1 ∧ RowIs F Ub5u1 rb L (behZ L) (frL L) ma mb fv E := ⟨hHeld.1.touch ht9 (fun e => by have := HNb.out.1; omega), hHeld.2.touch ht9 (fun j hj e => by have := HFl.out j hj; omega)⟩
    replace HB : Hid (Below w.heap.size w Ub5u1) := HB.out.trans (ht9.below (fun j e => by have := HBx.out; omega) HB.out.size)
    refine hK.out _ _ (hS2) (fun hHeld2 => ?_)
    clear hK K hHeld
    have hHeld := hHeld2
    clear hHeld2
    (try simp only [Act.put, List.setIfInBounds_toArray, List.set_cons_zero, List.set_cons_succ])
    clear eW hS2 ht9 HR9
    have HR9 := HR8
    clear HR8
    refine tkW 6 (some 5) (v := ?_) ?_ hHeld ?_
    rotate_left
    · (intro ww _; go_simp; try with_reducible rfl)
    refine wpAnyH_done (by kernel_rfl) ?_ _
    have HRw : Hid (RowIs F Ub5u1 rb L (behZ L) (frL L) ma mb fv E) := hHeld.2
    have HB9 : Hid (Below w.heap.size w Ub5u1) := HB.out
    clear hHeld
    go_wp2
    refine bodyPost_ret (results_cell_row2 rfl _ _ (bx + 1) _ _ _ _ rfl HR9.out Try.underlying30 rfl sizeStamp rfl) rfl ?_
    exact ⟨fv, by rw [HU.out]; rfl, by (rw [HU.out, HKd.out]; exact HRw.out.own), fun k e => HRw.out.ff k e, HB9.out⟩
  | true =>
    have HU : Hid (upO L s = afO L s) := by (show _ = _; unfold upO; rw [hH]; rfl)
    have HKd : Hid (kidL L (afO L s) = behZ L (afO L s)) := (kid_beh HG.out hH).symm
    clear hH
    go_wp2
    refine wp_region_held_drew (S := fun W' => BxC nb (stCells (afO L s)) 30 W' ∧ RowIs F W' rb L (behZ L) (frL L) ma mb fv E) (by kernel_rfl) ⟨HAf.out.below (Below.refl _ _).drew, HRw.out.below (Below.refl _ _).drew⟩ (fun hHeld => ?_)
    obtain ⟨Uc6u0, eW⟩ : ∃ X, X = w2.drew := ⟨_, rfl⟩
    have hb : Below w2.heap.size w2 Uc6u0 := by rw [eW]; exact (Below.refl _ _).drew
    replace HB : Hid (Below w.heap.size w Uc6u0) := HB.out.trans (hb.mono HB.out.size)
    replace HR9 : Hid (BxC (bx + 1) [.int .i64 0, .int .i64 0] 30 Uc6u0) := HR9.out.below hb
    rw [← eW] at hHeld ⊢
    clear eW hb
    refine tkW 0 (some 22) (v := ?_) ?_ hHeld ?_
    rotate_left
    · (intro ww hSw; (try dsimp only at hSw); have hS := hSw; have c1 := hS.2.c1; have hlk : (Instr.lookup 58 (.map (some mb)) (.agg #[.int .i64 (afO L s).1, .int .i64 (afO L s).2]) false).run Try.prog ww = .ok (vB E (afO L s)) ww := hS.2.lookB (afO L s); have x0 := hS.1.cell 0 _ rfl; have x1 := hS.1.cell 1 _ rfl; go_simp; try with_reducible rfl)
    refine tkW 1 (some 23) (v := ?_) ?_ hHeld ?_
    rotate_left
    · (intro ww _; go_simp; try with_reducible rfl)
    refine tkW 2 (some 24) (v := ?_) ?_ hHeld ?_
    rotate_left
    · (intro ww hSw; (try dsimp only at hSw); have hS := hSw; go_simp; try with_reducible rfl)
    refine tkW 3 (some 25) (v := ?_) ?_ hHeld ?_
    rotate_left
    · (intro ww _; go_simp; try with_reducible rfl)
    refine tkW 4 (some 26) (v := ?_) ?_ hHeld ?_
    rotate_left
    · (intro ww hSw; (try dsimp only at hSw); have hS := hSw; have c1 := hS.2.c1; have hlk : (Instr.lookup 58 (.map (some mb)) (.agg #[.int .i64 (afO L s).1, .int .i64 (afO L s).2]) false).run Try.prog ww = .ok (vB E (afO L s)) ww := hS.2.lookB (afO L s); have x0 := hS.1.cell 0 _ rfl; have x1 := hS.1.cell 1 _ rfl; go_simp; try with_reducible rfl)
    refine tkW 5 (some 27) (v := ?_) ?_ hHeld ?_
    rotate_left
    · (intro ww hSw; (try dsimp only at hSw); have hS := hSw; have c1 := hS.2.c1; have hlk : (Instr.lookup 58 (.map (some mb)) (.agg #[.int .i64 (afO L s).1, .int .i64 (afO L s).2]) false).run Try.prog ww = .ok (vB E (afO L s)) ww := hS.2.lookB (afO L s); have x0 := hS.1.cell 0 _ rfl; have x1 := hS.1.cell 1 _ rfl; go_simp; try with_reducible rfl)
    refine tkW 6 (some 28) (v := ?_) ?_ hHeld ?_
    rotate_left
    · (intro ww hSw; (try dsimp only at hSw); have hS := hSw; have c1 := hS.2.c1; have hlk : (Instr.lookup 58 (.map (some mb)) (.agg #[.int .i64 (afO L s).1, .int .i64 (afO L s).2]) false).run Try.prog ww = .ok (vB E (afO L s)) ww := hS.2.lookB (afO L s); have x0 := hS.1.cell 0 _ rfl; have x1 := hS.1.cell 1 _ rfl; go_simp; try with_reducible rfl)
    refine wpAnyH_ready (rs := [7]) (by kernel_rfl) (by simp) ?_
    refine AllReadyH.cons (o := ⟨none, _, _, _, _, _⟩) rfl (fun K hK => ?_) AllReadyH.nil
    refine step_store_row rfl 30 (.tmp 4) (.tmp 22) rfl (bx + 1) 30 #[.int .i64 0, .int .i64 0] (#[.int .i64 (afO L s).1, .int .i64 (afO L s).2]) rfl rfl HR9.out sizeStamp rfl (by simp [Value.oneCell', stCells]) ?_
    obtain ⟨Uc6u1, eW⟩ : ∃ Y, Y = Uc6u0.setRow (bx + 1) (#[.int .i64 (afO L s).1, .int .i64 (afO L s).2]) := ⟨_, rfl⟩
    have ht9 : Touch (fun j => j = bx + 1) Uc6u0 Uc6u1 := by rw [eW]; exact Touch.of_grown (grown_setRow _ _ _) fun j e _ => by cases e; rfl
    have HR8 : Hid (Uc6u1.heap[bx + 1]? = some (.cells (#[.int .i64 (afO L s).1, .int .i64 (afO L s).2]) 30)) := by (rw [eW]; exact setRow_same HR9.out)
    rw [← eW]
    have hS2 : BxC nb (stCells (afO L s)) 30 Uc6u1 ∧ RowIs F Uc6u1 rb L (behZ L) (frL L) ma mb fv E := ⟨hHeld.1.touch ht9 (fun e => by have := HNb.out.1; omega), hHeld.2.touch ht9 (fun j hj e => by have := HFl.out j hj; omega)⟩
    replace HB : Hid (Below w.heap.size w Uc6u1) := HB.out.trans (ht9.below (fun j e => by have := HBx.out; omega) HB.out.size)
    refine hK.out _ _ (hS2) (fun hHeld2 => ?_)
    clear hK K hHeld
    have hHeld := hHeld2
    clear hHeld2
    (try simp only [Act.put, List.setIfInBounds_toArray, List.set_cons_zero, List.set_cons_succ])
    clear eW hS2 ht9 HR9
    have HR9 := HR8
    clear HR8
    refine tkW 8 (some 5) (v := ?_) ?_ hHeld ?_
    rotate_left
    · (intro ww _; go_simp; try with_reducible rfl)
    refine wpAnyH_done (by kernel_rfl) ?_ _
    have HRw : Hid (RowIs F Uc6u1 rb L (behZ L) (frL L) ma mb fv E) := hHeld.2
    have HB9 : Hid (Below w.heap.size w Uc6u1) := HB.out
    clear hHeld
    go_wp2
    refine bodyPost_ret (results_cell_row2 rfl _ _ (bx + 1) _ _ _ _ rfl HR9.out Try.underlying30 rfl sizeStamp rfl) rfl ?_
    exact ⟨(vB E (afO L s)), by rw [HU.out]; rfl, by (rw [HU.out, HKd.out]; exact HRw.out.ownB (afO L s)), fun k e => (HRw.out.inB e).1, HB9.out⟩
/-- What Ahead answers. -/
def AhR (L : List Sl) (s r : St) (b : Bool) : Prop := (hasL L s = false ∧ r = z0 ∧ b = false) ∨ (hasL L s = true ∧ b = true ∧ ∃ i, (kidL L (upO L s))[i]? = some s ∧ r = aheadO L s i)
def AhP (w : World) (L : List Sl) (s : St) (e : Ending) (w' : World) : Prop := ∃ r b, e = .returned (.tuple #[.agg #[.int .i64 r.1, .int .i64 r.2], .bool b]) ∧ AhR L s r b ∧ Below w.heap.size w w'

theorem RowIs.cell0 {F : Nat → Prop} {W : World} {rb : Nat} {L : List Sl} {ma mb : Nat} {fv : Value} {E : List (St × Value)} (h : RowIs F W rb L (behZ L) (frL L) ma mb fv E) {c k : St} {ks : List St} {g n cp : Nat} (hv : vB E c = .slice (some ⟨g, 0, none⟩) n cp) (hk : behZ L c = k :: ks) : W.cell? ⟨g, 0, none⟩ = some (.int .i64 k.1) ∧ W.cell? ⟨g, 1, none⟩ = some (.int .i64 k.2) := by
  have ho := h.ownB c
  rw [hk] at ho
  obtain ⟨g', cap, e, _, hcs, _⟩ := ho.cells stCells_len (i := 0) (by simp)
  rw [hv] at e
  cases e
  exact ⟨hcs 0 _ rfl, hcs 1 _ rfl⟩
/-- What stands while Ahead goes down. -/
structure AhL (F : Nat → Prop) (w : World) (bx bl rb : Nat) (L : List Sl) (ma mb : Nat) (fv : Value) (E : List (St × Value)) (c : St) (W : World) : Prop where
  row : RowIs F W rb L (behZ L) (frL L) ma mb fv E
  l : BxC bl (stCells c) 30 W
  r : BxC (bx + 1) [.int .i64 0, .int .i64 0] 30 W
  has : hasL L c = true
  bel : Below w.heap.size w W
  q : w.heap.size ≤ bx ∧ bx + 1 < bl ∧ ∀ k, F k → k < bx
theorem AhL.below {F : Nat → Prop} {w : World} {bx bl rb : Nat} {L : List Sl} {ma mb : Nat} {fv : Value} {E : List (St × Value)} {c : St} {W W' : World} (h : AhL F w bx bl rb L ma mb fv E c W) (hb : Below W.heap.size W W') : AhL F w bx bl rb L ma mb fv E c W' := ⟨h.row.below hb, h.l.below hb, h.r.below hb, h.has, h.bel.trans (hb.mono h.bel.size), h.q⟩
theorem AhL.set {F : Nat → Prop} {w : World} {bx bl rb : Nat} {L : List Sl} {ma mb : Nat} {fv : Value} {E : List (St × Value)} {c k : St} {W : World} (h : AhL F w bx bl rb L ma mb fv E c W) (hk : hasL L k = true) : AhL F w bx bl rb L ma mb fv E k (W.setRow bl (stCells k).toArray) := by
  have ht : Touch (fun j => j = bl) W (W.setRow bl (stCells k).toArray) := Touch.of_grown (grown_setRow _ _ _) fun j e _ => by cases e; rfl
  obtain ⟨q1, q2, q3⟩ := h.q
  exact ⟨h.row.touch ht (fun j hj e => by have := q3 j hj; omega), setRow_same h.l, h.r.touch ht (fun e => by omega), hk, h.bel.trans (ht.below (fun j e => by omega) h.bel.size), h.q⟩

set_option maxHeartbeats 1000000 in
theorem ahead0_any (s : St) (w : World) : Calls Try.prog 21 #[.pointer none, .agg #[.int .i64 s.1, .int .i64 s.2]] w fun e w' => AhP w [] s e w' := by
  obtain ⟨W0, eW⟩ : ∃ X, X = (w.alloc (.cells (stCells s).toArray 30)).alloc (.cells [.int .i64 0, .int .i64 0].toArray 30) := ⟨_, rfl⟩
  have HB : Hid (Below w.heap.size w W0) := by rw [eW]; exact ((Below.refl _ _).alloc (Nat.le_refl _) _).alloc (by simp) _
  have HR9 : Hid (BxC (w.heap.size + 1) [.int .i64 0, .int .i64 0] 30 W0) := by rw [eW]; exact (BxC.new2 w _ _ _ _).2
  go_enter Try.func21, Try.ntmps21
  go_wp2_with fail
  have eW2 := eW
  simp only [stCells] at eW2
  rw [← eW2]
  clear eW2 eW
  refine (has0_any s _).mono ?_
  rintro e w1 ⟨rfl, hb⟩
  replace HB : Hid (Below w.heap.size w w1) := HB.out.trans (hb.mono HB.out.size)
  replace HR9 : Hid (BxC (w.heap.size + 1) [.int .i64 0, .int .i64 0] 30 w1) := HR9.out.below hb
  clear hb
  go_wp2_with (refine wpList_store_row rfl 30 (.tmp 4) (.tmp 15) rfl (w.heap.size + 1) 30 #[.int .i64 0, .int .i64 0] (#[.int .i64 0, .int .i64 0]) rfl rfl HR9.out sizeStamp rfl (by simp [Value.oneCell', stCells]) ?_)
  (try simp only [Exit.inBlock, Exit.then])
  refine bodyPost_ret (results_cell_row2 rfl _ _ (w.heap.size + 1) _ (#[.int .i64 0, .int .i64 0]) _ _ rfl (setRow_same HR9.out) Try.underlying30 rfl sizeStamp rfl) rfl ?_
  exact ⟨z0, false, rfl, .inl ⟨rfl, rfl, rfl⟩, HB.out.trans ((Touch.of_grown (grown_setRow w1 (w.heap.size + 1) (#[.int .i64 0, .int .i64 0])) (F := fun j => j = w.heap.size + 1) fun j e _ => by cases e; rfl).below (fun j e => by omega) HB.out.size)⟩

set_option maxRecDepth 100000 in
set_option maxHeartbeats 8000000 in
theorem ahead_any (F : Nat → Prop) (rb : Nat) (L : List Sl) (s : St) (w : World) (h : RowOk F w rb L) :
    Calls Try.prog 21 #[.pointer (some ⟨rb, 0, none⟩), .agg #[.int .i64 s.1, .int .i64 s.2]] w fun e w' => AhP w L s e w' := by
  obtain ⟨ma, mb, fv, E, h, hl⟩ := h
  obtain ⟨W0, eW⟩ : ∃ X, X = (w.alloc (.cells (stCells s).toArray 30)).alloc (.cells [.int .i64 0, .int .i64 0].toArray 30) := ⟨_, rfl⟩
  have hb0 : Below w.heap.size w W0 := by rw [eW]; exact ((Below.refl _ _).alloc (Nat.le_refl _) _).alloc (by simp) _
  have HB : Hid (Below w.heap.size w W0) := hb0
  have HX : Hid (BxC w.heap.size (stCells s) 30 W0) := by rw [eW]; exact (BxC.new2 w _ _ _ _).1
  have HR9 : Hid (BxC (w.heap.size + 1) [.int .i64 0, .int .i64 0] 30 W0) := by rw [eW]; exact (BxC.new2 w _ _ _ _).2
  have HR : Hid (RowIs F W0 rb L (behZ L) (frL L) ma mb fv E) := h.below hb0
  have HG : Hid (GoodL L) := h.good
  obtain ⟨bx, ebx⟩ : ∃ b, b = w.heap.size := ⟨_, rfl⟩
  have HFl : Hid (∀ k, F k → k < bx) := by (rw [ebx]; exact h.lt)
  have HBx : Hid (w.heap.size ≤ bx) := Nat.le_of_eq ebx.symm
  have x0 := HX.out.cell 0 _ rfl
  have x1 := HX.out.cell 1 _ rfl
  rw [eW] at x0 x1
  have HLn4 : Hid (L.length ≤ 4096) := hl
  clear h hb0
  go_enter Try.func21, Try.ntmps21
  go_wp2_with fail
  have eW2 := eW
  simp only [stCells] at eW2
  rw [← eW2]
  rw [← ebx] at HX HR9 ⊢
  clear eW2 eW ebx x0 x1
  refine (hasIs_any F rb L (behZ L) (frL L) ma mb fv E s _ HR.out).mono ?_
  rintro e w1 ⟨rfl, hb⟩
  replace HB : Hid (Below w.heap.size w w1) := HB.out.trans (hb.mono HB.out.size)
  replace HR9 : Hid (BxC (bx + 1) [.int .i64 0, .int .i64 0] 30 w1) := HR9.out.below hb
  replace HX : Hid (BxC bx (stCells s) 30 w1) := HX.out.below hb
  replace HR : Hid (RowIs F w1 rb L (behZ L) (frL L) ma mb fv E) := HR.out.below hb
  clear hb
  cases hH : hasL L s with
  | false =>
    have HHn : Hid (hasL L s = false) := hH
    clear hH
    go_wp2_with (refine wpList_store_row rfl 30 (.tmp 4) (.tmp 15) rfl (bx + 1) 30 #[.int .i64 0, .int .i64 0] (#[.int .i64 0, .int .i64 0]) rfl rfl HR9.out sizeStamp rfl (by simp [Value.oneCell', stCells]) ?_)
    (try simp only [Exit.inBlock, Exit.then])
    refine bodyPost_ret (results_cell_row2 rfl _ _ (bx + 1) _ (#[.int .i64 0, .int .i64 0]) _ _ rfl (setRow_same HR9.out) Try.underlying30 rfl sizeStamp rfl) rfl ?_
    exact ⟨z0, false, rfl, .inl ⟨HHn.out, rfl, rfl⟩, HB.out.trans ((Touch.of_grown (grown_setRow w1 (bx + 1) (#[.int .i64 0, .int .i64 0])) (F := fun j => j = bx + 1) fun j e _ => by cases e; rfl).below (fun j e => by have := HBx.out; omega) HB.out.size)⟩
  | true =>
    have HHs : Hid (hasL L s = true) := hH
    clear hH
    have x0 := HX.out.cell 0 _ rfl
    have x1 := HX.out.cell 1 _ rfl
    go_wp2_with fail
    clear x0 x1
    refine (under_any F rb L ma mb fv E s _ HR.out).mono ?_
    rintro e w2 ⟨sv, rfl, ho, hf, hb⟩
    obtain ⟨K, eK⟩ : ∃ K, K = kidL L (upO L s) := ⟨_, rfl⟩
    have hsk : s ∈ K := by (rw [eK]; exact (up_kid HG.out HHs.out).1)
    have HKs : Hid (SrtS K) := by (rw [eK]; exact kidL_srt L _)
    have HKl : Hid (K.length ≤ 4096) := by (rw [eK]; have := kidL_length L (upO L s); have := HLn4.out; show _ ≤ _; omega)
    have HNd : Hid (Nd L (upO L s)) := (up_kid HG.out HHs.out).2
    rw [← eK] at ho
    have HKe : Hid (K = kidL L (upO L s)) := eK
    clear eK
    obtain ⟨a2, c2, e2⟩ := ho.form
    subst e2
    have HO : Hid (OwnSt 0 w2 (.slice a2 K.length c2) K) := ho
    replace HB : Hid (Below w.heap.size w w2) := HB.out.trans (hb.mono HB.out.size)
    replace HR9 : Hid (BxC (bx + 1) [.int .i64 0, .int .i64 0] 30 w2) := HR9.out.below hb
    replace HX : Hid (BxC bx (stCells s) 30 w2) := HX.out.below hb
    replace HR : Hid (RowIs F w2 rb L (behZ L) (frL L) ma mb fv E) := HR.out.below hb
    clear hb ho hf
    obtain ⟨u, eu⟩ : ∃ u, u = upO L s := ⟨_, rfl⟩
    have HUe : Hid (u = upO L s) := eu
    rw [← eu]
    clear eu
    obtain ⟨W3, eW⟩ : ∃ X, X = w2.alloc (.cells (stCells u).toArray 30) := ⟨_, rfl⟩
    have hb3 : Below w2.heap.size w2 W3 := by rw [eW]; exact (Below.refl _ _).alloc (Nat.le_refl _) _
    have HU : Hid (BxC w2.heap.size (stCells u) 30 W3) := by rw [eW]; exact BxC.new _ _ _
    replace HB : Hid (Below w.heap.size w W3) := HB.out.trans (hb3.mono HB.out.size)
    replace HR9 : Hid (BxC (bx + 1) [.int .i64 0, .int .i64 0] 30 W3) := HR9.out.below hb3
    have x0 := HX.out.cell 0 _ rfl
    have x1 := HX.out.cell 1 _ rfl
    have hbx2 : bx < w2.heap.size := HX.out.lt
    replace HX : Hid (BxC bx (stCells s) 30 W3) := HX.out.below hb3
    replace HR : Hid (RowIs F W3 rb L (behZ L) (frL L) ma mb fv E) := HR.out.below hb3
    replace HO : Hid (OwnSt 0 W3 (.slice a2 K.length c2) K) := HO.out.below hb3
    clear hb3
    go_wp2_with fail
    have eW2 := eW
    simp only [stCells] at eW2
    rw [← eW2]
    clear eW2 eW x0 x1 hbx2
    refine (search_any _ K s.1 s.2 _ HO.out HKl.out HKs.out).mono ?_
    rintro e w4 ⟨i, b, rfl, hpl, hbb, hb⟩
    replace HB : Hid (Below w.heap.size w w4) := HB.out.trans (hb.mono HB.out.size)
    replace HR9 : Hid (BxC (bx + 1) [.int .i64 0, .int .i64 0] 30 w4) := HR9.out.below hb
    replace HR : Hid (RowIs F w4 rb L (behZ L) (frL L) ma mb fv E) := HR.out.below hb
    replace HO : Hid (OwnSt 0 w4 (.slice a2 K.length c2) K) := HO.out.below hb
    replace HU : Hid (BxC w2.heap.size (stCells u) 30 w4) := HU.out.below hb
    clear hb
    have hfound : ∃ h : i < K.length, K[i] = s := by
      have h1 := hpl.has HKs.out
      have h2 : hasS K (s.1, s.2) = true := hasS_iff.2 ⟨s, hsk, rfl⟩
      rw [h2] at h1
      simpa using h1.symm
    obtain ⟨hi, hKi⟩ := hfound
    have HKi : Hid ((kidL L (upO L s))[i]? = some s) := by (rw [← HKe.out]; exact (List.getElem?_eq_some_iff.2 ⟨hi, hKi⟩))
    have hk4 := HKl.out
    clear hpl hbb hsk hKi
    by_cases hlast : i + 1 = K.length
    · have q1 : ((i : Int) == (K.length : Int) - 1) = true := by simp; omega
      have HAr : Hid (aheadO L s i = u) := by (show _ = _; unfold aheadO; rw [← HKe.out, List.getElem?_eq_none (by omega)]; exact HUe.out.symm)
      have u0 := HU.out.cell 0 _ rfl
      have u1 := HU.out.cell 1 _ rfl
      clear hlast
      go_wp2_with (refine wpList_store_row rfl 30 (.tmp 4) (.tmp 33) rfl (bx + 1) 30 #[.int .i64 0, .int .i64 0] (#[.int .i64 u.1, .int .i64 u.2]) rfl rfl HR9.out sizeStamp rfl (by simp [Value.oneCell', stCells]) ?_)
      (try simp only [Exit.inBlock, Exit.then])
      refine bodyPost_ret (results_cell_row2 rfl _ _ (bx + 1) _ (#[.int .i64 u.1, .int .i64 u.2]) _ _ rfl (setRow_same HR9.out) Try.underlying30 rfl sizeStamp rfl) rfl ?_
      exact ⟨u, true, rfl, .inr ⟨HHs.out, rfl, i, HKi.out, HAr.out.symm⟩, HB.out.trans ((Touch.of_grown (grown_setRow w4 (bx + 1) (#[.int .i64 u.1, .int .i64 u.2])) (F := fun j => j = bx + 1) fun j e _ => by cases e; rfl).below (fun j e => by have := HBx.out; omega) HB.out.size)⟩
    · have hi1 : i + 1 < K.length := by omega
      have q1 : ((i : Int) == (K.length : Int) - 1) = false := by simp; omega
      obtain ⟨y, ey⟩ : ∃ y, y = K[i + 1] := ⟨_, rfl⟩
      have HAr : Hid (aheadO L s i = lastO L y) := by (show _ = _; unfold aheadO; rw [← HKe.out, List.getElem?_eq_getElem hi1, ey]; rfl)
      have HHy : Hid (hasL L y = true) := by (rw [ey]; exact (kid_up HG.out (by rw [← HKe.out]; exact List.getElem_mem hi1) HNd.out).1)
      obtain ⟨g2, cp2, ev, _, hcs, _⟩ := HO.out.cells stCells_len hi1
      rw [← ey] at hcs
      injection ev with ev1 _ ev3
      subst ev1 ev3
      have y0 : w4.cell? ⟨g2, (i + 1) * 2, none⟩ = some (.int .i64 y.1) := hcs 0 _ rfl
      have y1 : w4.cell? ⟨g2, (i + 1) * 2 + 1, none⟩ = some (.int .i64 y.2) := hcs 1 _ rfl
      have kk1 : ((i : Int) + 1) < (K.length : Int) := by omega
      obtain ⟨W5, eW⟩ : ∃ X, X = w4.alloc (.cells (stCells y).toArray 30) := ⟨_, rfl⟩
      have hb5 : Below w4.heap.size w4 W5 := by rw [eW]; exact (Below.refl _ _).alloc (Nat.le_refl _) _
      have HL5 : Hid (AhL F w bx w4.heap.size rb L ma mb fv E y W5) := ⟨HR.out.below hb5, by (rw [eW]; exact BxC.new _ _ _), HR9.out.below hb5, HHy.out, HB.out.trans (hb5.mono HB.out.size), HBx.out, by (have := HR9.out.lt; omega), HFl.out⟩
      clear hcs ey hb5 hlast HO HU HR HX HB HR9 HHy
      go_wp2
      have eW2 := eW
      simp only [stCells] at eW2
      rw [← eW2]
      clear eW2 eW y0 y1 kk1 q1
      obtain ⟨bl, ebl⟩ : ∃ b, b = w4.heap.size := ⟨_, rfl⟩
      rw [← ebl] at HL5 ⊢
      clear ebl
      refine wp_loop_rounds (latN L y + 1) ?_
      refine (?key : ∀ (m : Nat) (a : Act) (W : World) (c : St) (u1 u2 u3 u6 u7 u8 u9 u11 u12 u13 u14 u15 u16 u17 u18 u19 u20 u21 u22 u23 u24 u25 u26 u27 u28 u29 u30 u31 u32 u33 u34 u35 u36 u37 u38 u39 u40 u41 u42 u43 u44 u45 u46 u47 u48 u49 u50 u51 u52 u53 u54 u55 : Value), a = { tmps := #[.pointer (some ⟨rb, 0, none⟩), u1, u2, u3, .pointer (some ⟨bx + 1, 0, none⟩), .bool false, u6, u7, u8, u9, .pointer (some ⟨bl, 0, none⟩), u11, u12, u13, u14, u15, u16, u17, u18, u19, u20, u21, u22, u23, u24, u25, u26, u27, u28, u29, u30, u31, u32, u33, u34, u35, u36, u37, u38, u39, u40, u41, u42, u43, u44, u45, u46, u47, u48, u49, u50, u51, u52, u53, u54, u55], defers := [] } → AhL F w bx bl rb L ma mb fv E c W → latN L c < m → lastO L c = lastO L y → Code.rounds _ _ _ m a W) _ _ _ y _ _ _ _ _ _ _ _ _ _ _ _ _ _ _ _ _ _ _ _ _ _ _ _ _ _ _ _ _ _ _ _ _ _ _ _ _ _ _ _ _ _ _ _ _ _ _ _ _ _ _ _ rfl HL5.out (Nat.lt_succ_self _) rfl
      intro m
      induction m with
      | zero => intro a W c u1 u2 u3 u6 u7 u8 u9 u11 u12 u13 u14 u15 u16 u17 u18 u19 u20 u21 u22 u23 u24 u25 u26 u27 u28 u29 u30 u31 u32 u33 u34 u35 u36 u37 u38 u39 u40 u41 u42 u43 u44 u45 u46 u47 u48 u49 u50 u51 u52 u53 u54 u55 e h hm; exact absurd hm (Nat.not_lt_zero _)
      | succ m ihm =>
        intro a W c u1 u2 u3 u6 u7 u8 u9 u11 u12 u13 u14 u15 u16 u17 u18 u19 u20 u21 u22 u23 u24 u25 u26 u27 u28 u29 u30 u31 u32 u33 u34 u35 u36 u37 u38 u39 u40 u41 u42 u43 u44 u45 u46 u47 u48 u49 u50 u51 u52 u53 u54 u55 e h hm hLc
        subst e
        rw [rounds_succ]
        have HA : Hid (AhL F w bx bl rb L ma mb fv E c W) := h
        have HLc : Hid (lastO L c = lastO L y) := hLc
        have hkb := kid_beh HG.out h.has
        have hle := lastO_eq HG.out (a := c) (.inr h.has)
        clear hLc
        cases hk : behZ L c with
        | nil =>
          have HLn : Hid (lastO L c = c) := by (show _ = _; rw [hle, ← hkb, hk])
          have hob := h.row.ownB c
          rw [hk] at hob
          obtain ⟨a5, c5, e5⟩ := hob.form
          have HVb : Hid (vB E c = .slice a5 0 c5) := e5
          clear hle hkb hk hob e5 h
          go_wp2
          refine wp_region_held_drew (S := fun W' => BxC bl (stCells c) 30 W' ∧ RowIs F W' rb L (behZ L) (frL L) ma mb fv E) (by kernel_rfl) ⟨HA.out.l.below (Below.refl _ _).drew, HA.out.row.below (Below.refl _ _).drew⟩ (fun hHeld => ?_)
          obtain ⟨Ud7u0, eW⟩ : ∃ X, X = W.drew := ⟨_, rfl⟩
          have hb : Below W.heap.size W Ud7u0 := by rw [eW]; exact (Below.refl _ _).drew
          replace HA : Hid (AhL F w bx bl rb L ma mb fv E c Ud7u0) := HA.out.below hb
          rw [← eW] at hHeld ⊢
          clear eW hb
          refine tkW 0 (some 39) (v := ?_) ?_ hHeld ?_
          rotate_left
          · (intro ww _; go_simp; try with_reducible rfl)
          refine tkW 1 (some 40) (v := ?_) ?_ hHeld ?_
          rotate_left
          · (intro ww hSw; (try dsimp only at hSw); have hS := hSw; go_simp; try with_reducible rfl)
          refine tkW 2 (some 41) (v := ?_) ?_ hHeld ?_
          rotate_left
          · (intro ww _; go_simp; try with_reducible rfl)
          refine tkW 3 (some 42) (v := ?_) ?_ hHeld ?_
          rotate_left
          · (intro ww hSw; (try dsimp only at hSw); have hS := hSw; have c1 := hS.2.c1; have hlk : (Instr.lookup 58 (.map (some mb)) (.agg #[.int .i64 c.1, .int .i64 c.2]) false).run Try.prog ww = .ok (.slice a5 0 c5) ww := (by have h9 := hS.2.lookB c; rw [HVb.out] at h9; exact h9); have x0 := hS.1.cell 0 _ rfl; have x1 := hS.1.cell 1 _ rfl; go_simp; try with_reducible rfl)
          refine tkW 4 (some 43) (v := ?_) ?_ hHeld ?_
          rotate_left
          · (intro ww hSw; (try dsimp only at hSw); have hS := hSw; have c1 := hS.2.c1; have hlk : (Instr.lookup 58 (.map (some mb)) (.agg #[.int .i64 c.1, .int .i64 c.2]) false).run Try.prog ww = .ok (.slice a5 0 c5) ww := (by have h9 := hS.2.lookB c; rw [HVb.out] at h9; exact h9); have x0 := hS.1.cell 0 _ rfl; have x1 := hS.1.cell 1 _ rfl; go_simp; try with_reducible rfl)
          refine tkW 5 (some 44) (v := ?_) ?_ hHeld ?_
          rotate_left
          · (intro ww hSw; (try dsimp only at hSw); have hS := hSw; have c1 := hS.2.c1; have hlk : (Instr.lookup 58 (.map (some mb)) (.agg #[.int .i64 c.1, .int .i64 c.2]) false).run Try.prog ww = .ok (.slice a5 0 c5) ww := (by have h9 := hS.2.lookB c; rw [HVb.out] at h9; exact h9); have x0 := hS.1.cell 0 _ rfl; have x1 := hS.1.cell 1 _ rfl; go_simp; try with_reducible rfl)
          refine tkW 6 (some 45) (v := ?_) ?_ hHeld ?_
          rotate_left
          · (intro ww hSw; (try dsimp only at hSw); have hS := hSw; have c1 := hS.2.c1; have hlk : (Instr.lookup 58 (.map (some mb)) (.agg #[.int .i64 c.1, .int .i64 c.2]) false).run Try.prog ww = .ok (.slice a5 0 c5) ww := (by have h9 := hS.2.lookB c; rw [HVb.out] at h9; exact h9); have x0 := hS.1.cell 0 _ rfl; have x1 := hS.1.cell 1 _ rfl; go_simp; try with_reducible rfl)
          refine tkW 7 (some 46) (v := ?_) ?_ hHeld ?_
          rotate_left
          · (intro ww hSw; (try dsimp only at hSw); have hS := hSw; go_simp; try with_reducible rfl)
          refine wpAnyH_done (by kernel_rfl) ?_ _
          clear hHeld
          have HB : Hid (Below w.heap.size w Ud7u0) := HA.out.bel
          have HR9 : Hid (BxC (bx + 1) [.int .i64 0, .int .i64 0] 30 Ud7u0) := HA.out.r
          have l0 := HA.out.l.cell 0 _ rfl
          have l1 := HA.out.l.cell 1 _ rfl
          go_wp2_with (refine wpList_store_row rfl 30 (.tmp 4) (.tmp 55) rfl (bx + 1) 30 #[.int .i64 0, .int .i64 0] (#[.int .i64 c.1, .int .i64 c.2]) rfl rfl HR9.out sizeStamp rfl (by simp [Value.oneCell', stCells]) ?_)
          (try simp only [Exit.inBlock, Exit.then])
          refine bodyPost_ret (results_cell_row2 rfl _ _ (bx + 1) _ (#[.int .i64 c.1, .int .i64 c.2]) _ _ rfl (setRow_same HR9.out) Try.underlying30 rfl sizeStamp rfl) rfl ?_
          exact ⟨c, true, rfl, .inr ⟨HHs.out, rfl, i, HKi.out, by (rw [HAr.out, ← HLc.out]; exact HLn.out.symm)⟩, HB.out.trans ((Touch.of_grown (grown_setRow Ud7u0 (bx + 1) (#[.int .i64 c.1, .int .i64 c.2])) (F := fun j => j = bx + 1) fun j e _ => by cases e; rfl).below (fun j e => by have := HBx.out; omega) HB.out.size)⟩
        | cons k ks =>
          have hkm : k ∈ kidL L c := by (rw [← hkb, hk]; simp)
          obtain ⟨k1, k2, k3⟩ := kid_up HG.out hkm (.inr h.has)
          have HHk : Hid (hasL L k = true) := k1
          have HLk : Hid (latN L k < m) := by (have := latN_lt k1 k3; show _ < _; omega)
          have HLl : Hid (lastO L k = lastO L y) := by (show _ = _; rw [← HLc.out, hle, ← hkb, hk])
          have hob := h.row.ownB c
          have HBk : Hid (behZ L c = k :: ks) := hk
          rw [hk] at hob
          obtain ⟨g5, c5, e5, hcp, _⟩ := hob.cells stCells_len (i := 0) (by simp)
          simp only [List.length_cons] at e5
          have HVb : Hid (vB E c = .slice (some ⟨g5, 0, none⟩) (ks.length + 1) c5) := e5
          have hks : ks.length ≤ 4096 := by (have := behZ_length L c; rw [hk] at this; simp at this; have := HLn4.out; omega)
          clear hle hkb hk hob e5 h hkm k1 k2 k3 hcp
          go_wp2
          refine wp_region_held_drew (S := fun W' => BxC bl (stCells c) 30 W' ∧ RowIs F W' rb L (behZ L) (frL L) ma mb fv E) (by kernel_rfl) ⟨HA.out.l.below (Below.refl _ _).drew, HA.out.row.below (Below.refl _ _).drew⟩ (fun hHeld => ?_)
          obtain ⟨Ue8u0, eW⟩ : ∃ X, X = W.drew := ⟨_, rfl⟩
          have hb : Below W.heap.size W Ue8u0 := by rw [eW]; exact (Below.refl _ _).drew
          replace HA : Hid (AhL F w bx bl rb L ma mb fv E c Ue8u0) := HA.out.below hb
          rw [← eW] at hHeld ⊢
          clear eW hb
          refine tkW 0 (some 39) (v := ?_) ?_ hHeld ?_
          rotate_left
          · (intro ww _; go_simp; try with_reducible rfl)
          refine tkW 1 (some 40) (v := ?_) ?_ hHeld ?_
          rotate_left
          · (intro ww hSw; (try dsimp only at hSw); have hS := hSw; go_simp; try with_reducible rfl)
          refine tkW 2 (some 41) (v := ?_) ?_ hHeld ?_
          rotate_left
          · (intro ww _; go_simp; try with_reducible rfl)
          refine tkW 3 (some 42) (v := ?_) ?_ hHeld ?_
          rotate_left
          · (intro ww hSw; (try dsimp only at hSw); have hS := hSw; have c1 := hS.2.c1; have hlk : (Instr.lookup 58 (.map (some mb)) (.agg #[.int .i64 c.1, .int .i64 c.2]) false).run Try.prog ww = .ok (.slice (some ⟨g5, 0, none⟩) (ks.length + 1) c5) ww := (by have h9 := hS.2.lookB c; rw [HVb.out] at h9; exact h9); have x0 := hS.1.cell 0 _ rfl; have x1 := hS.1.cell 1 _ rfl; go_simp; try with_reducible rfl)
          refine tkW 4 (some 43) (v := ?_) ?_ hHeld ?_
          rotate_left
          · (intro ww hSw; (try dsimp only at hSw); have hS := hSw; have c1 := hS.2.c1; have hlk : (Instr.lookup 58 (.map (some mb)) (.agg #[.int .i64 c.1, .int .i64 c.2]) false).run Try.prog ww = .ok (.slice (some ⟨g5, 0, none⟩) (ks.length + 1) c5) ww := (by have h9 := hS.2.lookB c; rw [HVb.out] at h9; exact h9); have x0 := hS.1.cell 0 _ rfl; have x1 := hS.1.cell 1 _ rfl; go_simp; try with_reducible rfl)
          refine tkW 5 (some 44) (v := ?_) ?_ hHeld ?_
          rotate_left
          · (intro ww hSw; (try dsimp only at hSw); have hS := hSw; have c1 := hS.2.c1; have hlk : (Instr.lookup 58 (.map (some mb)) (.agg #[.int .i64 c.1, .int .i64 c.2]) false).run Try.prog ww = .ok (.slice (some ⟨g5, 0, none⟩) (ks.length + 1) c5) ww := (by have h9 := hS.2.lookB c; rw [HVb.out] at h9; exact h9); have x0 := hS.1.cell 0 _ rfl; have x1 := hS.1.cell 1 _ rfl; go_simp; try with_reducible rfl)
          refine tkW 6 (some 45) (v := ?_) ?_ hHeld ?_
          rotate_left
          · (intro ww hSw; (try dsimp only at hSw); have hS := hSw; have c1 := hS.2.c1; have hlk : (Instr.lookup 58 (.map (some mb)) (.agg #[.int .i64 c.1, .int .i64 c.2]) false).run Try.prog ww = .ok (.slice (some ⟨g5, 0, none⟩) (ks.length + 1) c5) ww := (by have h9 := hS.2.lookB c; rw [HVb.out] at h9; exact h9); have x0 := hS.1.cell 0 _ rfl; have x1 := hS.1.cell 1 _ rfl; go_simp; try with_reducible rfl)
          refine tkW 7 (some 46) (v := ?_) ?_ hHeld ?_
          rotate_left
          · (intro ww hSw; (try dsimp only at hSw); have hS := hSw; go_simp; try with_reducible rfl)
          refine wpAnyH_done (by kernel_rfl) ?_ _
          clear hHeld
          go_wp2
          refine wp_region_held_drew (S := fun W' => RowIs F W' rb L (behZ L) (frL L) ma mb fv E) (by kernel_rfl) (HA.out.row.below (Below.refl _ _).drew) (fun hHeld => ?_)
          obtain ⟨Uf9u0, eW⟩ : ∃ X, X = Ue8u0.drew := ⟨_, rfl⟩
          have hb : Below Ue8u0.heap.size Ue8u0 Uf9u0 := by rw [eW]; exact (Below.refl _ _).drew
          replace HA : Hid (AhL F w bx bl rb L ma mb fv E c Uf9u0) := HA.out.below hb
          rw [← eW] at hHeld ⊢
          clear eW hb
          refine tkW 0 (some 47) (v := ?_) ?_ hHeld ?_
          rotate_left
          · (intro ww _; go_simp; try with_reducible rfl)
          refine tkW 1 (some 48) (v := ?_) ?_ hHeld ?_
          rotate_left
          · (intro ww hSw; (try dsimp only at hSw); have hS := hSw; go_simp; try with_reducible rfl)
          refine tkW 2 (some 49) (v := ?_) ?_ hHeld ?_
          rotate_left
          · (intro ww _; go_simp; try with_reducible rfl)
          refine tkW 3 (some 50) (v := ?_) ?_ hHeld ?_
          rotate_left
          · (intro ww hSw; (try dsimp only at hSw); have hS := hSw; have c1 := hS.c1; have hlk : (Instr.lookup 58 (.map (some mb)) (.agg #[.int .i64 c.1, .int .i64 c.2]) false).run Try.prog ww = .ok (.slice (some ⟨g5, 0, none⟩) (ks.length + 1) c5) ww := (by have h9 := hS.lookB c; rw [HVb.out] at h9; exact h9); have hc := hS.cell0 HVb.out HBk.out; have y0 := hc.1; have y1 := hc.2; go_simp; try with_reducible rfl)
          refine wpAnyH_ready (rs := [4]) (by kernel_rfl) (by simp) ?_
          refine AllReadyH.cons (o := ⟨some 51, _, _, _, _, _⟩) rfl (fun K hK => ?_) AllReadyH.nil
          have x0 := HA.out.l.cell 0 _ rfl
          have x1 := HA.out.l.cell 1 _ rfl
          go_simp
          refine hK.out _ _ (hHeld) (fun hHeld2 => ?_)
          clear hK K hHeld
          have hHeld := hHeld2
          clear hHeld2
          (try simp only [Act.put, List.setIfInBounds_toArray, List.set_cons_zero, List.set_cons_succ])
          clear x0 x1
          refine tkW 5 (some 52) (v := ?_) ?_ hHeld ?_
          rotate_left
          · (intro ww hSw; (try dsimp only at hSw); have hS := hSw; have c1 := hS.c1; have hlk : (Instr.lookup 58 (.map (some mb)) (.agg #[.int .i64 c.1, .int .i64 c.2]) false).run Try.prog ww = .ok (.slice (some ⟨g5, 0, none⟩) (ks.length + 1) c5) ww := (by have h9 := hS.lookB c; rw [HVb.out] at h9; exact h9); have hc := hS.cell0 HVb.out HBk.out; have y0 := hc.1; have y1 := hc.2; go_simp; try with_reducible rfl)
          refine tkW 6 (some 53) (v := ?_) ?_ hHeld ?_
          rotate_left
          · (intro ww hSw; (try dsimp only at hSw); have hS := hSw; have c1 := hS.c1; have hlk : (Instr.lookup 58 (.map (some mb)) (.agg #[.int .i64 c.1, .int .i64 c.2]) false).run Try.prog ww = .ok (.slice (some ⟨g5, 0, none⟩) (ks.length + 1) c5) ww := (by have h9 := hS.lookB c; rw [HVb.out] at h9; exact h9); have hc := hS.cell0 HVb.out HBk.out; have y0 := hc.1; have y1 := hc.2; go_simp; try with_reducible rfl)
          refine tkW 7 (some 54) (v := ?_) ?_ hHeld ?_
          rotate_left
          · (intro ww hSw; (try dsimp only at hSw); have hS := hSw; have c1 := hS.c1; have hlk : (Instr.lookup 58 (.map (some mb)) (.agg #[.int .i64 c.1, .int .i64 c.2]) false).run Try.prog ww = .ok (.slice (some ⟨g5, 0, none⟩) (ks.length + 1) c5) ww := (by have h9 := hS.lookB c; rw [HVb.out] at h9; exact h9); have hc := hS.cell0 HVb.out HBk.out; have y0 := hc.1; have y1 := hc.2; go_simp; try with_reducible rfl)
          refine wpAnyH_ready (rs := [8]) (by kernel_rfl) (by simp) ?_
          refine AllReadyH.cons (o := ⟨none, _, _, _, _, _⟩) rfl (fun K hK => ?_) AllReadyH.nil
          refine step_store_row rfl 30 (.tmp 10) (.tmp 54) rfl bl 30 (stCells c).toArray (stCells k).toArray rfl rfl HA.out.l sizeStamp rfl (by simp [Value.oneCell', stCells]) ?_
          obtain ⟨Uf9u2, eW⟩ : ∃ Y, Y = Uf9u0.setRow bl (stCells k).toArray := ⟨_, rfl⟩
          have HA2 : Hid (AhL F w bx bl rb L ma mb fv E k Uf9u2) := by (rw [eW]; exact HA.out.set HHk.out)
          rw [← eW]
          have hS2 : RowIs F Uf9u2 rb L (behZ L) (frL L) ma mb fv E := HA2.out.row
          refine hK.out _ _ (hS2) (fun hHeld2 => ?_)
          clear hK K hHeld
          have hHeld := hHeld2
          clear hHeld2
          (try simp only [Act.put, List.setIfInBounds_toArray, List.set_cons_zero, List.set_cons_succ])
          clear eW hS2
          refine wpAnyH_done (by kernel_rfl) ?_ _
          clear hHeld
          go_wp2
          exact ihm _ Uf9u2 k _ _ _ _ _ _ _ _ _ _ _ _ _ _ _ _ _ _ _ _ _ _ _ _ _ _ _ _ _ _ _ _ _ _ _ _ _ _ _ _ _ _ _ _ _ _ _ _ _ _ _ _ rfl HA2.out HLk.out HLl.out


end Go.Proofs.Ytmclnlpbogmbnaa
