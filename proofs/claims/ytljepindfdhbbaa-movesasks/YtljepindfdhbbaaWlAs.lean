/- MovesAsks: where any node stands, who is above it, who stands beneath it. -/
import Derived.Test.YtljepindfdhbbaaRfG
import Derived.Test.YtljepindfdhbbaaRfH
import Derived.Test.YtljepindfdhbbaaWlNr
namespace Go.Proofs.Ytljepindfdhbbaa
open Go.RowKit
set_option linter.unusedVariables false
set_option linter.unusedSimpArgs false

/-- The state of MovesAsks. -/
structure AsS (W0 : World) (tb : Nat) (F : Nat → Prop) (dv : Value) (L : List Mv) (bx : Nat) (s : St) (tv : Value) (xb : Nat) (xo : Obj) (W : World) : Prop where
  md : MdS W0 tb F dv L L W
  tree : LsE plCells 6 (fun j => ¬ F j) W tv (doneT L)
  box : W.heap[bx]? = some (.cells (stCells s).toArray 27)
  nbx : ¬ F bx
  row : W.heap[xb]? = some xo
  nx : ¬ F xb
section
variable {W0 W W' : World} {tb : Nat} {F : Nat → Prop} {dv tv : Value} {L : List Mv} {bx xb xb2 : Nat} {s : St} {xo xo2 : Obj}
theorem AsS.below (h : AsS W0 tb F dv L bx s tv xb xo W) (hb : Below W.heap.size W W') : AsS W0 tb F dv L bx s tv xb xo W' := ⟨h.md.below hb, h.tree.below hb, (hb.block _ (row_lt h.box)).trans h.box, h.nbx, (hb.block _ (row_lt h.row)).trans h.row, h.nx⟩
theorem AsS.drew (h : AsS W0 tb F dv L bx s tv xb xo W) : AsS W0 tb F dv L bx s tv xb xo W.drew := h.below (Below.refl _ _).drew
theorem AsS.asked (h : AsS W0 tb F dv L bx s tv xb xo W) (ha : AskP F W (.pointer (some ⟨tb, 0, none⟩)) L W') : AsS W0 tb F dv L bx s tv xb xo W' := ⟨h.md.asked ha, h.tree.touch ha.2 (fun _ hk => hk), row_touch h.box ha.2 h.nbx, h.nbx, row_touch h.row ha.2 h.nx, h.nx⟩
theorem AsS.swap (h : AsS W0 tb F dv L bx s tv xb xo W) (hr : W.heap[xb2]? = some xo2) (hn : ¬ F xb2) : AsS W0 tb F dv L bx s tv xb2 xo2 W := ⟨h.md, h.tree, h.box, h.nbx, hr, hn⟩
theorem AsS.b0 (h : AsS W0 tb F dv L bx s tv xb xo W) : W.cell? ⟨bx, 0, none⟩ = some (.int .i64 s.1) := by rw [cell_of_row W _ 0 _ _ _ h.box]; rfl
theorem AsS.b1 (h : AsS W0 tb F dv L bx s tv xb xo W) : W.cell? ⟨bx, 1, none⟩ = some (.int .i64 s.2) := by rw [cell_of_row W _ 1 _ _ _ h.box]; rfl
end

set_option maxRecDepth 100000 in
set_option maxHeartbeats 8000000 in
theorem movesAsks_walk (v : Value) (l : List Ma) (s : St) (w : World) (h : IsMa w v l) :
    Calls Try.prog 4 #[v, .agg #[.int .i64 s.1, .int .i64 s.2]] w fun e w' => e = .returned (.bool true) ∧ Below w.heap.size w w' := by
  obtain ⟨a0, c0, e0⟩ := h.form
  subst e0
  obtain ⟨W0, eW⟩ : ∃ X, X = w.alloc (.cells (stCells s).toArray 27) := ⟨_, rfl⟩
  have hb0 : Below w.heap.size w W0 := by rw [eW]; exact (Below.refl _ _).alloc (Nat.le_refl _) _
  obtain ⟨bx, ebx⟩ : ∃ b, b = w.heap.size := ⟨_, rfl⟩
  have HBe : Hid (Below w.heap.size w W0) := hb0
  have HLs : Hid (IsMa W0 (.slice a0 l.length c0) l) := h.below hb0
  have HBr : Hid (W0.heap[bx]? = some (.cells (stCells s).toArray 27)) := by (rw [ebx, eW]; exact heap_alloc_new _ _)
  have HeW : Hid (W0 = w.alloc (.cells #[.int .i64 s.1, .int .i64 s.2] 27)) := eW
  have HeB : Hid (bx = w.heap.size) := ebx
  clear h hb0 eW ebx
  go_enter Try.func4, Try.ntmps4
  go_wp2_with fail
  rw [← HeW.out, ← HeB.out]
  clear HeW
  refine (made_any (.slice a0 l.length c0) l _ HLs.out).mono ?_
  rintro e w1 ⟨tb, F, a1, c1, rfl, hM⟩
  obtain ⟨L, eL⟩ : ∃ X, X = madeL l := ⟨_, rfl⟩
  have hLl : L.length ≤ 200 := by rw [eL]; exact madeL_len l
  rw [← eL] at hM ⊢
  have HM1 : Hid (MdS W0 tb F (.slice a1 L.length c1) L L w1) := hM
  have HTl : Hid ((doneT L).length ≤ 200) := Nat.le_trans (doneT_length _) hLl
  have HUl : Hid ((upL (doneT L) s).length ≤ 8796093022208) := by (show _ ≤ _; have h1 := ((goodT L).acy.up s).short; have h2 := HTl.out; omega)
  have HKl : Hid ((kidsL (doneT L) s).length ≤ 8796093022208) := by (show _ ≤ _; have h1 := kidsL_le (doneT L) s; have h2 := HTl.out; omega)
  clear hM eL HLs
  go_wp2_with fail
  refine (refDone_any (fun j => ¬ F j) (.slice a1 L.length c1) L _ HM1.out.doc (by omega)).mono ?_
  rintro e w2 ⟨at0, ct0, a2, c2, D, rfl, hD, _⟩
  have hbr : W0.heap[bx]? = some (.cells (stCells s).toArray 27) := HBr.out
  have hnb : ¬ F bx := fun hk => by have h1 := HM1.out.hi _ hk; have h2 := row_lt hbr; omega
  have hb2 : w2.heap[bx]? = some (.cells (stCells s).toArray 27) := by (have h1 := (HM1.out.bel.block _ (row_lt hbr)).trans hbr; exact (hD.bel.block _ (row_lt h1)).trans h1)
  have HN : Hid (AsS W0 tb F (.slice a1 L.length c1) L bx s (.slice at0 (doneT L).length ct0) bx (.cells (stCells s).toArray 27) w2) := ⟨HM1.out.below hD.bel, hD.tree.mono (fun k hk hF => by have h1 := HM1.out.tr.lt k hF; have h2 := hk.1; omega), hb2, hnb, hb2, hnb⟩
  clear hD hbr hnb hb2 HM1 HBr
  have b0 := HN.out.b0
  have b1 := HN.out.b1
  cases hwh : whT (doneT L) s with
  | none =>
    have HWh : Hid (whT (doneT L) s = none) := hwh
    clear hwh
    go_wp2_with fail
    clear b0 b1
    refine (where_any F (.pointer (some ⟨tb, 0, none⟩)) L s _ HN.out.md.tv HN.out.md.tr.lt).mono ?_
    rintro e w3 ⟨he, ha⟩
    rw [HWh.out] at he
    have he2 : e = .returned (.tuple #[.agg #[.int .i64 0, .int .i64 0, .int .i64 0, .int .i64 0, .int .i64 0, .int .i64 0], .bool false]) := he
    subst he2
    clear he
    obtain ⟨w4, ew4⟩ : ∃ X, X = w3.alloc (.cells #[.int .i64 0, .int .i64 0, .int .i64 0, .int .i64 0, .int .i64 0, .int .i64 0] 43) := ⟨_, rfl⟩
    obtain ⟨pb, epb⟩ : ∃ b, b = w3.heap.size := ⟨_, rfl⟩
    have hb4 : Below w3.heap.size w3 w4 := by rw [ew4]; exact (Below.refl _ _).alloc (Nat.le_refl _) _
    have hN4 := ((HN.out.asked ha).below hb4).swap (xb2 := pb) (xo2 := .cells #[.int .i64 0, .int .i64 0, .int .i64 0, .int .i64 0, .int .i64 0, .int .i64 0] 43) (by (rw [epb, ew4]; exact heap_alloc_new _ _)) (fun hk => by have h1 := (HN.out.asked ha).md.tr.lt _ hk; omega)
    replace HN : Hid (AsS W0 tb F (.slice a1 L.length c1) L bx s (.slice at0 (doneT L).length ct0) pb (.cells #[.int .i64 0, .int .i64 0, .int .i64 0, .int .i64 0, .int .i64 0, .int .i64 0] 43) w4) := hN4
    have HeW : Hid (w4 = w3.alloc (.cells #[.int .i64 0, .int .i64 0, .int .i64 0, .int .i64 0, .int .i64 0, .int .i64 0] 43)) := ew4
    have HeP : Hid (pb = w3.heap.size) := epb
    have b0 := HN.out.b0
    have b1 := HN.out.b1
    rw [ew4] at b0 b1
    clear hN4 hb4 ew4 epb ha
    go_wp2_with fail
    rw [← HeW.out, ← HeP.out]
    clear HeW HeP b0 b1
    refine (refWhere_any (fun j => ¬ F j) (.slice at0 (doneT L).length ct0) (doneT L) s _ HN.out.tree (goodT L).srt).mono ?_
    rintro e w5 ⟨z, rfl, hz, hb⟩
    replace HN : Hid (AsS W0 tb F (.slice a1 L.length c1) L bx s (.slice at0 (doneT L).length ct0) pb (.cells #[.int .i64 0, .int .i64 0, .int .i64 0, .int .i64 0, .int .i64 0, .int .i64 0] 43) w5) := HN.out.below hb
    clear hb
    obtain rfl : z = -1 := hz.elim (fun h => h.1) (fun ⟨q, p2, h7, h8, h9⟩ => by rw [HWh.out] at h9; cases h9)
    clear hz
    go_wp2_with fail
    refine wp_region_held_drew (S := fun W' => AsS W0 tb F (.slice a1 L.length c1) L bx s (.slice at0 (doneT L).length ct0) pb (.cells #[.int .i64 0, .int .i64 0, .int .i64 0, .int .i64 0, .int .i64 0, .int .i64 0] 43) W') (by kernel_rfl) HN.out.drew (fun hHeld => ?_)
    obtain ⟨Ua1u0, eW⟩ : ∃ X, X = w5.drew := ⟨_, rfl⟩
    have hb : Below w5.heap.size w5 Ua1u0 := by rw [eW]; exact (Below.refl _ _).drew
    replace HN : Hid (AsS W0 tb F (.slice a1 L.length c1) L bx s (.slice at0 (doneT L).length ct0) pb (.cells #[.int .i64 0, .int .i64 0, .int .i64 0, .int .i64 0, .int .i64 0, .int .i64 0] 43) Ua1u0) := HN.out.below hb
    rw [← eW] at hHeld ⊢
    clear eW hb
    refine tkW 0 (some 31) (v := ?_) ?_ hHeld ?_
    rotate_left
    · (intro ww _; go_simp; try with_reducible rfl)
    refine tkW 1 (some 32) (v := ?_) ?_ hHeld ?_
    rotate_left
    · (intro ww _; go_simp; try with_reducible rfl)
    refine tkW 2 (some 33) (v := .bool false) ?_ hHeld ?_
    · (intro ww hSw; (try dsimp only at hSw); have hS := hSw; have g0 : ww.cell? ⟨pb, 0, none⟩ = some (.int .i64 0) := cellP hS.row 0 _ rfl; have g1 : ww.cell? ⟨pb, 1, none⟩ = some (.int .i64 0) := cellP hS.row 1 _ rfl; have g2 : ww.cell? ⟨pb, 2, none⟩ = some (.int .i64 0) := cellP hS.row 2 _ rfl; have g3 : ww.cell? ⟨pb, 3, none⟩ = some (.int .i64 0) := cellP hS.row 3 _ rfl; have g4 : ww.cell? ⟨pb, 4, none⟩ = some (.int .i64 0) := cellP hS.row 4 _ rfl; have g5 : ww.cell? ⟨pb, 5, none⟩ = some (.int .i64 0) := cellP hS.row 5 _ rfl; go_simp; (try simp); (try omega))
    refine tkW 3 (some 34) (v := .bool false) ?_ hHeld ?_
    · (intro ww hSw; (try dsimp only at hSw); have hS := hSw; have g0 : ww.cell? ⟨pb, 0, none⟩ = some (.int .i64 0) := cellP hS.row 0 _ rfl; have g1 : ww.cell? ⟨pb, 1, none⟩ = some (.int .i64 0) := cellP hS.row 1 _ rfl; have g2 : ww.cell? ⟨pb, 2, none⟩ = some (.int .i64 0) := cellP hS.row 2 _ rfl; have g3 : ww.cell? ⟨pb, 3, none⟩ = some (.int .i64 0) := cellP hS.row 3 _ rfl; have g4 : ww.cell? ⟨pb, 4, none⟩ = some (.int .i64 0) := cellP hS.row 4 _ rfl; have g5 : ww.cell? ⟨pb, 5, none⟩ = some (.int .i64 0) := cellP hS.row 5 _ rfl; go_simp; (try simp); (try omega))
    refine tkW 4 (some 35) (v := ?_) ?_ hHeld ?_
    rotate_left
    · (intro ww _; go_simp; try with_reducible rfl)
    refine tkW 5 (some 36) (v := ?_) ?_ hHeld ?_
    rotate_left
    · (intro ww _; go_simp; try with_reducible rfl)
    refine tkW 6 (some 37) (v := ?_) ?_ hHeld ?_
    rotate_left
    · (intro ww _; go_simp; try with_reducible rfl)
    refine tkU 7 (some 38) hHeld ?_
    refine tkU 8 (some 39) hHeld ?_
    refine tkU 9 (some 40) hHeld ?_
    refine tkU 10 (some 41) hHeld ?_
    refine tkU 11 (some 42) hHeld ?_
    refine tkU 12 (some 43) hHeld ?_
    refine tkW 13 (some 44) (v := ?_) ?_ hHeld ?_
    rotate_left
    · (intro ww _; go_simp; try with_reducible rfl)
    refine tkW 14 (some 45) (v := ?_) ?_ hHeld ?_
    rotate_left
    · (intro ww _; go_simp; try with_reducible rfl)
    refine tkW 15 (some 46) (v := ?_) ?_ hHeld ?_
    rotate_left
    · (intro ww _; go_simp; try with_reducible rfl)
    refine tkW 16 (some 47) (v := ?_) ?_ hHeld ?_
    rotate_left
    · (intro ww _; go_simp; try with_reducible rfl)
    refine tkW 17 (some 48) (v := ?_) ?_ hHeld ?_
    rotate_left
    · (intro ww _; go_simp; try with_reducible rfl)
    refine tkW 18 (some 49) (v := ?_) ?_ hHeld ?_
    rotate_left
    · (intro ww _; go_simp; try with_reducible rfl)
    refine tkW 19 (some 50) (v := ?_) ?_ hHeld ?_
    rotate_left
    · (intro ww hSw; (try dsimp only at hSw); have hS := hSw; have g0 : ww.cell? ⟨pb, 0, none⟩ = some (.int .i64 0) := cellP hS.row 0 _ rfl; have g1 : ww.cell? ⟨pb, 1, none⟩ = some (.int .i64 0) := cellP hS.row 1 _ rfl; have g2 : ww.cell? ⟨pb, 2, none⟩ = some (.int .i64 0) := cellP hS.row 2 _ rfl; have g3 : ww.cell? ⟨pb, 3, none⟩ = some (.int .i64 0) := cellP hS.row 3 _ rfl; have g4 : ww.cell? ⟨pb, 4, none⟩ = some (.int .i64 0) := cellP hS.row 4 _ rfl; have g5 : ww.cell? ⟨pb, 5, none⟩ = some (.int .i64 0) := cellP hS.row 5 _ rfl; go_simp; try with_reducible rfl)
    refine tkW 20 (some 51) (v := ?_) ?_ hHeld ?_
    rotate_left
    · (intro ww hSw; (try dsimp only at hSw); have hS := hSw; have g0 : ww.cell? ⟨pb, 0, none⟩ = some (.int .i64 0) := cellP hS.row 0 _ rfl; have g1 : ww.cell? ⟨pb, 1, none⟩ = some (.int .i64 0) := cellP hS.row 1 _ rfl; have g2 : ww.cell? ⟨pb, 2, none⟩ = some (.int .i64 0) := cellP hS.row 2 _ rfl; have g3 : ww.cell? ⟨pb, 3, none⟩ = some (.int .i64 0) := cellP hS.row 3 _ rfl; have g4 : ww.cell? ⟨pb, 4, none⟩ = some (.int .i64 0) := cellP hS.row 4 _ rfl; have g5 : ww.cell? ⟨pb, 5, none⟩ = some (.int .i64 0) := cellP hS.row 5 _ rfl; go_simp; try with_reducible rfl)
    refine tkW 21 (some 52) (v := .bool false) ?_ hHeld ?_
    · (intro ww hSw; (try dsimp only at hSw); have hS := hSw; have g0 : ww.cell? ⟨pb, 0, none⟩ = some (.int .i64 0) := cellP hS.row 0 _ rfl; have g1 : ww.cell? ⟨pb, 1, none⟩ = some (.int .i64 0) := cellP hS.row 1 _ rfl; have g2 : ww.cell? ⟨pb, 2, none⟩ = some (.int .i64 0) := cellP hS.row 2 _ rfl; have g3 : ww.cell? ⟨pb, 3, none⟩ = some (.int .i64 0) := cellP hS.row 3 _ rfl; have g4 : ww.cell? ⟨pb, 4, none⟩ = some (.int .i64 0) := cellP hS.row 4 _ rfl; have g5 : ww.cell? ⟨pb, 5, none⟩ = some (.int .i64 0) := cellP hS.row 5 _ rfl; go_simp; try with_reducible rfl)
    refine tkW 22 (some 53) (v := ?_) ?_ hHeld ?_
    rotate_left
    · (intro ww _; go_simp; try with_reducible rfl)
    refine tkW 23 (some 54) (v := ?_) ?_ hHeld ?_
    rotate_left
    · (intro ww _; go_simp; try with_reducible rfl)
    refine wpAnyH_done (by kernel_rfl) ?_ _
    clear hHeld
    go_wp2_with fail
    obtain ⟨w7, ew7⟩ : ∃ X, X = Ua1u0 := ⟨_, rfl⟩
    rw [← ew7] at HN ⊢
    clear ew7
    refine wp_region_held_drew (S := fun W' => AsS W0 tb F (.slice a1 L.length c1) L bx s (.slice at0 (doneT L).length ct0) pb (.cells #[.int .i64 0, .int .i64 0, .int .i64 0, .int .i64 0, .int .i64 0, .int .i64 0] 43) W') (by kernel_rfl) HN.out.drew (fun hHeld => ?_)
    obtain ⟨Ub2u0, eW⟩ : ∃ X, X = w7.drew := ⟨_, rfl⟩
    have hb : Below w7.heap.size w7 Ub2u0 := by rw [eW]; exact (Below.refl _ _).drew
    replace HN : Hid (AsS W0 tb F (.slice a1 L.length c1) L bx s (.slice at0 (doneT L).length ct0) pb (.cells #[.int .i64 0, .int .i64 0, .int .i64 0, .int .i64 0, .int .i64 0, .int .i64 0] 43) Ub2u0) := HN.out.below hb
    rw [← eW] at hHeld ⊢
    clear eW hb
    refine tkW 0 (some 55) (v := ?_) ?_ hHeld ?_
    rotate_left
    · (intro ww _; go_simp; try with_reducible rfl)
    refine tkW 1 (some 56) (v := ?_) ?_ hHeld ?_
    rotate_left
    · (intro ww hSw; (try dsimp only at hSw); have hS := hSw; have b0 := hS.b0; have b1 := hS.b1; go_simp; try with_reducible rfl)
    refine tkW 3 (some 58) (v := ?_) ?_ hHeld ?_
    rotate_left
    · (intro ww _; go_simp; try with_reducible rfl)
    refine tkW 4 (some 59) (v := ?_) ?_ hHeld ?_
    rotate_left
    · (intro ww hSw; (try dsimp only at hSw); have hS := hSw; have b0 := hS.b0; have b1 := hS.b1; go_simp; try with_reducible rfl)
    refine wpAnyH_ready (rs := [2]) (by kernel_rfl) (by simp) ?_
    refine AllReadyH.cons (o := ⟨some 57, _, _, _, _, _⟩) rfl (fun K hK => ?_) AllReadyH.nil
    go_simp
    refine (above_any F (.pointer (some ⟨tb, 0, none⟩)) L s _ HN.out.md.tv HN.out.md.tr.lt).mono ?_
    rintro e Ub2u1 ⟨v2, rfl, ho, ha⟩
    (try go_wp2_with fail)
    replace HN : Hid (AsS W0 tb F (.slice a1 L.length c1) L bx s (.slice at0 (doneT L).length ct0) pb (.cells #[.int .i64 0, .int .i64 0, .int .i64 0, .int .i64 0, .int .i64 0, .int .i64 0] 43) Ub2u1) := HN.out.asked ha
    have HA : Hid (S.IsS Ub2u1 v2 (upL (doneT L) s)) := ho.stS.isS HUl.out
    clear ho ha
    refine hK.out _ _ (HN.out) (fun hHeld2 => ?_)
    clear hK K hHeld
    have hHeld := hHeld2
    clear hHeld2
    (try simp only [Act.put, List.setIfInBounds_toArray, List.set_cons_zero, List.set_cons_succ])
    refine wpAnyH_ready (rs := [5]) (by kernel_rfl) (by simp) ?_
    refine AllReadyH.cons (o := ⟨some 60, _, _, _, _, _⟩) rfl (fun K hK => ?_) AllReadyH.nil
    go_simp
    refine (refAbove_any (fun j => ¬ F j) (.slice at0 (doneT L).length ct0) (doneT L) s _ HN.out.tree (goodT L) (by have := HTl.out; omega)).mono ?_
    rintro e Ub2u2 ⟨v5, rfl, ho, hb⟩
    (try go_wp2_with fail)
    replace HN : Hid (AsS W0 tb F (.slice a1 L.length c1) L bx s (.slice at0 (doneT L).length ct0) pb (.cells #[.int .i64 0, .int .i64 0, .int .i64 0, .int .i64 0, .int .i64 0, .int .i64 0] 43) Ub2u2) := HN.out.below hb
    replace HA : Hid (S.IsS Ub2u2 v2 (upL (doneT L) s)) := HA.out.below hb
    have HB : Hid (S.IsS Ub2u2 v5 (upL (doneT L) s)) := ho.stS.isS HUl.out
    clear ho hb
    refine hK.out _ _ (HN.out) (fun hHeld2 => ?_)
    clear hK K hHeld
    have hHeld := hHeld2
    clear hHeld2
    (try simp only [Act.put, List.setIfInBounds_toArray, List.set_cons_zero, List.set_cons_succ])
    refine wpAnyH_ready (rs := [6]) (by kernel_rfl) (by simp) ?_
    refine AllReadyH.cons (o := ⟨some 61, _, _, _, _, _⟩) rfl (fun K hK => ?_) AllReadyH.nil
    go_simp
    refine (S.same_any _ _ (upL (doneT L) s) (upL (doneT L) s) _ HA.out HB.out).mono ?_
    rintro e Ub2u3 ⟨he, hb⟩
    rw [decide_eq_true rfl] at he
    subst he
    (try go_wp2_with fail)
    replace HN : Hid (AsS W0 tb F (.slice a1 L.length c1) L bx s (.slice at0 (doneT L).length ct0) pb (.cells #[.int .i64 0, .int .i64 0, .int .i64 0, .int .i64 0, .int .i64 0, .int .i64 0] 43) Ub2u3) := HN.out.below hb
    clear hb HA HB
    refine hK.out _ _ (HN.out) (fun hHeld2 => ?_)
    clear hK K hHeld
    have hHeld := hHeld2
    clear hHeld2
    (try simp only [Act.put, List.setIfInBounds_toArray, List.set_cons_zero, List.set_cons_succ])
    refine tkW 7 (some 62) (v := ?_) ?_ hHeld ?_
    rotate_left
    · (intro ww _; go_simp; try with_reducible rfl)
    refine tkW 8 (some 63) (v := ?_) ?_ hHeld ?_
    rotate_left
    · (intro ww _; go_simp; try with_reducible rfl)
    refine tkW 9 (some 64) (v := ?_) ?_ hHeld ?_
    rotate_left
    · (intro ww hSw; (try dsimp only at hSw); have hS := hSw; have b0 := hS.b0; have b1 := hS.b1; go_simp; try with_reducible rfl)
    refine tkW 11 (some 66) (v := ?_) ?_ hHeld ?_
    rotate_left
    · (intro ww _; go_simp; try with_reducible rfl)
    refine tkW 12 (some 67) (v := ?_) ?_ hHeld ?_
    rotate_left
    · (intro ww hSw; (try dsimp only at hSw); have hS := hSw; have b0 := hS.b0; have b1 := hS.b1; go_simp; try with_reducible rfl)
    refine wpAnyH_ready (rs := [10]) (by kernel_rfl) (by simp) ?_
    refine AllReadyH.cons (o := ⟨some 65, _, _, _, _, _⟩) rfl (fun K hK => ?_) AllReadyH.nil
    go_simp
    refine (kids_any F (.pointer (some ⟨tb, 0, none⟩)) L s _ HN.out.md.tv HN.out.md.tr.lt).mono ?_
    rintro e Ub2u4 ⟨v8, rfl, ho, ha⟩
    (try go_wp2_with fail)
    replace HN : Hid (AsS W0 tb F (.slice a1 L.length c1) L bx s (.slice at0 (doneT L).length ct0) pb (.cells #[.int .i64 0, .int .i64 0, .int .i64 0, .int .i64 0, .int .i64 0, .int .i64 0] 43) Ub2u4) := HN.out.asked ha
    have HC : Hid (S.IsS Ub2u4 v8 (kidsL (doneT L) s)) := ho.stS.isS HKl.out
    clear ho ha
    refine hK.out _ _ (HN.out) (fun hHeld2 => ?_)
    clear hK K hHeld
    have hHeld := hHeld2
    clear hHeld2
    (try simp only [Act.put, List.setIfInBounds_toArray, List.set_cons_zero, List.set_cons_succ])
    refine wpAnyH_ready (rs := [13]) (by kernel_rfl) (by simp) ?_
    refine AllReadyH.cons (o := ⟨some 68, _, _, _, _, _⟩) rfl (fun K hK => ?_) AllReadyH.nil
    go_simp
    refine (refKids_any (fun j => ¬ F j) (.slice at0 (doneT L).length ct0) (doneT L) s _ HN.out.tree (by have := HTl.out; omega)).mono ?_
    rintro e Ub2u5 ⟨v9, rfl, ho, hb⟩
    (try go_wp2_with fail)
    replace HN : Hid (AsS W0 tb F (.slice a1 L.length c1) L bx s (.slice at0 (doneT L).length ct0) pb (.cells #[.int .i64 0, .int .i64 0, .int .i64 0, .int .i64 0, .int .i64 0, .int .i64 0] 43) Ub2u5) := HN.out.below hb
    replace HC : Hid (S.IsS Ub2u5 v8 (kidsL (doneT L) s)) := HC.out.below hb
    have HD : Hid (S.IsS Ub2u5 v9 (kidsL (doneT L) s)) := ho.stS.isS HKl.out
    clear ho hb
    refine hK.out _ _ (HN.out) (fun hHeld2 => ?_)
    clear hK K hHeld
    have hHeld := hHeld2
    clear hHeld2
    (try simp only [Act.put, List.setIfInBounds_toArray, List.set_cons_zero, List.set_cons_succ])
    refine wpAnyH_ready (rs := [14]) (by kernel_rfl) (by simp) ?_
    refine AllReadyH.cons (o := ⟨some 69, _, _, _, _, _⟩) rfl (fun K hK => ?_) AllReadyH.nil
    go_simp
    refine (S.same_any _ _ (kidsL (doneT L) s) (kidsL (doneT L) s) _ HC.out HD.out).mono ?_
    rintro e Ub2u6 ⟨he, hb⟩
    rw [decide_eq_true rfl] at he
    subst he
    (try go_wp2_with fail)
    replace HN : Hid (AsS W0 tb F (.slice a1 L.length c1) L bx s (.slice at0 (doneT L).length ct0) pb (.cells #[.int .i64 0, .int .i64 0, .int .i64 0, .int .i64 0, .int .i64 0, .int .i64 0] 43) Ub2u6) := HN.out.below hb
    clear hb HC HD
    refine hK.out _ _ (HN.out) (fun hHeld2 => ?_)
    clear hK K hHeld
    have hHeld := hHeld2
    clear hHeld2
    (try simp only [Act.put, List.setIfInBounds_toArray, List.set_cons_zero, List.set_cons_succ])
    refine tkW 15 (some 70) (v := ?_) ?_ hHeld ?_
    rotate_left
    · (intro ww _; go_simp; try with_reducible rfl)
    refine tkW 16 (some 71) (v := ?_) ?_ hHeld ?_
    rotate_left
    · (intro ww _; go_simp; try with_reducible rfl)
    refine wpAnyH_ready (rs := [17]) (by kernel_rfl) (by simp) ?_
    refine AllReadyH.cons (o := ⟨some 72, _, _, _, _, _⟩) rfl (fun K hK => ?_) AllReadyH.nil
    go_simp
    refine (awake_any _).mono ?_
    rintro e Ub2u7 ⟨rfl, hb⟩
    (try go_wp2_with fail)
    replace HN : Hid (AsS W0 tb F (.slice a1 L.length c1) L bx s (.slice at0 (doneT L).length ct0) pb (.cells #[.int .i64 0, .int .i64 0, .int .i64 0, .int .i64 0, .int .i64 0, .int .i64 0] 43) Ub2u7) := HN.out.below hb
    clear hb
    refine hK.out _ _ (HN.out) (fun hHeld2 => ?_)
    clear hK K hHeld
    have hHeld := hHeld2
    clear hHeld2
    (try simp only [Act.put, List.setIfInBounds_toArray, List.set_cons_zero, List.set_cons_succ])
    refine tkW 18 (some 73) (v := ?_) ?_ hHeld ?_
    rotate_left
    · (intro ww _; go_simp; try with_reducible rfl)
    refine tkW 19 (some 4) (v := ?_) ?_ hHeld ?_
    rotate_left
    · (intro ww _; go_simp; try with_reducible rfl)
    refine wpAnyH_done (by kernel_rfl) ?_ _
    clear hHeld
    go_wp2
    go_ret
    exact ⟨rfl, HBe.out.trans (HN.out.md.bel.mono HBe.out.size)⟩
  | some p =>
    have HWh : Hid (whT (doneT L) s = some p) := hwh
    clear hwh
    go_wp2_with fail
    clear b0 b1
    refine (where_any F (.pointer (some ⟨tb, 0, none⟩)) L s _ HN.out.md.tv HN.out.md.tr.lt).mono ?_
    rintro e w3 ⟨he, ha⟩
    rw [HWh.out] at he
    have he2 : e = .returned (.tuple #[.agg #[.int .i64 p.nd.1, .int .i64 p.nd.2, .int .i64 p.pr.1, .int .i64 p.pr.2, .int .i64 p.sl.1, .int .i64 p.sl.2], .bool true]) := he
    subst he2
    clear he
    obtain ⟨w4, ew4⟩ : ∃ X, X = w3.alloc (.cells #[.int .i64 p.nd.1, .int .i64 p.nd.2, .int .i64 p.pr.1, .int .i64 p.pr.2, .int .i64 p.sl.1, .int .i64 p.sl.2] 43) := ⟨_, rfl⟩
    obtain ⟨pb, epb⟩ : ∃ b, b = w3.heap.size := ⟨_, rfl⟩
    have hb4 : Below w3.heap.size w3 w4 := by rw [ew4]; exact (Below.refl _ _).alloc (Nat.le_refl _) _
    have hN4 := ((HN.out.asked ha).below hb4).swap (xb2 := pb) (xo2 := .cells #[.int .i64 p.nd.1, .int .i64 p.nd.2, .int .i64 p.pr.1, .int .i64 p.pr.2, .int .i64 p.sl.1, .int .i64 p.sl.2] 43) (by (rw [epb, ew4]; exact heap_alloc_new _ _)) (fun hk => by have h1 := (HN.out.asked ha).md.tr.lt _ hk; omega)
    replace HN : Hid (AsS W0 tb F (.slice a1 L.length c1) L bx s (.slice at0 (doneT L).length ct0) pb (.cells #[.int .i64 p.nd.1, .int .i64 p.nd.2, .int .i64 p.pr.1, .int .i64 p.pr.2, .int .i64 p.sl.1, .int .i64 p.sl.2] 43) w4) := hN4
    have HeW : Hid (w4 = w3.alloc (.cells #[.int .i64 p.nd.1, .int .i64 p.nd.2, .int .i64 p.pr.1, .int .i64 p.pr.2, .int .i64 p.sl.1, .int .i64 p.sl.2] 43)) := ew4
    have HeP : Hid (pb = w3.heap.size) := epb
    have b0 := HN.out.b0
    have b1 := HN.out.b1
    rw [ew4] at b0 b1
    clear hN4 hb4 ew4 epb ha
    go_wp2_with fail
    rw [← HeW.out, ← HeP.out]
    clear HeW HeP b0 b1
    refine (refWhere_any (fun j => ¬ F j) (.slice at0 (doneT L).length ct0) (doneT L) s _ HN.out.tree (goodT L).srt).mono ?_
    rintro e w5 ⟨z, rfl, hz, hb⟩
    replace HN : Hid (AsS W0 tb F (.slice a1 L.length c1) L bx s (.slice at0 (doneT L).length ct0) pb (.cells #[.int .i64 p.nd.1, .int .i64 p.nd.2, .int .i64 p.pr.1, .int .i64 p.pr.2, .int .i64 p.sl.1, .int .i64 p.sl.2] 43) w5) := HN.out.below hb
    clear hb
    obtain ⟨q, rfl, hq⟩ : ∃ q : Nat, z = (q : Int) ∧ (doneT L)[q]? = some p := hz.elim (fun h => by have h9 := h.2; rw [HWh.out] at h9; cases h9) (fun ⟨q, p2, h7, h8, h9⟩ => by rw [HWh.out] at h9; cases h9; exact ⟨q, h7, h8⟩)
    have hql := (List.getElem?_eq_some_iff.1 hq).1
    obtain ⟨b, o, c2, ev, hR⟩ := HN.out.tree.rwA (i := q) hql
    injection ev with ev1 ev2 ev3
    subst ev1
    subst ev3
    clear ev2
    have HR : Hid (RwA plCells 6 F b o (doneT L) w5) := hR
    have HQ : Hid ((doneT L)[q]? = some p) := hq
    have q1 : (q : Int) < ((doneT L).length : Int) := by omega
    have q0 : (0 : Int) ≤ (q : Int) := by omega
    clear hz hq hR
    go_wp2_with fail
    refine wp_region_held_drew (S := fun W' => AsS W0 tb F (.slice a1 L.length c1) L bx s (.slice (some ⟨b, o, none⟩) (doneT L).length ct0) pb (.cells #[.int .i64 p.nd.1, .int .i64 p.nd.2, .int .i64 p.pr.1, .int .i64 p.pr.2, .int .i64 p.sl.1, .int .i64 p.sl.2] 43) W' ∧ RwA plCells 6 F b o (doneT L) W') (by kernel_rfl) ⟨HN.out.drew, HR.out.below (Below.refl _ _).drew⟩ (fun hHeld => ?_)
    obtain ⟨Ua3u0, eW⟩ : ∃ X, X = w5.drew := ⟨_, rfl⟩
    have hb : Below w5.heap.size w5 Ua3u0 := by rw [eW]; exact (Below.refl _ _).drew
    replace HN : Hid (AsS W0 tb F (.slice a1 L.length c1) L bx s (.slice (some ⟨b, o, none⟩) (doneT L).length ct0) pb (.cells #[.int .i64 p.nd.1, .int .i64 p.nd.2, .int .i64 p.pr.1, .int .i64 p.pr.2, .int .i64 p.sl.1, .int .i64 p.sl.2] 43) Ua3u0) := HN.out.below hb
    replace HR : Hid (RwA plCells 6 F b o (doneT L) Ua3u0) := HR.out.below hb
    rw [← eW] at hHeld ⊢
    clear eW hb
    refine tkW 0 (some 31) (v := ?_) ?_ hHeld ?_
    rotate_left
    · (intro ww _; go_simp; try with_reducible rfl)
    refine tkW 1 (some 32) (v := ?_) ?_ hHeld ?_
    rotate_left
    · (intro ww _; go_simp; try with_reducible rfl)
    refine tkW 2 (some 33) (v := .bool true) ?_ hHeld ?_
    · (intro ww hSw; (try dsimp only at hSw); obtain ⟨hS, hQ⟩ := hSw; have g0 : ww.cell? ⟨pb, 0, none⟩ = some (.int .i64 p.nd.1) := cellP hS.row 0 _ rfl; have g1 : ww.cell? ⟨pb, 1, none⟩ = some (.int .i64 p.nd.2) := cellP hS.row 1 _ rfl; have g2 : ww.cell? ⟨pb, 2, none⟩ = some (.int .i64 p.pr.1) := cellP hS.row 2 _ rfl; have g3 : ww.cell? ⟨pb, 3, none⟩ = some (.int .i64 p.pr.2) := cellP hS.row 3 _ rfl; have g4 : ww.cell? ⟨pb, 4, none⟩ = some (.int .i64 p.sl.1) := cellP hS.row 4 _ rfl; have g5 : ww.cell? ⟨pb, 5, none⟩ = some (.int .i64 p.sl.2) := cellP hS.row 5 _ rfl; have r0 : ww.cell? ⟨b, o + q * 6, none⟩ = some (.int .i64 p.nd.1) := hQ.at HQ.out 0 _ rfl; have r1 : ww.cell? ⟨b, o + q * 6 + 1, none⟩ = some (.int .i64 p.nd.2) := hQ.at HQ.out 1 _ rfl; have r2 : ww.cell? ⟨b, o + q * 6 + 2, none⟩ = some (.int .i64 p.pr.1) := hQ.at HQ.out 2 _ rfl; have r3 : ww.cell? ⟨b, o + q * 6 + 3, none⟩ = some (.int .i64 p.pr.2) := hQ.at HQ.out 3 _ rfl; have r4 : ww.cell? ⟨b, o + q * 6 + 4, none⟩ = some (.int .i64 p.sl.1) := hQ.at HQ.out 4 _ rfl; have r5 : ww.cell? ⟨b, o + q * 6 + 5, none⟩ = some (.int .i64 p.sl.2) := hQ.at HQ.out 5 _ rfl; go_simp; (try simp); (try omega))
    refine tkW 3 (some 34) (v := .bool false) ?_ hHeld ?_
    · (intro ww hSw; (try dsimp only at hSw); obtain ⟨hS, hQ⟩ := hSw; have g0 : ww.cell? ⟨pb, 0, none⟩ = some (.int .i64 p.nd.1) := cellP hS.row 0 _ rfl; have g1 : ww.cell? ⟨pb, 1, none⟩ = some (.int .i64 p.nd.2) := cellP hS.row 1 _ rfl; have g2 : ww.cell? ⟨pb, 2, none⟩ = some (.int .i64 p.pr.1) := cellP hS.row 2 _ rfl; have g3 : ww.cell? ⟨pb, 3, none⟩ = some (.int .i64 p.pr.2) := cellP hS.row 3 _ rfl; have g4 : ww.cell? ⟨pb, 4, none⟩ = some (.int .i64 p.sl.1) := cellP hS.row 4 _ rfl; have g5 : ww.cell? ⟨pb, 5, none⟩ = some (.int .i64 p.sl.2) := cellP hS.row 5 _ rfl; have r0 : ww.cell? ⟨b, o + q * 6, none⟩ = some (.int .i64 p.nd.1) := hQ.at HQ.out 0 _ rfl; have r1 : ww.cell? ⟨b, o + q * 6 + 1, none⟩ = some (.int .i64 p.nd.2) := hQ.at HQ.out 1 _ rfl; have r2 : ww.cell? ⟨b, o + q * 6 + 2, none⟩ = some (.int .i64 p.pr.1) := hQ.at HQ.out 2 _ rfl; have r3 : ww.cell? ⟨b, o + q * 6 + 3, none⟩ = some (.int .i64 p.pr.2) := hQ.at HQ.out 3 _ rfl; have r4 : ww.cell? ⟨b, o + q * 6 + 4, none⟩ = some (.int .i64 p.sl.1) := hQ.at HQ.out 4 _ rfl; have r5 : ww.cell? ⟨b, o + q * 6 + 5, none⟩ = some (.int .i64 p.sl.2) := hQ.at HQ.out 5 _ rfl; go_simp; (try simp); (try omega))
    refine tkW 4 (some 35) (v := ?_) ?_ hHeld ?_
    rotate_left
    · (intro ww _; go_simp; try with_reducible rfl)
    refine tkW 5 (some 36) (v := ?_) ?_ hHeld ?_
    rotate_left
    · (intro ww _; go_simp; try with_reducible rfl)
    refine tkW 6 (some 37) (v := ?_) ?_ hHeld ?_
    rotate_left
    · (intro ww _; go_simp; try with_reducible rfl)
    refine tkW 7 (some 38) (v := ?_) ?_ hHeld ?_
    rotate_left
    · (intro ww hSw; (try dsimp only at hSw); obtain ⟨hS, hQ⟩ := hSw; have g0 : ww.cell? ⟨pb, 0, none⟩ = some (.int .i64 p.nd.1) := cellP hS.row 0 _ rfl; have g1 : ww.cell? ⟨pb, 1, none⟩ = some (.int .i64 p.nd.2) := cellP hS.row 1 _ rfl; have g2 : ww.cell? ⟨pb, 2, none⟩ = some (.int .i64 p.pr.1) := cellP hS.row 2 _ rfl; have g3 : ww.cell? ⟨pb, 3, none⟩ = some (.int .i64 p.pr.2) := cellP hS.row 3 _ rfl; have g4 : ww.cell? ⟨pb, 4, none⟩ = some (.int .i64 p.sl.1) := cellP hS.row 4 _ rfl; have g5 : ww.cell? ⟨pb, 5, none⟩ = some (.int .i64 p.sl.2) := cellP hS.row 5 _ rfl; have r0 : ww.cell? ⟨b, o + q * 6, none⟩ = some (.int .i64 p.nd.1) := hQ.at HQ.out 0 _ rfl; have r1 : ww.cell? ⟨b, o + q * 6 + 1, none⟩ = some (.int .i64 p.nd.2) := hQ.at HQ.out 1 _ rfl; have r2 : ww.cell? ⟨b, o + q * 6 + 2, none⟩ = some (.int .i64 p.pr.1) := hQ.at HQ.out 2 _ rfl; have r3 : ww.cell? ⟨b, o + q * 6 + 3, none⟩ = some (.int .i64 p.pr.2) := hQ.at HQ.out 3 _ rfl; have r4 : ww.cell? ⟨b, o + q * 6 + 4, none⟩ = some (.int .i64 p.sl.1) := hQ.at HQ.out 4 _ rfl; have r5 : ww.cell? ⟨b, o + q * 6 + 5, none⟩ = some (.int .i64 p.sl.2) := hQ.at HQ.out 5 _ rfl; go_simp; try with_reducible rfl)
    refine tkW 8 (some 39) (v := ?_) ?_ hHeld ?_
    rotate_left
    · (intro ww _; go_simp; try with_reducible rfl)
    refine tkW 9 (some 40) (v := ?_) ?_ hHeld ?_
    rotate_left
    · (intro ww _; go_simp; try with_reducible rfl)
    refine tkW 10 (some 41) (v := ?_) ?_ hHeld ?_
    rotate_left
    · (intro ww hSw; (try dsimp only at hSw); obtain ⟨hS, hQ⟩ := hSw; have g0 : ww.cell? ⟨pb, 0, none⟩ = some (.int .i64 p.nd.1) := cellP hS.row 0 _ rfl; have g1 : ww.cell? ⟨pb, 1, none⟩ = some (.int .i64 p.nd.2) := cellP hS.row 1 _ rfl; have g2 : ww.cell? ⟨pb, 2, none⟩ = some (.int .i64 p.pr.1) := cellP hS.row 2 _ rfl; have g3 : ww.cell? ⟨pb, 3, none⟩ = some (.int .i64 p.pr.2) := cellP hS.row 3 _ rfl; have g4 : ww.cell? ⟨pb, 4, none⟩ = some (.int .i64 p.sl.1) := cellP hS.row 4 _ rfl; have g5 : ww.cell? ⟨pb, 5, none⟩ = some (.int .i64 p.sl.2) := cellP hS.row 5 _ rfl; have r0 : ww.cell? ⟨b, o + q * 6, none⟩ = some (.int .i64 p.nd.1) := hQ.at HQ.out 0 _ rfl; have r1 : ww.cell? ⟨b, o + q * 6 + 1, none⟩ = some (.int .i64 p.nd.2) := hQ.at HQ.out 1 _ rfl; have r2 : ww.cell? ⟨b, o + q * 6 + 2, none⟩ = some (.int .i64 p.pr.1) := hQ.at HQ.out 2 _ rfl; have r3 : ww.cell? ⟨b, o + q * 6 + 3, none⟩ = some (.int .i64 p.pr.2) := hQ.at HQ.out 3 _ rfl; have r4 : ww.cell? ⟨b, o + q * 6 + 4, none⟩ = some (.int .i64 p.sl.1) := hQ.at HQ.out 4 _ rfl; have r5 : ww.cell? ⟨b, o + q * 6 + 5, none⟩ = some (.int .i64 p.sl.2) := hQ.at HQ.out 5 _ rfl; go_simp; try with_reducible rfl)
    refine tkW 11 (some 42) (v := ?_) ?_ hHeld ?_
    rotate_left
    · (intro ww hSw; (try dsimp only at hSw); obtain ⟨hS, hQ⟩ := hSw; have g0 : ww.cell? ⟨pb, 0, none⟩ = some (.int .i64 p.nd.1) := cellP hS.row 0 _ rfl; have g1 : ww.cell? ⟨pb, 1, none⟩ = some (.int .i64 p.nd.2) := cellP hS.row 1 _ rfl; have g2 : ww.cell? ⟨pb, 2, none⟩ = some (.int .i64 p.pr.1) := cellP hS.row 2 _ rfl; have g3 : ww.cell? ⟨pb, 3, none⟩ = some (.int .i64 p.pr.2) := cellP hS.row 3 _ rfl; have g4 : ww.cell? ⟨pb, 4, none⟩ = some (.int .i64 p.sl.1) := cellP hS.row 4 _ rfl; have g5 : ww.cell? ⟨pb, 5, none⟩ = some (.int .i64 p.sl.2) := cellP hS.row 5 _ rfl; have r0 : ww.cell? ⟨b, o + q * 6, none⟩ = some (.int .i64 p.nd.1) := hQ.at HQ.out 0 _ rfl; have r1 : ww.cell? ⟨b, o + q * 6 + 1, none⟩ = some (.int .i64 p.nd.2) := hQ.at HQ.out 1 _ rfl; have r2 : ww.cell? ⟨b, o + q * 6 + 2, none⟩ = some (.int .i64 p.pr.1) := hQ.at HQ.out 2 _ rfl; have r3 : ww.cell? ⟨b, o + q * 6 + 3, none⟩ = some (.int .i64 p.pr.2) := hQ.at HQ.out 3 _ rfl; have r4 : ww.cell? ⟨b, o + q * 6 + 4, none⟩ = some (.int .i64 p.sl.1) := hQ.at HQ.out 4 _ rfl; have r5 : ww.cell? ⟨b, o + q * 6 + 5, none⟩ = some (.int .i64 p.sl.2) := hQ.at HQ.out 5 _ rfl; go_simp; try with_reducible rfl)
    refine tkW 12 (some 43) (v := .bool false) ?_ hHeld ?_
    · (intro ww hSw; (try dsimp only at hSw); obtain ⟨hS, hQ⟩ := hSw; have g0 : ww.cell? ⟨pb, 0, none⟩ = some (.int .i64 p.nd.1) := cellP hS.row 0 _ rfl; have g1 : ww.cell? ⟨pb, 1, none⟩ = some (.int .i64 p.nd.2) := cellP hS.row 1 _ rfl; have g2 : ww.cell? ⟨pb, 2, none⟩ = some (.int .i64 p.pr.1) := cellP hS.row 2 _ rfl; have g3 : ww.cell? ⟨pb, 3, none⟩ = some (.int .i64 p.pr.2) := cellP hS.row 3 _ rfl; have g4 : ww.cell? ⟨pb, 4, none⟩ = some (.int .i64 p.sl.1) := cellP hS.row 4 _ rfl; have g5 : ww.cell? ⟨pb, 5, none⟩ = some (.int .i64 p.sl.2) := cellP hS.row 5 _ rfl; have r0 : ww.cell? ⟨b, o + q * 6, none⟩ = some (.int .i64 p.nd.1) := hQ.at HQ.out 0 _ rfl; have r1 : ww.cell? ⟨b, o + q * 6 + 1, none⟩ = some (.int .i64 p.nd.2) := hQ.at HQ.out 1 _ rfl; have r2 : ww.cell? ⟨b, o + q * 6 + 2, none⟩ = some (.int .i64 p.pr.1) := hQ.at HQ.out 2 _ rfl; have r3 : ww.cell? ⟨b, o + q * 6 + 3, none⟩ = some (.int .i64 p.pr.2) := hQ.at HQ.out 3 _ rfl; have r4 : ww.cell? ⟨b, o + q * 6 + 4, none⟩ = some (.int .i64 p.sl.1) := hQ.at HQ.out 4 _ rfl; have r5 : ww.cell? ⟨b, o + q * 6 + 5, none⟩ = some (.int .i64 p.sl.2) := hQ.at HQ.out 5 _ rfl; go_simp; try with_reducible rfl)
    refine tkW 13 (some 44) (v := ?_) ?_ hHeld ?_
    rotate_left
    · (intro ww _; go_simp; try with_reducible rfl)
    refine tkW 14 (some 45) (v := ?_) ?_ hHeld ?_
    rotate_left
    · (intro ww _; go_simp; try with_reducible rfl)
    refine tkW 15 (some 46) (v := ?_) ?_ hHeld ?_
    rotate_left
    · (intro ww _; go_simp; try with_reducible rfl)
    refine tkW 16 (some 47) (v := ?_) ?_ hHeld ?_
    rotate_left
    · (intro ww _; go_simp; try with_reducible rfl)
    refine tkW 17 (some 48) (v := ?_) ?_ hHeld ?_
    rotate_left
    · (intro ww _; go_simp; try with_reducible rfl)
    refine tkW 18 (some 49) (v := ?_) ?_ hHeld ?_
    rotate_left
    · (intro ww _; go_simp; try with_reducible rfl)
    refine tkU 19 (some 50) hHeld ?_
    refine tkU 20 (some 51) hHeld ?_
    refine tkU 21 (some 52) hHeld ?_
    refine tkW 22 (some 53) (v := ?_) ?_ hHeld ?_
    rotate_left
    · (intro ww _; go_simp; try with_reducible rfl)
    refine tkW 23 (some 54) (v := ?_) ?_ hHeld ?_
    rotate_left
    · (intro ww _; go_simp; try with_reducible rfl)
    refine wpAnyH_done (by kernel_rfl) ?_ _
    clear hHeld HR
    go_wp2_with fail
    obtain ⟨w7, ew7⟩ : ∃ X, X = Ua3u0 := ⟨_, rfl⟩
    rw [← ew7] at HN ⊢
    clear ew7
    refine wp_region_held_drew (S := fun W' => AsS W0 tb F (.slice a1 L.length c1) L bx s (.slice (some ⟨b, o, none⟩) (doneT L).length ct0) pb (.cells #[.int .i64 p.nd.1, .int .i64 p.nd.2, .int .i64 p.pr.1, .int .i64 p.pr.2, .int .i64 p.sl.1, .int .i64 p.sl.2] 43) W') (by kernel_rfl) HN.out.drew (fun hHeld => ?_)
    obtain ⟨Ub4u0, eW⟩ : ∃ X, X = w7.drew := ⟨_, rfl⟩
    have hb : Below w7.heap.size w7 Ub4u0 := by rw [eW]; exact (Below.refl _ _).drew
    replace HN : Hid (AsS W0 tb F (.slice a1 L.length c1) L bx s (.slice (some ⟨b, o, none⟩) (doneT L).length ct0) pb (.cells #[.int .i64 p.nd.1, .int .i64 p.nd.2, .int .i64 p.pr.1, .int .i64 p.pr.2, .int .i64 p.sl.1, .int .i64 p.sl.2] 43) Ub4u0) := HN.out.below hb
    rw [← eW] at hHeld ⊢
    clear eW hb
    refine tkW 0 (some 55) (v := ?_) ?_ hHeld ?_
    rotate_left
    · (intro ww _; go_simp; try with_reducible rfl)
    refine tkW 1 (some 56) (v := ?_) ?_ hHeld ?_
    rotate_left
    · (intro ww hSw; (try dsimp only at hSw); have hS := hSw; have b0 := hS.b0; have b1 := hS.b1; go_simp; try with_reducible rfl)
    refine tkW 3 (some 58) (v := ?_) ?_ hHeld ?_
    rotate_left
    · (intro ww _; go_simp; try with_reducible rfl)
    refine tkW 4 (some 59) (v := ?_) ?_ hHeld ?_
    rotate_left
    · (intro ww hSw; (try dsimp only at hSw); have hS := hSw; have b0 := hS.b0; have b1 := hS.b1; go_simp; try with_reducible rfl)
    refine wpAnyH_ready (rs := [2]) (by kernel_rfl) (by simp) ?_
    refine AllReadyH.cons (o := ⟨some 57, _, _, _, _, _⟩) rfl (fun K hK => ?_) AllReadyH.nil
    go_simp
    refine (above_any F (.pointer (some ⟨tb, 0, none⟩)) L s _ HN.out.md.tv HN.out.md.tr.lt).mono ?_
    rintro e Ub4u1 ⟨v2, rfl, ho, ha⟩
    (try go_wp2_with fail)
    replace HN : Hid (AsS W0 tb F (.slice a1 L.length c1) L bx s (.slice (some ⟨b, o, none⟩) (doneT L).length ct0) pb (.cells #[.int .i64 p.nd.1, .int .i64 p.nd.2, .int .i64 p.pr.1, .int .i64 p.pr.2, .int .i64 p.sl.1, .int .i64 p.sl.2] 43) Ub4u1) := HN.out.asked ha
    have HA : Hid (S.IsS Ub4u1 v2 (upL (doneT L) s)) := ho.stS.isS HUl.out
    clear ho ha
    refine hK.out _ _ (HN.out) (fun hHeld2 => ?_)
    clear hK K hHeld
    have hHeld := hHeld2
    clear hHeld2
    (try simp only [Act.put, List.setIfInBounds_toArray, List.set_cons_zero, List.set_cons_succ])
    refine wpAnyH_ready (rs := [5]) (by kernel_rfl) (by simp) ?_
    refine AllReadyH.cons (o := ⟨some 60, _, _, _, _, _⟩) rfl (fun K hK => ?_) AllReadyH.nil
    go_simp
    refine (refAbove_any (fun j => ¬ F j) (.slice (some ⟨b, o, none⟩) (doneT L).length ct0) (doneT L) s _ HN.out.tree (goodT L) (by have := HTl.out; omega)).mono ?_
    rintro e Ub4u2 ⟨v5, rfl, ho, hb⟩
    (try go_wp2_with fail)
    replace HN : Hid (AsS W0 tb F (.slice a1 L.length c1) L bx s (.slice (some ⟨b, o, none⟩) (doneT L).length ct0) pb (.cells #[.int .i64 p.nd.1, .int .i64 p.nd.2, .int .i64 p.pr.1, .int .i64 p.pr.2, .int .i64 p.sl.1, .int .i64 p.sl.2] 43) Ub4u2) := HN.out.below hb
    replace HA : Hid (S.IsS Ub4u2 v2 (upL (doneT L) s)) := HA.out.below hb
    have HB : Hid (S.IsS Ub4u2 v5 (upL (doneT L) s)) := ho.stS.isS HUl.out
    clear ho hb
    refine hK.out _ _ (HN.out) (fun hHeld2 => ?_)
    clear hK K hHeld
    have hHeld := hHeld2
    clear hHeld2
    (try simp only [Act.put, List.setIfInBounds_toArray, List.set_cons_zero, List.set_cons_succ])
    refine wpAnyH_ready (rs := [6]) (by kernel_rfl) (by simp) ?_
    refine AllReadyH.cons (o := ⟨some 61, _, _, _, _, _⟩) rfl (fun K hK => ?_) AllReadyH.nil
    go_simp
    refine (S.same_any _ _ (upL (doneT L) s) (upL (doneT L) s) _ HA.out HB.out).mono ?_
    rintro e Ub4u3 ⟨he, hb⟩
    rw [decide_eq_true rfl] at he
    subst he
    (try go_wp2_with fail)
    replace HN : Hid (AsS W0 tb F (.slice a1 L.length c1) L bx s (.slice (some ⟨b, o, none⟩) (doneT L).length ct0) pb (.cells #[.int .i64 p.nd.1, .int .i64 p.nd.2, .int .i64 p.pr.1, .int .i64 p.pr.2, .int .i64 p.sl.1, .int .i64 p.sl.2] 43) Ub4u3) := HN.out.below hb
    clear hb HA HB
    refine hK.out _ _ (HN.out) (fun hHeld2 => ?_)
    clear hK K hHeld
    have hHeld := hHeld2
    clear hHeld2
    (try simp only [Act.put, List.setIfInBounds_toArray, List.set_cons_zero, List.set_cons_succ])
    refine tkW 7 (some 62) (v := ?_) ?_ hHeld ?_
    rotate_left
    · (intro ww _; go_simp; try with_reducible rfl)
    refine tkW 8 (some 63) (v := ?_) ?_ hHeld ?_
    rotate_left
    · (intro ww _; go_simp; try with_reducible rfl)
    refine tkW 9 (some 64) (v := ?_) ?_ hHeld ?_
    rotate_left
    · (intro ww hSw; (try dsimp only at hSw); have hS := hSw; have b0 := hS.b0; have b1 := hS.b1; go_simp; try with_reducible rfl)
    refine tkW 11 (some 66) (v := ?_) ?_ hHeld ?_
    rotate_left
    · (intro ww _; go_simp; try with_reducible rfl)
    refine tkW 12 (some 67) (v := ?_) ?_ hHeld ?_
    rotate_left
    · (intro ww hSw; (try dsimp only at hSw); have hS := hSw; have b0 := hS.b0; have b1 := hS.b1; go_simp; try with_reducible rfl)
    refine wpAnyH_ready (rs := [10]) (by kernel_rfl) (by simp) ?_
    refine AllReadyH.cons (o := ⟨some 65, _, _, _, _, _⟩) rfl (fun K hK => ?_) AllReadyH.nil
    go_simp
    refine (kids_any F (.pointer (some ⟨tb, 0, none⟩)) L s _ HN.out.md.tv HN.out.md.tr.lt).mono ?_
    rintro e Ub4u4 ⟨v8, rfl, ho, ha⟩
    (try go_wp2_with fail)
    replace HN : Hid (AsS W0 tb F (.slice a1 L.length c1) L bx s (.slice (some ⟨b, o, none⟩) (doneT L).length ct0) pb (.cells #[.int .i64 p.nd.1, .int .i64 p.nd.2, .int .i64 p.pr.1, .int .i64 p.pr.2, .int .i64 p.sl.1, .int .i64 p.sl.2] 43) Ub4u4) := HN.out.asked ha
    have HC : Hid (S.IsS Ub4u4 v8 (kidsL (doneT L) s)) := ho.stS.isS HKl.out
    clear ho ha
    refine hK.out _ _ (HN.out) (fun hHeld2 => ?_)
    clear hK K hHeld
    have hHeld := hHeld2
    clear hHeld2
    (try simp only [Act.put, List.setIfInBounds_toArray, List.set_cons_zero, List.set_cons_succ])
    refine wpAnyH_ready (rs := [13]) (by kernel_rfl) (by simp) ?_
    refine AllReadyH.cons (o := ⟨some 68, _, _, _, _, _⟩) rfl (fun K hK => ?_) AllReadyH.nil
    go_simp
    refine (refKids_any (fun j => ¬ F j) (.slice (some ⟨b, o, none⟩) (doneT L).length ct0) (doneT L) s _ HN.out.tree (by have := HTl.out; omega)).mono ?_
    rintro e Ub4u5 ⟨v9, rfl, ho, hb⟩
    (try go_wp2_with fail)
    replace HN : Hid (AsS W0 tb F (.slice a1 L.length c1) L bx s (.slice (some ⟨b, o, none⟩) (doneT L).length ct0) pb (.cells #[.int .i64 p.nd.1, .int .i64 p.nd.2, .int .i64 p.pr.1, .int .i64 p.pr.2, .int .i64 p.sl.1, .int .i64 p.sl.2] 43) Ub4u5) := HN.out.below hb
    replace HC : Hid (S.IsS Ub4u5 v8 (kidsL (doneT L) s)) := HC.out.below hb
    have HD : Hid (S.IsS Ub4u5 v9 (kidsL (doneT L) s)) := ho.stS.isS HKl.out
    clear ho hb
    refine hK.out _ _ (HN.out) (fun hHeld2 => ?_)
    clear hK K hHeld
    have hHeld := hHeld2
    clear hHeld2
    (try simp only [Act.put, List.setIfInBounds_toArray, List.set_cons_zero, List.set_cons_succ])
    refine wpAnyH_ready (rs := [14]) (by kernel_rfl) (by simp) ?_
    refine AllReadyH.cons (o := ⟨some 69, _, _, _, _, _⟩) rfl (fun K hK => ?_) AllReadyH.nil
    go_simp
    refine (S.same_any _ _ (kidsL (doneT L) s) (kidsL (doneT L) s) _ HC.out HD.out).mono ?_
    rintro e Ub4u6 ⟨he, hb⟩
    rw [decide_eq_true rfl] at he
    subst he
    (try go_wp2_with fail)
    replace HN : Hid (AsS W0 tb F (.slice a1 L.length c1) L bx s (.slice (some ⟨b, o, none⟩) (doneT L).length ct0) pb (.cells #[.int .i64 p.nd.1, .int .i64 p.nd.2, .int .i64 p.pr.1, .int .i64 p.pr.2, .int .i64 p.sl.1, .int .i64 p.sl.2] 43) Ub4u6) := HN.out.below hb
    clear hb HC HD
    refine hK.out _ _ (HN.out) (fun hHeld2 => ?_)
    clear hK K hHeld
    have hHeld := hHeld2
    clear hHeld2
    (try simp only [Act.put, List.setIfInBounds_toArray, List.set_cons_zero, List.set_cons_succ])
    refine tkW 15 (some 70) (v := ?_) ?_ hHeld ?_
    rotate_left
    · (intro ww _; go_simp; try with_reducible rfl)
    refine tkW 16 (some 71) (v := ?_) ?_ hHeld ?_
    rotate_left
    · (intro ww _; go_simp; try with_reducible rfl)
    refine wpAnyH_ready (rs := [17]) (by kernel_rfl) (by simp) ?_
    refine AllReadyH.cons (o := ⟨some 72, _, _, _, _, _⟩) rfl (fun K hK => ?_) AllReadyH.nil
    go_simp
    refine (awake_any _).mono ?_
    rintro e Ub4u7 ⟨rfl, hb⟩
    (try go_wp2_with fail)
    replace HN : Hid (AsS W0 tb F (.slice a1 L.length c1) L bx s (.slice (some ⟨b, o, none⟩) (doneT L).length ct0) pb (.cells #[.int .i64 p.nd.1, .int .i64 p.nd.2, .int .i64 p.pr.1, .int .i64 p.pr.2, .int .i64 p.sl.1, .int .i64 p.sl.2] 43) Ub4u7) := HN.out.below hb
    clear hb
    refine hK.out _ _ (HN.out) (fun hHeld2 => ?_)
    clear hK K hHeld
    have hHeld := hHeld2
    clear hHeld2
    (try simp only [Act.put, List.setIfInBounds_toArray, List.set_cons_zero, List.set_cons_succ])
    refine tkW 18 (some 73) (v := ?_) ?_ hHeld ?_
    rotate_left
    · (intro ww _; go_simp; try with_reducible rfl)
    refine tkW 19 (some 4) (v := ?_) ?_ hHeld ?_
    rotate_left
    · (intro ww _; go_simp; try with_reducible rfl)
    refine wpAnyH_done (by kernel_rfl) ?_ _
    clear hHeld
    go_wp2
    go_ret
    exact ⟨rfl, HBe.out.trans (HN.out.md.bel.mono HBe.out.size)⟩

end Go.Proofs.Ytljepindfdhbbaa
