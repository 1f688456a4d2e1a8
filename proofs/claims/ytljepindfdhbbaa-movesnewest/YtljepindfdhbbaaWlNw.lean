/- MovesNewest: a move behind all others. -/
import Derived.Test.YtljepindfdhbbaaRfD
import Derived.Test.YtljepindfdhbbaaTrN
import Derived.Test.YtljepindfdhbbaaTrO
namespace Go.Proofs.Ytljepindfdhbbaa
open Go.RowKit
set_option linter.unusedVariables false
set_option linter.unusedSimpArgs false

/-- Two stamps in boxes. -/
structure BxP (N : Nat) (s1 s2 : St) (W : World) : Prop where
  r0 : W.heap[N]? = some (.cells (stCells s1).toArray 27)
  r1 : W.heap[N + 1]? = some (.cells (stCells s2).toArray 27)
section
variable {N : Nat} {s1 s2 : St} {W W' : World}
theorem BxP.keep (h : BxP N s1 s2 W) (hk : ∀ j, N ≤ j → j ≤ N + 1 → W'.heap[j]? = W.heap[j]?) : BxP N s1 s2 W' := ⟨(hk _ (by omega) (by omega)).trans h.r0, (hk _ (by omega) (by omega)).trans h.r1⟩
theorem BxP.hi (h : BxP N s1 s2 W) : N + 1 < W.heap.size := row_lt h.r1
theorem BxP.touch (h : BxP N s1 s2 W) {F : Nat → Prop} (ht : Touch F W W') (hF : ∀ j, F j → N + 1 < j) : BxP N s1 s2 W' := h.keep fun j h1 h2 => ht.block j (by have := h.hi; omega) (fun h3 => by have := hF j h3; omega)
theorem BxP.below (h : BxP N s1 s2 W) (hb : Below W.heap.size W W') : BxP N s1 s2 W' := h.keep fun j h1 h2 => hb.block j (by have := h.hi; omega)
theorem BxP.below' (h : BxP N s1 s2 W) {B : Nat} (hb : Below B W W') (hB : N + 1 < B := by first | exact h.hi | omega) : BxP N s1 s2 W' := h.keep fun j h1 h2 => hb.block j (by omega)
theorem BxP.drew (h : BxP N s1 s2 W) : BxP N s1 s2 W.drew := h.below (Below.refl _ _).drew
theorem BxP.n0 (h : BxP N s1 s2 W) : W.cell? ⟨N, 0, none⟩ = some (.int .i64 s1.1) := by rw [cell_of_row W _ 0 _ _ _ h.r0]; rfl
theorem BxP.n1 (h : BxP N s1 s2 W) : W.cell? ⟨N, 1, none⟩ = some (.int .i64 s1.2) := by rw [cell_of_row W _ 1 _ _ _ h.r0]; rfl
theorem BxP.p0 (h : BxP N s1 s2 W) : W.cell? ⟨N + 1, 0, none⟩ = some (.int .i64 s2.1) := by rw [cell_of_row W _ 0 _ _ _ h.r1]; rfl
theorem BxP.p1 (h : BxP N s1 s2 W) : W.cell? ⟨N + 1, 1, none⟩ = some (.int .i64 s2.2) := by rw [cell_of_row W _ 1 _ _ _ h.r1]; rfl
theorem BxP.new (w : World) (s1 s2 : St) : BxP w.heap.size s1 s2 ((w.alloc (.cells (stCells s1).toArray 27)).alloc (.cells (stCells s2).toArray 27)) := by
  refine ⟨?_, ?_⟩
  · exact (Below.heap_alloc _ _ _ (by simp)).trans (heap_alloc_new w _)
  · have := heap_alloc_new (w.alloc (.cells (stCells s1).toArray 27)) (.cells (stCells s2).toArray 27)
    simpa using this
end
/-- The state of MovesNewest. -/
structure NwS (W0 : World) (N tb : Nat) (F : Nat → Prop) (dv : Value) (L1 L2 : List Mv) (nd pr : St) (ab : Nat) (wv : Value) (D : List Pl) (W : World) : Prop where
  md : MdS W0 tb F dv L1 L2 W
  bx : BxP N nd pr W
  lo : N + 1 < W0.heap.size
  ra : W.heap[ab]? = some (.cells #[.int .i64 1099511627776, .int .i64 63] 27)
  na : ¬ F ab
  was : LsE plCells 6 (fun j => ¬ F j) W wv D
section
variable {W0 W W' : World} {N tb : Nat} {F : Nat → Prop} {dv wv wv' : Value} {L1 L2 : List Mv} {nd pr : St} {ab : Nat} {D D' : List Pl} {m : Mv} {e : Ending}
theorem NwS.below (h : NwS W0 N tb F dv L1 L2 nd pr ab wv D W) (hb : Below W.heap.size W W') : NwS W0 N tb F dv L1 L2 nd pr ab wv D W' := ⟨h.md.below hb, h.bx.below hb, h.lo, (hb.block _ (row_lt h.ra)).trans h.ra, h.na, h.was.below hb⟩
theorem NwS.asked (h : NwS W0 N tb F dv L1 L2 nd pr ab wv D W) (ha : AskP F W (.pointer (some ⟨tb, 0, none⟩)) L1 W') : NwS W0 N tb F dv L1 L2 nd pr ab wv D W' := ⟨h.md.asked ha, h.bx.touch ha.2 (fun j hj => by have h1 := h.md.hi j hj; have h2 := h.lo; omega), h.lo, row_touch h.ra ha.2 h.na, h.na, h.was.touch ha.2 (fun _ hk => hk)⟩
theorem NwS.waz (h : NwS W0 N tb F dv L1 L2 nd pr ab wv D W) (hw : LsE plCells 6 (fun j => ¬ F j) W wv' D') : NwS W0 N tb F dv L1 L2 nd pr ab wv' D' W := ⟨h.md, h.bx, h.lo, h.ra, h.na, hw⟩
theorem NwS.did (h : NwS W0 N tb F dv L1 L2 nd pr ab wv D W) (hd : DoP F W tb L1 m e W') : ∃ F', NwS W0 N tb F' dv (doL L1 m) L2 nd pr ab wv D W' := by
  obtain ⟨_, F', ht, hsub, hnew, hto⟩ := hd
  refine ⟨F', ⟨ht, fun j hj => ?_, h.md.doc.did hnew hto, h.md.bel.trans (hto.below h.md.hi h.md.bel.size)⟩, h.bx.touch hto (fun j hj => by have h1 := h.md.hi j hj; have h2 := h.lo; omega), h.lo, row_touch h.ra hto h.na, fun hk => ?_, h.was.did hnew hto⟩
  · rcases hnew j hj with h1 | h1
    · exact h.md.hi j h1
    · exact Nat.le_trans h.md.bel.size h1
  · rcases hnew _ hk with h1 | h1
    · exact h.na h1
    · have := row_lt h.ra; omega
theorem NwS.n0 (h : NwS W0 N tb F dv L1 L2 nd pr ab wv D W) : W.cell? ⟨N, 0, none⟩ = some (.int .i64 nd.1) := h.bx.n0
theorem NwS.n1 (h : NwS W0 N tb F dv L1 L2 nd pr ab wv D W) : W.cell? ⟨N, 1, none⟩ = some (.int .i64 nd.2) := h.bx.n1
theorem NwS.p0 (h : NwS W0 N tb F dv L1 L2 nd pr ab wv D W) : W.cell? ⟨N + 1, 0, none⟩ = some (.int .i64 pr.1) := h.bx.p0
theorem NwS.p1 (h : NwS W0 N tb F dv L1 L2 nd pr ab wv D W) : W.cell? ⟨N + 1, 1, none⟩ = some (.int .i64 pr.2) := h.bx.p1
theorem NwS.t0 (h : NwS W0 N tb F dv L1 L2 nd pr ab wv D W) : W.cell? ⟨ab, 0, none⟩ = some (.int .i64 1099511627776) := by rw [cell_of_row W _ 0 _ _ _ h.ra]; rfl
theorem NwS.t1 (h : NwS W0 N tb F dv L1 L2 nd pr ab wv D W) : W.cell? ⟨ab, 1, none⟩ = some (.int .i64 63) := by rw [cell_of_row W _ 1 _ _ _ h.ra]; rfl
end

set_option maxRecDepth 100000 in
set_option maxHeartbeats 8000000 in
theorem newest_same (v : Value) (l : List Ma) (nd pr : St) (w : World) (h : IsMa w v l) (hnp : nd = pr) :
    Calls Try.prog 8 #[v, .agg #[.int .i64 nd.1, .int .i64 nd.2], .agg #[.int .i64 pr.1, .int .i64 pr.2]] w fun e w' => e = .returned (.bool true) ∧ Below w.heap.size w w' := by
  obtain ⟨a0, c0, e0⟩ := h.form
  subst e0
  subst hnp
  have HCn : Hid (cntB (doneT (madeL l)) (⟨(1099511627776, 63), nd, nd⟩ : Mv) = false) := by (show _ = _; unfold cntB; simp)
  obtain ⟨W0, eW⟩ : ∃ X, X = (w.alloc (.cells #[.int .i64 nd.1, .int .i64 nd.2] 27)).alloc (.cells #[.int .i64 nd.1, .int .i64 nd.2] 27) := ⟨_, rfl⟩
  have hb0 : Below w.heap.size w W0 := by rw [eW]; exact ((Below.refl _ _).alloc (Nat.le_refl _) _).alloc (by simp) _
  have hbx : BxP w.heap.size nd nd W0 := by rw [eW]; exact BxP.new w nd nd
  have HBe : Hid (Below w.heap.size w W0) := hb0
  have HLs : Hid (IsMa W0 (.slice a0 l.length c0) l) := h.below hb0
  have HBx : Hid (BxP w.heap.size nd nd W0) := hbx
  have HeW : Hid (W0 = (w.alloc (.cells #[.int .i64 nd.1, .int .i64 nd.2] 27)).alloc (.cells #[.int .i64 nd.1, .int .i64 nd.2] 27)) := eW
  have HLl : Hid ((madeL l).length ≤ 200) := madeL_len l
  have HTl : Hid ((doneT (madeL l)).length ≤ 200) := Nat.le_trans (doneT_length _) (madeL_len l)
  have HUl : Hid ((upL (doneT (madeL l)) nd).length ≤ 8796093022208) := by (show _ ≤ _; have h1 := ((goodT (madeL l)).acy.up nd).short; have h2 := HTl.out; omega)
  have n0 := hbx.n0
  have n1 := hbx.n1
  have p0 := hbx.p0
  have p1 := hbx.p1
  rw [eW] at n0 n1 p0 p1
  clear hb0 hbx h eW
  go_enter Try.func8, Try.ntmps8
  go_wp2_with fail
  rw [← HeW.out]
  clear HeW n0 n1 p0 p1
  refine (made_any (.slice a0 l.length c0) l _ HLs.out).mono ?_
  rintro e w1 ⟨tb, F, a1, c1, rfl, hM⟩
  obtain ⟨dv, edv⟩ : ∃ x, x = Value.slice a1 (madeL l).length c1 := ⟨_, rfl⟩
  rw [← edv] at hM
  obtain ⟨w2, ew2⟩ : ∃ X, X = w1.alloc (.cells #[.int .i64 1099511627776, .int .i64 63] 27) := ⟨_, rfl⟩
  obtain ⟨ab, eab⟩ : ∃ b, b = w1.heap.size := ⟨_, rfl⟩
  have hb2 : Below w1.heap.size w1 w2 := by rw [ew2]; exact (Below.refl _ _).alloc (Nat.le_refl _) _
  have HN : Hid (NwS W0 w.heap.size tb F dv (madeL l) (madeL l) nd nd ab (.slice none 0 0) [] w2) := ⟨hM.below hb2, HBx.out.below' (hM.bel.trans (hb2.mono hM.bel.size)) (hB := HBx.out.hi), HBx.out.hi, by (rw [eab, ew2]; exact heap_alloc_new _ _), fun hj => by (have h1 := hM.tr.lt _ hj; omega), LsE.nil _ _ _⟩
  have HeW : Hid (w2 = w1.alloc (.cells #[.int .i64 1099511627776, .int .i64 63] 27)) := ew2
  have HeA : Hid (ab = w1.heap.size) := eab
  have HeD : Hid (dv = Value.slice a1 (madeL l).length c1) := edv
  clear hM hb2 ew2 eab edv HBx HLs
  go_wp2_with fail
  rw [← HeW.out, ← HeA.out, ← HeD.out]
  clear HeW HeA HeD
  refine (all_any F (.pointer (some ⟨tb, 0, none⟩)) (madeL l) _ HN.out.md.tv HN.out.md.tr.lt).mono ?_
  rintro e w3 ⟨wv, rfl, ho, ha⟩
  replace HN : Hid (NwS W0 w.heap.size tb F dv (madeL l) (madeL l) nd nd ab wv (doneT (madeL l)) w3) := (HN.out.asked ha).waz (ho.lsE plCells_len (by have := HTl.out; omega) (fun k e hk => by have h1 := (ho.lt k e).1; have h2 := HN.out.md.tr.lt k hk; omega))
  obtain ⟨aw, cw, ew⟩ := ho.form
  subst ew
  clear ho ha
  go_wp2_with fail
  refine wp_region_held_drew (S := fun W' => BxP w.heap.size nd nd W') (by kernel_rfl) HN.out.bx.drew (fun hHeld => ?_)
  obtain ⟨Ua1u0, eW⟩ : ∃ X, X = w3.drew := ⟨_, rfl⟩
  have hb : Below w3.heap.size w3 Ua1u0 := by rw [eW]; exact (Below.refl _ _).drew
  replace HN : Hid (NwS W0 w.heap.size tb F dv (madeL l) (madeL l) nd nd ab (.slice aw (doneT (madeL l)).length cw) (doneT (madeL l)) Ua1u0) := HN.out.below hb
  rw [← eW] at hHeld ⊢
  clear eW hb
  refine tkW 0 (some 23) (v := ?_) ?_ hHeld ?_
  rotate_left
  · (intro ww hSw; (try dsimp only at hSw); have hS := hSw; have n0 := hS.n0; have n1 := hS.n1; have p0 := hS.p0; have p1 := hS.p1; go_simp; try with_reducible rfl)
  refine tkW 1 (some 24) (v := ?_) ?_ hHeld ?_
  rotate_left
  · (intro ww hSw; (try dsimp only at hSw); have hS := hSw; have n0 := hS.n0; have n1 := hS.n1; have p0 := hS.p0; have p1 := hS.p1; go_simp; try with_reducible rfl)
  refine tkW 2 (some 25) (v := .bool true) ?_ hHeld ?_
  · (intro ww hSw; (try dsimp only at hSw); have hS := hSw; have n0 := hS.n0; have n1 := hS.n1; have p0 := hS.p0; have p1 := hS.p1; go_simp; try with_reducible rfl)
  refine tkW 3 (some 26) (v := ?_) ?_ hHeld ?_
  rotate_left
  · (intro ww _; go_simp; try with_reducible rfl)
  refine tkU 4 (some 27) hHeld ?_
  refine tkU 5 (some 28) hHeld ?_
  refine tkU 6 (some 29) hHeld ?_
  refine tkU 7 (some 30) hHeld ?_
  refine tkU 8 (some 31) hHeld ?_
  refine tkW 9 (some 32) (v := ?_) ?_ hHeld ?_
  rotate_left
  · (intro ww _; go_simp; try with_reducible rfl)
  refine tkW 10 (some 11) (v := ?_) ?_ hHeld ?_
  rotate_left
  · (intro ww _; go_simp; try with_reducible rfl)
  refine wpAnyH_done (by kernel_rfl) ?_ _
  clear hHeld
  have n0 := HN.out.n0
  have n1 := HN.out.n1
  have p0 := HN.out.p0
  have p1 := HN.out.p1
  have t0 := HN.out.t0
  have t1 := HN.out.t1
  go_wp2_with fail
  clear n0 n1 p0 p1 t0 t1
  refine (do_any F tb (madeL l) (1099511627776, 63) nd nd _ HN.out.md.tr (by have := HLl.out; omega)).mono ?_
  rintro e w5 hd
  obtain ⟨he, hd2⟩ := id hd
  obtain ⟨F2, hN2⟩ := HN.out.did hd
  clear hd hd2
  rcases doE_ran (madeL l) (⟨(1099511627776, 63), nd, nd⟩ : Mv) with hE | hE | hE
  · rw [hE] at he
    subst he
    rw [doL_err (by rw [hE]; decide)] at hN2
    replace HN : Hid (NwS W0 w.heap.size tb F2 dv (madeL l) (madeL l) nd nd ab (.slice aw (doneT (madeL l)).length cw) (doneT (madeL l)) w5) := hN2
    clear hN2 hE
    have n0 := HN.out.n0
    have n1 := HN.out.n1
    have p0 := HN.out.p0
    have p1 := HN.out.p1
    have t0 := HN.out.t0
    have t1 := HN.out.t1
    go_wp2_with fail
    clear n0 n1 p0 p1 t0 t1
    refine (all_any F2 (.pointer (some ⟨tb, 0, none⟩)) (madeL l) _ HN.out.md.tv HN.out.md.tr.lt).mono ?_
    rintro e w6a ⟨v7, rfl, ho, ha⟩
    have hF7 := HN.out.md.tr.lt
    have hs7 := ho.lt
    replace HN : Hid (NwS W0 w.heap.size tb F2 dv (madeL l) (madeL l) nd nd ab (.slice aw (doneT (madeL l)).length cw) (doneT (madeL l)) w6a) := HN.out.asked ha
    have HV7 : Hid (LsE plCells 6 (fun _ => True) w6a v7 (doneT (madeL l))) := by (have h9 := ho; exact h9.lsE plCells_len (by have := HTl.out; omega) (fun _ _ => trivial))
    obtain ⟨a7, c7, e7⟩ := ho.form
    subst e7
    clear ho ha hF7 hs7
    have n0 := HN.out.n0
    have n1 := HN.out.n1
    have p0 := HN.out.p0
    have p1 := HN.out.p1
    have t0 := HN.out.t0
    have t1 := HN.out.t1
    go_wp2_with fail
    clear n0 n1 p0 p1 t0 t1
    refine (same_eq (fun _ => True) (fun j => ¬ F2 j) _ _ (doneT (madeL l)) _ HV7.out HN.out.was).mono ?_
    rintro e w6b ⟨rfl, hb⟩
    replace HN : Hid (NwS W0 w.heap.size tb F2 dv (madeL l) (madeL l) nd nd ab (.slice aw (doneT (madeL l)).length cw) (doneT (madeL l)) w6b) := HN.out.below hb
    clear hb HV7
    have n0 := HN.out.n0
    have n1 := HN.out.n1
    have p0 := HN.out.p0
    have p1 := HN.out.p1
    have t0 := HN.out.t0
    have t1 := HN.out.t1
    go_wp2_with fail
    clear n0 n1 p0 p1 t0 t1
    refine (awake_any _).mono ?_
    rintro e w6c ⟨rfl, hb⟩
    replace HN : Hid (NwS W0 w.heap.size tb F2 dv (madeL l) (madeL l) nd nd ab (.slice aw (doneT (madeL l)).length cw) (doneT (madeL l)) w6c) := HN.out.below hb
    clear hb
    go_wp2
    go_ret
    exact ⟨rfl, HBe.out.trans (HN.out.md.bel.mono HBe.out.size)⟩
  · rw [hE] at he
    subst he
    rw [doL_err (by rw [hE]; decide)] at hN2
    replace HN : Hid (NwS W0 w.heap.size tb F2 dv (madeL l) (madeL l) nd nd ab (.slice aw (doneT (madeL l)).length cw) (doneT (madeL l)) w5) := hN2
    clear hN2 hE
    have n0 := HN.out.n0
    have n1 := HN.out.n1
    have p0 := HN.out.p0
    have p1 := HN.out.p1
    have t0 := HN.out.t0
    have t1 := HN.out.t1
    go_wp2_with fail
    clear n0 n1 p0 p1 t0 t1
    refine (all_any F2 (.pointer (some ⟨tb, 0, none⟩)) (madeL l) _ HN.out.md.tv HN.out.md.tr.lt).mono ?_
    rintro e w6a ⟨v7, rfl, ho, ha⟩
    have hF7 := HN.out.md.tr.lt
    have hs7 := ho.lt
    replace HN : Hid (NwS W0 w.heap.size tb F2 dv (madeL l) (madeL l) nd nd ab (.slice aw (doneT (madeL l)).length cw) (doneT (madeL l)) w6a) := HN.out.asked ha
    have HV7 : Hid (LsE plCells 6 (fun _ => True) w6a v7 (doneT (madeL l))) := by (have h9 := ho; exact h9.lsE plCells_len (by have := HTl.out; omega) (fun _ _ => trivial))
    obtain ⟨a7, c7, e7⟩ := ho.form
    subst e7
    clear ho ha hF7 hs7
    have n0 := HN.out.n0
    have n1 := HN.out.n1
    have p0 := HN.out.p0
    have p1 := HN.out.p1
    have t0 := HN.out.t0
    have t1 := HN.out.t1
    go_wp2_with fail
    clear n0 n1 p0 p1 t0 t1
    refine (same_eq (fun _ => True) (fun j => ¬ F2 j) _ _ (doneT (madeL l)) _ HV7.out HN.out.was).mono ?_
    rintro e w6b ⟨rfl, hb⟩
    replace HN : Hid (NwS W0 w.heap.size tb F2 dv (madeL l) (madeL l) nd nd ab (.slice aw (doneT (madeL l)).length cw) (doneT (madeL l)) w6b) := HN.out.below hb
    clear hb HV7
    have n0 := HN.out.n0
    have n1 := HN.out.n1
    have p0 := HN.out.p0
    have p1 := HN.out.p1
    have t0 := HN.out.t0
    have t1 := HN.out.t1
    go_wp2_with fail
    clear n0 n1 p0 p1 t0 t1
    refine (awake_any _).mono ?_
    rintro e w6c ⟨rfl, hb⟩
    replace HN : Hid (NwS W0 w.heap.size tb F2 dv (madeL l) (madeL l) nd nd ab (.slice aw (doneT (madeL l)).length cw) (doneT (madeL l)) w6c) := HN.out.below hb
    clear hb
    go_wp2
    go_ret
    exact ⟨rfl, HBe.out.trans (HN.out.md.bel.mono HBe.out.size)⟩
  · obtain ⟨hc1, hc2⟩ := newest (m := (⟨(1099511627776, 63), nd, nd⟩ : Mv)) (madeL_fm l) rfl hE
    rw [hE] at he
    subst he
    rw [show cntB (doneT (madeL l)) (⟨(1099511627776, 63), nd, nd⟩ : Mv) = false from HCn.out] at hc1
    have HC1 : Hid (cntS (doL (madeL l) (⟨(1099511627776, 63), nd, nd⟩ : Mv)) (1099511627776, 63) = false) := hc1
    have HDn : Hid (doneT (doL (madeL l) (⟨(1099511627776, 63), nd, nd⟩ : Mv)) = doneT (madeL l)) := by (show _ = _; rw [hc2]; unfold doM; rw [show cntB (doneT (madeL l)) (⟨(1099511627776, 63), nd, nd⟩ : Mv) = false from HCn.out]; rfl)
    replace HN : Hid (NwS W0 w.heap.size tb F2 dv (doL (madeL l) (⟨(1099511627776, 63), nd, nd⟩ : Mv)) (madeL l) nd nd ab (.slice aw (doneT (madeL l)).length cw) (doneT (madeL l)) w5) := hN2
    clear hN2 hE hc1 hc2
    have n0 := HN.out.n0
    have n1 := HN.out.n1
    have p0 := HN.out.p0
    have p1 := HN.out.p1
    have t0 := HN.out.t0
    have t1 := HN.out.t1
    go_wp2_with fail
    clear n0 n1 p0 p1 t0 t1
    refine (counts_any F2 (.pointer (some ⟨tb, 0, none⟩)) (doL (madeL l) (⟨(1099511627776, 63), nd, nd⟩ : Mv)) (1099511627776, 63) _ HN.out.md.tv HN.out.md.tr.lt).mono ?_
    rintro e w7 ⟨he, ha⟩
    rw [HC1.out] at he
    subst he
    replace HN : Hid (NwS W0 w.heap.size tb F2 dv (doL (madeL l) (⟨(1099511627776, 63), nd, nd⟩ : Mv)) (madeL l) nd nd ab (.slice aw (doneT (madeL l)).length cw) (doneT (madeL l)) w7) := HN.out.asked ha
    clear ha HC1
    have n0 := HN.out.n0
    have n1 := HN.out.n1
    have p0 := HN.out.p0
    have p1 := HN.out.p1
    have t0 := HN.out.t0
    have t1 := HN.out.t1
    go_wp2_with fail
    clear n0 n1 p0 p1 t0 t1
    refine (all_any F2 (.pointer (some ⟨tb, 0, none⟩)) (doL (madeL l) (⟨(1099511627776, 63), nd, nd⟩ : Mv)) _ HN.out.md.tv HN.out.md.tr.lt).mono ?_
    rintro e w8a ⟨v7, rfl, ho, ha⟩
    have hF7 := HN.out.md.tr.lt
    have hs7 := ho.lt
    replace HN : Hid (NwS W0 w.heap.size tb F2 dv (doL (madeL l) (⟨(1099511627776, 63), nd, nd⟩ : Mv)) (madeL l) nd nd ab (.slice aw (doneT (madeL l)).length cw) (doneT (madeL l)) w8a) := HN.out.asked ha
    have HV7 : Hid (LsE plCells 6 (fun _ => True) w8a v7 (doneT (madeL l))) := by (have h9 := ho; rw [HDn.out] at h9; exact h9.lsE plCells_len (by have := HTl.out; omega) (fun _ _ => trivial))
    obtain ⟨a7, c7, e7⟩ := ho.form
    subst e7
    clear ho ha hF7 hs7
    have n0 := HN.out.n0
    have n1 := HN.out.n1
    have p0 := HN.out.p0
    have p1 := HN.out.p1
    have t0 := HN.out.t0
    have t1 := HN.out.t1
    go_wp2_with fail
    clear n0 n1 p0 p1 t0 t1
    refine (same_eq (fun _ => True) (fun j => ¬ F2 j) _ _ (doneT (madeL l)) _ HV7.out HN.out.was).mono ?_
    rintro e w8b ⟨rfl, hb⟩
    replace HN : Hid (NwS W0 w.heap.size tb F2 dv (doL (madeL l) (⟨(1099511627776, 63), nd, nd⟩ : Mv)) (madeL l) nd nd ab (.slice aw (doneT (madeL l)).length cw) (doneT (madeL l)) w8b) := HN.out.below hb
    clear hb HV7
    have n0 := HN.out.n0
    have n1 := HN.out.n1
    have p0 := HN.out.p0
    have p1 := HN.out.p1
    have t0 := HN.out.t0
    have t1 := HN.out.t1
    go_wp2_with fail
    clear n0 n1 p0 p1 t0 t1
    refine (awake_any _).mono ?_
    rintro e w8c ⟨rfl, hb⟩
    replace HN : Hid (NwS W0 w.heap.size tb F2 dv (doL (madeL l) (⟨(1099511627776, 63), nd, nd⟩ : Mv)) (madeL l) nd nd ab (.slice aw (doneT (madeL l)).length cw) (doneT (madeL l)) w8c) := HN.out.below hb
    clear hb
    go_wp2
    go_ret
    exact ⟨rfl, HBe.out.trans (HN.out.md.bel.mono HBe.out.size)⟩

set_option maxRecDepth 100000 in
set_option maxHeartbeats 8000000 in
theorem newest_ring (v : Value) (l : List Ma) (nd pr : St) (w : World) (h : IsMa w v l) (hnp : nd ≠ pr) (hr : nd ∈ upL (doneT (madeL l)) pr) :
    Calls Try.prog 8 #[v, .agg #[.int .i64 nd.1, .int .i64 nd.2], .agg #[.int .i64 pr.1, .int .i64 pr.2]] w fun e w' => e = .returned (.bool true) ∧ Below w.heap.size w w' := by
  obtain ⟨a0, c0, e0⟩ := h.form
  subst e0
  have HNp : Hid (nd ≠ pr) := hnp
  have HRg : Hid (decide ((nd.1, nd.2) ∈ upL (doneT (madeL l)) pr) = true) := decide_eq_true hr
  have HCn : Hid (cntB (doneT (madeL l)) (⟨(1099511627776, 63), nd, pr⟩ : Mv) = false) := by (show _ = _; unfold cntB; simp [hr])
  clear hnp hr
  obtain ⟨W0, eW⟩ : ∃ X, X = (w.alloc (.cells #[.int .i64 nd.1, .int .i64 nd.2] 27)).alloc (.cells #[.int .i64 pr.1, .int .i64 pr.2] 27) := ⟨_, rfl⟩
  have hb0 : Below w.heap.size w W0 := by rw [eW]; exact ((Below.refl _ _).alloc (Nat.le_refl _) _).alloc (by simp) _
  have hbx : BxP w.heap.size nd pr W0 := by rw [eW]; exact BxP.new w nd pr
  have HBe : Hid (Below w.heap.size w W0) := hb0
  have HLs : Hid (IsMa W0 (.slice a0 l.length c0) l) := h.below hb0
  have HBx : Hid (BxP w.heap.size nd pr W0) := hbx
  have HeW : Hid (W0 = (w.alloc (.cells #[.int .i64 nd.1, .int .i64 nd.2] 27)).alloc (.cells #[.int .i64 pr.1, .int .i64 pr.2] 27)) := eW
  have HLl : Hid ((madeL l).length ≤ 200) := madeL_len l
  have HTl : Hid ((doneT (madeL l)).length ≤ 200) := Nat.le_trans (doneT_length _) (madeL_len l)
  have HUl : Hid ((upL (doneT (madeL l)) pr).length ≤ 8796093022208) := by (show _ ≤ _; have h1 := ((goodT (madeL l)).acy.up pr).short; have h2 := HTl.out; omega)
  have n0 := hbx.n0
  have n1 := hbx.n1
  have p0 := hbx.p0
  have p1 := hbx.p1
  rw [eW] at n0 n1 p0 p1
  clear hb0 hbx h eW
  go_enter Try.func8, Try.ntmps8
  go_wp2_with fail
  rw [← HeW.out]
  clear HeW n0 n1 p0 p1
  refine (made_any (.slice a0 l.length c0) l _ HLs.out).mono ?_
  rintro e w1 ⟨tb, F, a1, c1, rfl, hM⟩
  obtain ⟨dv, edv⟩ : ∃ x, x = Value.slice a1 (madeL l).length c1 := ⟨_, rfl⟩
  rw [← edv] at hM
  obtain ⟨w2, ew2⟩ : ∃ X, X = w1.alloc (.cells #[.int .i64 1099511627776, .int .i64 63] 27) := ⟨_, rfl⟩
  obtain ⟨ab, eab⟩ : ∃ b, b = w1.heap.size := ⟨_, rfl⟩
  have hb2 : Below w1.heap.size w1 w2 := by rw [ew2]; exact (Below.refl _ _).alloc (Nat.le_refl _) _
  have HN : Hid (NwS W0 w.heap.size tb F dv (madeL l) (madeL l) nd pr ab (.slice none 0 0) [] w2) := ⟨hM.below hb2, HBx.out.below' (hM.bel.trans (hb2.mono hM.bel.size)) (hB := HBx.out.hi), HBx.out.hi, by (rw [eab, ew2]; exact heap_alloc_new _ _), fun hj => by (have h1 := hM.tr.lt _ hj; omega), LsE.nil _ _ _⟩
  have HeW : Hid (w2 = w1.alloc (.cells #[.int .i64 1099511627776, .int .i64 63] 27)) := ew2
  have HeA : Hid (ab = w1.heap.size) := eab
  have HeD : Hid (dv = Value.slice a1 (madeL l).length c1) := edv
  clear hM hb2 ew2 eab edv HBx HLs
  go_wp2_with fail
  rw [← HeW.out, ← HeA.out, ← HeD.out]
  clear HeW HeA HeD
  refine (all_any F (.pointer (some ⟨tb, 0, none⟩)) (madeL l) _ HN.out.md.tv HN.out.md.tr.lt).mono ?_
  rintro e w3 ⟨wv, rfl, ho, ha⟩
  replace HN : Hid (NwS W0 w.heap.size tb F dv (madeL l) (madeL l) nd pr ab wv (doneT (madeL l)) w3) := (HN.out.asked ha).waz (ho.lsE plCells_len (by have := HTl.out; omega) (fun k e hk => by have h1 := (ho.lt k e).1; have h2 := HN.out.md.tr.lt k hk; omega))
  obtain ⟨aw, cw, ew⟩ := ho.form
  subst ew
  clear ho ha
  go_wp2_with fail
  refine wp_region_held_drew (S := fun W' => BxP w.heap.size nd pr W') (by kernel_rfl) HN.out.bx.drew (fun hHeld => ?_)
  obtain ⟨Ua2u0, eW⟩ : ∃ X, X = w3.drew := ⟨_, rfl⟩
  have hb : Below w3.heap.size w3 Ua2u0 := by rw [eW]; exact (Below.refl _ _).drew
  replace HN : Hid (NwS W0 w.heap.size tb F dv (madeL l) (madeL l) nd pr ab (.slice aw (doneT (madeL l)).length cw) (doneT (madeL l)) Ua2u0) := HN.out.below hb
  rw [← eW] at hHeld ⊢
  clear eW hb
  refine tkW 0 (some 23) (v := ?_) ?_ hHeld ?_
  rotate_left
  · (intro ww hSw; (try dsimp only at hSw); have hS := hSw; have n0 := hS.n0; have n1 := hS.n1; have p0 := hS.p0; have p1 := hS.p1; go_simp; try with_reducible rfl)
  refine tkW 1 (some 24) (v := ?_) ?_ hHeld ?_
  rotate_left
  · (intro ww hSw; (try dsimp only at hSw); have hS := hSw; have n0 := hS.n0; have n1 := hS.n1; have p0 := hS.p0; have p1 := hS.p1; go_simp; try with_reducible rfl)
  refine tkW 2 (some 25) (v := .bool false) ?_ hHeld ?_
  · (intro ww hSw; (try dsimp only at hSw); have hS := hSw; have n0 := hS.n0; have n1 := hS.n1; have p0 := hS.p0; have p1 := hS.p1; go_simp; by_cases e1 : nd.1 = pr.1 <;> by_cases e2 : nd.2 = pr.2 <;> first | exact absurd (Prod.ext e1 e2) HNp.out | simp [e1, e2])
  refine tkW 3 (some 26) (v := ?_) ?_ hHeld ?_
  rotate_left
  · (intro ww _; go_simp; try with_reducible rfl)
  refine tkW 4 (some 27) (v := ?_) ?_ hHeld ?_
  rotate_left
  · (intro ww _; go_simp; try with_reducible rfl)
  refine tkW 5 (some 28) (v := ?_) ?_ hHeld ?_
  rotate_left
  · (intro ww hSw; (try dsimp only at hSw); have hS := hSw; have n0 := hS.n0; have n1 := hS.n1; have p0 := hS.p0; have p1 := hS.p1; go_simp; try with_reducible rfl)
  refine tkW 7 (some 30) (v := ?_) ?_ hHeld ?_
  rotate_left
  · (intro ww hSw; (try dsimp only at hSw); have hS := hSw; have n0 := hS.n0; have n1 := hS.n1; have p0 := hS.p0; have p1 := hS.p1; go_simp; try with_reducible rfl)
  refine wpAnyH_ready (rs := [6]) (by kernel_rfl) (by simp) ?_
  refine AllReadyH.cons (o := ⟨some 29, _, _, _, _, _⟩) rfl (fun K hK => ?_) AllReadyH.nil
  go_simp
  refine (above_any F (.pointer (some ⟨tb, 0, none⟩)) (madeL l) pr _ HN.out.md.tv HN.out.md.tr.lt).mono ?_
  rintro e Ua2u1 ⟨v6, rfl, ho, ha⟩
  (try go_wp2_with fail)
  replace HN : Hid (NwS W0 w.heap.size tb F dv (madeL l) (madeL l) nd pr ab (.slice aw (doneT (madeL l)).length cw) (doneT (madeL l)) Ua2u1) := HN.out.asked ha
  have HUp : Hid (S.IsS Ua2u1 v6 (upL (doneT (madeL l)) pr)) := ho.stS.isS HUl.out
  clear ho ha
  refine hK.out _ _ (HN.out.bx) (fun hHeld2 => ?_)
  clear hK K hHeld
  have hHeld := hHeld2
  clear hHeld2
  (try simp only [Act.put, List.setIfInBounds_toArray, List.set_cons_zero, List.set_cons_succ])
  refine wpAnyH_ready (rs := [8]) (by kernel_rfl) (by simp) ?_
  refine AllReadyH.cons (o := ⟨some 31, _, _, _, _, _⟩) rfl (fun K hK => ?_) AllReadyH.nil
  go_simp
  refine (S.has_any v6 (upL (doneT (madeL l)) pr) nd.1 nd.2 _ HUp.out).mono ?_
  rintro e Ua2u2 ⟨rfl, hb⟩
  (try go_wp2_with fail)
  rw [show decide ((nd.1, nd.2) ∈ upL (doneT (madeL l)) pr) = true from HRg.out]
  replace HN : Hid (NwS W0 w.heap.size tb F dv (madeL l) (madeL l) nd pr ab (.slice aw (doneT (madeL l)).length cw) (doneT (madeL l)) Ua2u2) := HN.out.below hb
  clear hb HUp
  refine hK.out _ _ (HN.out.bx) (fun hHeld2 => ?_)
  clear hK K hHeld
  have hHeld := hHeld2
  clear hHeld2
  (try simp only [Act.put, List.setIfInBounds_toArray, List.set_cons_zero, List.set_cons_succ])
  refine tkW 9 (some 32) (v := ?_) ?_ hHeld ?_
  rotate_left
  · (intro ww _; go_simp; try with_reducible rfl)
  refine tkW 10 (some 11) (v := ?_) ?_ hHeld ?_
  rotate_left
  · (intro ww _; go_simp; try with_reducible rfl)
  refine wpAnyH_done (by kernel_rfl) ?_ _
  clear hHeld
  have n0 := HN.out.n0
  have n1 := HN.out.n1
  have p0 := HN.out.p0
  have p1 := HN.out.p1
  have t0 := HN.out.t0
  have t1 := HN.out.t1
  go_wp2_with fail
  clear n0 n1 p0 p1 t0 t1
  refine (do_any F tb (madeL l) (1099511627776, 63) nd pr _ HN.out.md.tr (by have := HLl.out; omega)).mono ?_
  rintro e w5 hd
  obtain ⟨he, hd2⟩ := id hd
  obtain ⟨F2, hN2⟩ := HN.out.did hd
  clear hd hd2
  rcases doE_ran (madeL l) (⟨(1099511627776, 63), nd, pr⟩ : Mv) with hE | hE | hE
  · rw [hE] at he
    subst he
    rw [doL_err (by rw [hE]; decide)] at hN2
    replace HN : Hid (NwS W0 w.heap.size tb F2 dv (madeL l) (madeL l) nd pr ab (.slice aw (doneT (madeL l)).length cw) (doneT (madeL l)) w5) := hN2
    clear hN2 hE
    have n0 := HN.out.n0
    have n1 := HN.out.n1
    have p0 := HN.out.p0
    have p1 := HN.out.p1
    have t0 := HN.out.t0
    have t1 := HN.out.t1
    go_wp2_with fail
    clear n0 n1 p0 p1 t0 t1
    refine (all_any F2 (.pointer (some ⟨tb, 0, none⟩)) (madeL l) _ HN.out.md.tv HN.out.md.tr.lt).mono ?_
    rintro e w6a ⟨v7, rfl, ho, ha⟩
    have hF7 := HN.out.md.tr.lt
    have hs7 := ho.lt
    replace HN : Hid (NwS W0 w.heap.size tb F2 dv (madeL l) (madeL l) nd pr ab (.slice aw (doneT (madeL l)).length cw) (doneT (madeL l)) w6a) := HN.out.asked ha
    have HV7 : Hid (LsE plCells 6 (fun _ => True) w6a v7 (doneT (madeL l))) := by (have h9 := ho; exact h9.lsE plCells_len (by have := HTl.out; omega) (fun _ _ => trivial))
    obtain ⟨a7, c7, e7⟩ := ho.form
    subst e7
    clear ho ha hF7 hs7
    have n0 := HN.out.n0
    have n1 := HN.out.n1
    have p0 := HN.out.p0
    have p1 := HN.out.p1
    have t0 := HN.out.t0
    have t1 := HN.out.t1
    go_wp2_with fail
    clear n0 n1 p0 p1 t0 t1
    refine (same_eq (fun _ => True) (fun j => ¬ F2 j) _ _ (doneT (madeL l)) _ HV7.out HN.out.was).mono ?_
    rintro e w6b ⟨rfl, hb⟩
    replace HN : Hid (NwS W0 w.heap.size tb F2 dv (madeL l) (madeL l) nd pr ab (.slice aw (doneT (madeL l)).length cw) (doneT (madeL l)) w6b) := HN.out.below hb
    clear hb HV7
    have n0 := HN.out.n0
    have n1 := HN.out.n1
    have p0 := HN.out.p0
    have p1 := HN.out.p1
    have t0 := HN.out.t0
    have t1 := HN.out.t1
    go_wp2_with fail
    clear n0 n1 p0 p1 t0 t1
    refine (awake_any _).mono ?_
    rintro e w6c ⟨rfl, hb⟩
    replace HN : Hid (NwS W0 w.heap.size tb F2 dv (madeL l) (madeL l) nd pr ab (.slice aw (doneT (madeL l)).length cw) (doneT (madeL l)) w6c) := HN.out.below hb
    clear hb
    go_wp2
    go_ret
    exact ⟨rfl, HBe.out.trans (HN.out.md.bel.mono HBe.out.size)⟩
  · rw [hE] at he
    subst he
    rw [doL_err (by rw [hE]; decide)] at hN2
    replace HN : Hid (NwS W0 w.heap.size tb F2 dv (madeL l) (madeL l) nd pr ab (.slice aw (doneT (madeL l)).length cw) (doneT (madeL l)) w5) := hN2
    clear hN2 hE
    have n0 := HN.out.n0
    have n1 := HN.out.n1
    have p0 := HN.out.p0
    have p1 := HN.out.p1
    have t0 := HN.out.t0
    have t1 := HN.out.t1
    go_wp2_with fail
    clear n0 n1 p0 p1 t0 t1
    refine (all_any F2 (.pointer (some ⟨tb, 0, none⟩)) (madeL l) _ HN.out.md.tv HN.out.md.tr.lt).mono ?_
    rintro e w6a ⟨v7, rfl, ho, ha⟩
    have hF7 := HN.out.md.tr.lt
    have hs7 := ho.lt
    replace HN : Hid (NwS W0 w.heap.size tb F2 dv (madeL l) (madeL l) nd pr ab (.slice aw (doneT (madeL l)).length cw) (doneT (madeL l)) w6a) := HN.out.asked ha
    have HV7 : Hid (LsE plCells 6 (fun _ => True) w6a v7 (doneT (madeL l))) := by (have h9 := ho; exact h9.lsE plCells_len (by have := HTl.out; omega) (fun _ _ => trivial))
    obtain ⟨a7, c7, e7⟩ := ho.form
    subst e7
    clear ho ha hF7 hs7
    have n0 := HN.out.n0
    have n1 := HN.out.n1
    have p0 := HN.out.p0
    have p1 := HN.out.p1
    have t0 := HN.out.t0
    have t1 := HN.out.t1
    go_wp2_with fail
    clear n0 n1 p0 p1 t0 t1
    refine (same_eq (fun _ => True) (fun j => ¬ F2 j) _ _ (doneT (madeL l)) _ HV7.out HN.out.was).mono ?_
    rintro e w6b ⟨rfl, hb⟩
    replace HN : Hid (NwS W0 w.heap.size tb F2 dv (madeL l) (madeL l) nd pr ab (.slice aw (doneT (madeL l)).length cw) (doneT (madeL l)) w6b) := HN.out.below hb
    clear hb HV7
    have n0 := HN.out.n0
    have n1 := HN.out.n1
    have p0 := HN.out.p0
    have p1 := HN.out.p1
    have t0 := HN.out.t0
    have t1 := HN.out.t1
    go_wp2_with fail
    clear n0 n1 p0 p1 t0 t1
    refine (awake_any _).mono ?_
    rintro e w6c ⟨rfl, hb⟩
    replace HN : Hid (NwS W0 w.heap.size tb F2 dv (madeL l) (madeL l) nd pr ab (.slice aw (doneT (madeL l)).length cw) (doneT (madeL l)) w6c) := HN.out.below hb
    clear hb
    go_wp2
    go_ret
    exact ⟨rfl, HBe.out.trans (HN.out.md.bel.mono HBe.out.size)⟩
  · obtain ⟨hc1, hc2⟩ := newest (m := (⟨(1099511627776, 63), nd, pr⟩ : Mv)) (madeL_fm l) rfl hE
    rw [hE] at he
    subst he
    rw [show cntB (doneT (madeL l)) (⟨(1099511627776, 63), nd, pr⟩ : Mv) = false from HCn.out] at hc1
    have HC1 : Hid (cntS (doL (madeL l) (⟨(1099511627776, 63), nd, pr⟩ : Mv)) (1099511627776, 63) = false) := hc1
    have HDn : Hid (doneT (doL (madeL l) (⟨(1099511627776, 63), nd, pr⟩ : Mv)) = doneT (madeL l)) := by (show _ = _; rw [hc2]; unfold doM; rw [show cntB (doneT (madeL l)) (⟨(1099511627776, 63), nd, pr⟩ : Mv) = false from HCn.out]; rfl)
    replace HN : Hid (NwS W0 w.heap.size tb F2 dv (doL (madeL l) (⟨(1099511627776, 63), nd, pr⟩ : Mv)) (madeL l) nd pr ab (.slice aw (doneT (madeL l)).length cw) (doneT (madeL l)) w5) := hN2
    clear hN2 hE hc1 hc2
    have n0 := HN.out.n0
    have n1 := HN.out.n1
    have p0 := HN.out.p0
    have p1 := HN.out.p1
    have t0 := HN.out.t0
    have t1 := HN.out.t1
    go_wp2_with fail
    clear n0 n1 p0 p1 t0 t1
    refine (counts_any F2 (.pointer (some ⟨tb, 0, none⟩)) (doL (madeL l) (⟨(1099511627776, 63), nd, pr⟩ : Mv)) (1099511627776, 63) _ HN.out.md.tv HN.out.md.tr.lt).mono ?_
    rintro e w7 ⟨he, ha⟩
    rw [HC1.out] at he
    subst he
    replace HN : Hid (NwS W0 w.heap.size tb F2 dv (doL (madeL l) (⟨(1099511627776, 63), nd, pr⟩ : Mv)) (madeL l) nd pr ab (.slice aw (doneT (madeL l)).length cw) (doneT (madeL l)) w7) := HN.out.asked ha
    clear ha HC1
    have n0 := HN.out.n0
    have n1 := HN.out.n1
    have p0 := HN.out.p0
    have p1 := HN.out.p1
    have t0 := HN.out.t0
    have t1 := HN.out.t1
    go_wp2_with fail
    clear n0 n1 p0 p1 t0 t1
    refine (all_any F2 (.pointer (some ⟨tb, 0, none⟩)) (doL (madeL l) (⟨(1099511627776, 63), nd, pr⟩ : Mv)) _ HN.out.md.tv HN.out.md.tr.lt).mono ?_
    rintro e w8a ⟨v7, rfl, ho, ha⟩
    have hF7 := HN.out.md.tr.lt
    have hs7 := ho.lt
    replace HN : Hid (NwS W0 w.heap.size tb F2 dv (doL (madeL l) (⟨(1099511627776, 63), nd, pr⟩ : Mv)) (madeL l) nd pr ab (.slice aw (doneT (madeL l)).length cw) (doneT (madeL l)) w8a) := HN.out.asked ha
    have HV7 : Hid (LsE plCells 6 (fun _ => True) w8a v7 (doneT (madeL l))) := by (have h9 := ho; rw [HDn.out] at h9; exact h9.lsE plCells_len (by have := HTl.out; omega) (fun _ _ => trivial))
    obtain ⟨a7, c7, e7⟩ := ho.form
    subst e7
    clear ho ha hF7 hs7
    have n0 := HN.out.n0
    have n1 := HN.out.n1
    have p0 := HN.out.p0
    have p1 := HN.out.p1
    have t0 := HN.out.t0
    have t1 := HN.out.t1
    go_wp2_with fail
    clear n0 n1 p0 p1 t0 t1
    refine (same_eq (fun _ => True) (fun j => ¬ F2 j) _ _ (doneT (madeL l)) _ HV7.out HN.out.was).mono ?_
    rintro e w8b ⟨rfl, hb⟩
    replace HN : Hid (NwS W0 w.heap.size tb F2 dv (doL (madeL l) (⟨(1099511627776, 63), nd, pr⟩ : Mv)) (madeL l) nd pr ab (.slice aw (doneT (madeL l)).length cw) (doneT (madeL l)) w8b) := HN.out.below hb
    clear hb HV7
    have n0 := HN.out.n0
    have n1 := HN.out.n1
    have p0 := HN.out.p0
    have p1 := HN.out.p1
    have t0 := HN.out.t0
    have t1 := HN.out.t1
    go_wp2_with fail
    clear n0 n1 p0 p1 t0 t1
    refine (awake_any _).mono ?_
    rintro e w8c ⟨rfl, hb⟩
    replace HN : Hid (NwS W0 w.heap.size tb F2 dv (doL (madeL l) (⟨(1099511627776, 63), nd, pr⟩ : Mv)) (madeL l) nd pr ab (.slice aw (doneT (madeL l)).length cw) (doneT (madeL l)) w8c) := HN.out.below hb
    clear hb
    go_wp2
    go_ret
    exact ⟨rfl, HBe.out.trans (HN.out.md.bel.mono HBe.out.size)⟩

set_option maxRecDepth 100000 in
set_option maxHeartbeats 8000000 in
theorem newest_free (v : Value) (l : List Ma) (nd pr : St) (w : World) (h : IsMa w v l) (hnp : nd ≠ pr) (hr : nd ∉ upL (doneT (madeL l)) pr) :
    Calls Try.prog 8 #[v, .agg #[.int .i64 nd.1, .int .i64 nd.2], .agg #[.int .i64 pr.1, .int .i64 pr.2]] w fun e w' => e = .returned (.bool true) ∧ Below w.heap.size w w' := by
  obtain ⟨a0, c0, e0⟩ := h.form
  subst e0
  have HNp : Hid (nd ≠ pr) := hnp
  have HRg : Hid (decide ((nd.1, nd.2) ∈ upL (doneT (madeL l)) pr) = false) := decide_eq_false hr
  have HCn : Hid (cntB (doneT (madeL l)) (⟨(1099511627776, 63), nd, pr⟩ : Mv) = true) := by (show _ = _; unfold cntB; simp [hr, hnp])
  clear hnp hr
  obtain ⟨W0, eW⟩ : ∃ X, X = (w.alloc (.cells #[.int .i64 nd.1, .int .i64 nd.2] 27)).alloc (.cells #[.int .i64 pr.1, .int .i64 pr.2] 27) := ⟨_, rfl⟩
  have hb0 : Below w.heap.size w W0 := by rw [eW]; exact ((Below.refl _ _).alloc (Nat.le_refl _) _).alloc (by simp) _
  have hbx : BxP w.heap.size nd pr W0 := by rw [eW]; exact BxP.new w nd pr
  have HBe : Hid (Below w.heap.size w W0) := hb0
  have HLs : Hid (IsMa W0 (.slice a0 l.length c0) l) := h.below hb0
  have HBx : Hid (BxP w.heap.size nd pr W0) := hbx
  have HeW : Hid (W0 = (w.alloc (.cells #[.int .i64 nd.1, .int .i64 nd.2] 27)).alloc (.cells #[.int .i64 pr.1, .int .i64 pr.2] 27)) := eW
  have HLl : Hid ((madeL l).length ≤ 200) := madeL_len l
  have HTl : Hid ((doneT (madeL l)).length ≤ 200) := Nat.le_trans (doneT_length _) (madeL_len l)
  have HUl : Hid ((upL (doneT (madeL l)) pr).length ≤ 8796093022208) := by (show _ ≤ _; have h1 := ((goodT (madeL l)).acy.up pr).short; have h2 := HTl.out; omega)
  have n0 := hbx.n0
  have n1 := hbx.n1
  have p0 := hbx.p0
  have p1 := hbx.p1
  rw [eW] at n0 n1 p0 p1
  clear hb0 hbx h eW
  go_enter Try.func8, Try.ntmps8
  go_wp2_with fail
  rw [← HeW.out]
  clear HeW n0 n1 p0 p1
  refine (made_any (.slice a0 l.length c0) l _ HLs.out).mono ?_
  rintro e w1 ⟨tb, F, a1, c1, rfl, hM⟩
  obtain ⟨dv, edv⟩ : ∃ x, x = Value.slice a1 (madeL l).length c1 := ⟨_, rfl⟩
  rw [← edv] at hM
  obtain ⟨w2, ew2⟩ : ∃ X, X = w1.alloc (.cells #[.int .i64 1099511627776, .int .i64 63] 27) := ⟨_, rfl⟩
  obtain ⟨ab, eab⟩ : ∃ b, b = w1.heap.size := ⟨_, rfl⟩
  have hb2 : Below w1.heap.size w1 w2 := by rw [ew2]; exact (Below.refl _ _).alloc (Nat.le_refl _) _
  have HN : Hid (NwS W0 w.heap.size tb F dv (madeL l) (madeL l) nd pr ab (.slice none 0 0) [] w2) := ⟨hM.below hb2, HBx.out.below' (hM.bel.trans (hb2.mono hM.bel.size)) (hB := HBx.out.hi), HBx.out.hi, by (rw [eab, ew2]; exact heap_alloc_new _ _), fun hj => by (have h1 := hM.tr.lt _ hj; omega), LsE.nil _ _ _⟩
  have HeW : Hid (w2 = w1.alloc (.cells #[.int .i64 1099511627776, .int .i64 63] 27)) := ew2
  have HeA : Hid (ab = w1.heap.size) := eab
  have HeD : Hid (dv = Value.slice a1 (madeL l).length c1) := edv
  clear hM hb2 ew2 eab edv HBx HLs
  go_wp2_with fail
  rw [← HeW.out, ← HeA.out, ← HeD.out]
  clear HeW HeA HeD
  refine (all_any F (.pointer (some ⟨tb, 0, none⟩)) (madeL l) _ HN.out.md.tv HN.out.md.tr.lt).mono ?_
  rintro e w3 ⟨wv, rfl, ho, ha⟩
  replace HN : Hid (NwS W0 w.heap.size tb F dv (madeL l) (madeL l) nd pr ab wv (doneT (madeL l)) w3) := (HN.out.asked ha).waz (ho.lsE plCells_len (by have := HTl.out; omega) (fun k e hk => by have h1 := (ho.lt k e).1; have h2 := HN.out.md.tr.lt k hk; omega))
  obtain ⟨aw, cw, ew⟩ := ho.form
  subst ew
  clear ho ha
  go_wp2_with fail
  refine wp_region_held_drew (S := fun W' => BxP w.heap.size nd pr W') (by kernel_rfl) HN.out.bx.drew (fun hHeld => ?_)
  obtain ⟨Ua3u0, eW⟩ : ∃ X, X = w3.drew := ⟨_, rfl⟩
  have hb : Below w3.heap.size w3 Ua3u0 := by rw [eW]; exact (Below.refl _ _).drew
  replace HN : Hid (NwS W0 w.heap.size tb F dv (madeL l) (madeL l) nd pr ab (.slice aw (doneT (madeL l)).length cw) (doneT (madeL l)) Ua3u0) := HN.out.below hb
  rw [← eW] at hHeld ⊢
  clear eW hb
  refine tkW 0 (some 23) (v := ?_) ?_ hHeld ?_
  rotate_left
  · (intro ww hSw; (try dsimp only at hSw); have hS := hSw; have n0 := hS.n0; have n1 := hS.n1; have p0 := hS.p0; have p1 := hS.p1; go_simp; try with_reducible rfl)
  refine tkW 1 (some 24) (v := ?_) ?_ hHeld ?_
  rotate_left
  · (intro ww hSw; (try dsimp only at hSw); have hS := hSw; have n0 := hS.n0; have n1 := hS.n1; have p0 := hS.p0; have p1 := hS.p1; go_simp; try with_reducible rfl)
  refine tkW 2 (some 25) (v := .bool false) ?_ hHeld ?_
  · (intro ww hSw; (try dsimp only at hSw); have hS := hSw; have n0 := hS.n0; have n1 := hS.n1; have p0 := hS.p0; have p1 := hS.p1; go_simp; by_cases e1 : nd.1 = pr.1 <;> by_cases e2 : nd.2 = pr.2 <;> first | exact absurd (Prod.ext e1 e2) HNp.out | simp [e1, e2])
  refine tkW 3 (some 26) (v := ?_) ?_ hHeld ?_
  rotate_left
  · (intro ww _; go_simp; try with_reducible rfl)
  refine tkW 4 (some 27) (v := ?_) ?_ hHeld ?_
  rotate_left
  · (intro ww _; go_simp; try with_reducible rfl)
  refine tkW 5 (some 28) (v := ?_) ?_ hHeld ?_
  rotate_left
  · (intro ww hSw; (try dsimp only at hSw); have hS := hSw; have n0 := hS.n0; have n1 := hS.n1; have p0 := hS.p0; have p1 := hS.p1; go_simp; try with_reducible rfl)
  refine tkW 7 (some 30) (v := ?_) ?_ hHeld ?_
  rotate_left
  · (intro ww hSw; (try dsimp only at hSw); have hS := hSw; have n0 := hS.n0; have n1 := hS.n1; have p0 := hS.p0; have p1 := hS.p1; go_simp; try with_reducible rfl)
  refine wpAnyH_ready (rs := [6]) (by kernel_rfl) (by simp) ?_
  refine AllReadyH.cons (o := ⟨some 29, _, _, _, _, _⟩) rfl (fun K hK => ?_) AllReadyH.nil
  go_simp
  refine (above_any F (.pointer (some ⟨tb, 0, none⟩)) (madeL l) pr _ HN.out.md.tv HN.out.md.tr.lt).mono ?_
  rintro e Ua3u1 ⟨v6, rfl, ho, ha⟩
  (try go_wp2_with fail)
  replace HN : Hid (NwS W0 w.heap.size tb F dv (madeL l) (madeL l) nd pr ab (.slice aw (doneT (madeL l)).length cw) (doneT (madeL l)) Ua3u1) := HN.out.asked ha
  have HUp : Hid (S.IsS Ua3u1 v6 (upL (doneT (madeL l)) pr)) := ho.stS.isS HUl.out
  clear ho ha
  refine hK.out _ _ (HN.out.bx) (fun hHeld2 => ?_)
  clear hK K hHeld
  have hHeld := hHeld2
  clear hHeld2
  (try simp only [Act.put, List.setIfInBounds_toArray, List.set_cons_zero, List.set_cons_succ])
  refine wpAnyH_ready (rs := [8]) (by kernel_rfl) (by simp) ?_
  refine AllReadyH.cons (o := ⟨some 31, _, _, _, _, _⟩) rfl (fun K hK => ?_) AllReadyH.nil
  go_simp
  refine (S.has_any v6 (upL (doneT (madeL l)) pr) nd.1 nd.2 _ HUp.out).mono ?_
  rintro e Ua3u2 ⟨rfl, hb⟩
  (try go_wp2_with fail)
  rw [show decide ((nd.1, nd.2) ∈ upL (doneT (madeL l)) pr) = false from HRg.out]
  replace HN : Hid (NwS W0 w.heap.size tb F dv (madeL l) (madeL l) nd pr ab (.slice aw (doneT (madeL l)).length cw) (doneT (madeL l)) Ua3u2) := HN.out.below hb
  clear hb HUp
  refine hK.out _ _ (HN.out.bx) (fun hHeld2 => ?_)
  clear hK K hHeld
  have hHeld := hHeld2
  clear hHeld2
  (try simp only [Act.put, List.setIfInBounds_toArray, List.set_cons_zero, List.set_cons_succ])
  refine tkW 9 (some 32) (v := ?_) ?_ hHeld ?_
  rotate_left
  · (intro ww _; go_simp; try with_reducible rfl)
  refine tkW 10 (some 11) (v := ?_) ?_ hHeld ?_
  rotate_left
  · (intro ww _; go_simp; try with_reducible rfl)
  refine wpAnyH_done (by kernel_rfl) ?_ _
  clear hHeld
  have n0 := HN.out.n0
  have n1 := HN.out.n1
  have p0 := HN.out.p0
  have p1 := HN.out.p1
  have t0 := HN.out.t0
  have t1 := HN.out.t1
  go_wp2_with fail
  clear n0 n1 p0 p1 t0 t1
  refine (do_any F tb (madeL l) (1099511627776, 63) nd pr _ HN.out.md.tr (by have := HLl.out; omega)).mono ?_
  rintro e w5 hd
  obtain ⟨he, hd2⟩ := id hd
  obtain ⟨F2, hN2⟩ := HN.out.did hd
  clear hd hd2
  rcases doE_ran (madeL l) (⟨(1099511627776, 63), nd, pr⟩ : Mv) with hE | hE | hE
  · rw [hE] at he
    subst he
    rw [doL_err (by rw [hE]; decide)] at hN2
    replace HN : Hid (NwS W0 w.heap.size tb F2 dv (madeL l) (madeL l) nd pr ab (.slice aw (doneT (madeL l)).length cw) (doneT (madeL l)) w5) := hN2
    clear hN2 hE
    have n0 := HN.out.n0
    have n1 := HN.out.n1
    have p0 := HN.out.p0
    have p1 := HN.out.p1
    have t0 := HN.out.t0
    have t1 := HN.out.t1
    go_wp2_with fail
    clear n0 n1 p0 p1 t0 t1
    refine (all_any F2 (.pointer (some ⟨tb, 0, none⟩)) (madeL l) _ HN.out.md.tv HN.out.md.tr.lt).mono ?_
    rintro e w6a ⟨v7, rfl, ho, ha⟩
    have hF7 := HN.out.md.tr.lt
    have hs7 := ho.lt
    replace HN : Hid (NwS W0 w.heap.size tb F2 dv (madeL l) (madeL l) nd pr ab (.slice aw (doneT (madeL l)).length cw) (doneT (madeL l)) w6a) := HN.out.asked ha
    have HV7 : Hid (LsE plCells 6 (fun _ => True) w6a v7 (doneT (madeL l))) := by (have h9 := ho; exact h9.lsE plCells_len (by have := HTl.out; omega) (fun _ _ => trivial))
    obtain ⟨a7, c7, e7⟩ := ho.form
    subst e7
    clear ho ha hF7 hs7
    have n0 := HN.out.n0
    have n1 := HN.out.n1
    have p0 := HN.out.p0
    have p1 := HN.out.p1
    have t0 := HN.out.t0
    have t1 := HN.out.t1
    go_wp2_with fail
    clear n0 n1 p0 p1 t0 t1
    refine (same_eq (fun _ => True) (fun j => ¬ F2 j) _ _ (doneT (madeL l)) _ HV7.out HN.out.was).mono ?_
    rintro e w6b ⟨rfl, hb⟩
    replace HN : Hid (NwS W0 w.heap.size tb F2 dv (madeL l) (madeL l) nd pr ab (.slice aw (doneT (madeL l)).length cw) (doneT (madeL l)) w6b) := HN.out.below hb
    clear hb HV7
    have n0 := HN.out.n0
    have n1 := HN.out.n1
    have p0 := HN.out.p0
    have p1 := HN.out.p1
    have t0 := HN.out.t0
    have t1 := HN.out.t1
    go_wp2_with fail
    clear n0 n1 p0 p1 t0 t1
    refine (awake_any _).mono ?_
    rintro e w6c ⟨rfl, hb⟩
    replace HN : Hid (NwS W0 w.heap.size tb F2 dv (madeL l) (madeL l) nd pr ab (.slice aw (doneT (madeL l)).length cw) (doneT (madeL l)) w6c) := HN.out.below hb
    clear hb
    go_wp2
    go_ret
    exact ⟨rfl, HBe.out.trans (HN.out.md.bel.mono HBe.out.size)⟩
  · rw [hE] at he
    subst he
    rw [doL_err (by rw [hE]; decide)] at hN2
    replace HN : Hid (NwS W0 w.heap.size tb F2 dv (madeL l) (madeL l) nd pr ab (.slice aw (doneT (madeL l)).length cw) (doneT (madeL l)) w5) := hN2
    clear hN2 hE
    have n0 := HN.out.n0
    have n1 := HN.out.n1
    have p0 := HN.out.p0
    have p1 := HN.out.p1
    have t0 := HN.out.t0
    have t1 := HN.out.t1
    go_wp2_with fail
    clear n0 n1 p0 p1 t0 t1
    refine (all_any F2 (.pointer (some ⟨tb, 0, none⟩)) (madeL l) _ HN.out.md.tv HN.out.md.tr.lt).mono ?_
    rintro e w6a ⟨v7, rfl, ho, ha⟩
    have hF7 := HN.out.md.tr.lt
    have hs7 := ho.lt
    replace HN : Hid (NwS W0 w.heap.size tb F2 dv (madeL l) (madeL l) nd pr ab (.slice aw (doneT (madeL l)).length cw) (doneT (madeL l)) w6a) := HN.out.asked ha
    have HV7 : Hid (LsE plCells 6 (fun _ => True) w6a v7 (doneT (madeL l))) := by (have h9 := ho; exact h9.lsE plCells_len (by have := HTl.out; omega) (fun _ _ => trivial))
    obtain ⟨a7, c7, e7⟩ := ho.form
    subst e7
    clear ho ha hF7 hs7
    have n0 := HN.out.n0
    have n1 := HN.out.n1
    have p0 := HN.out.p0
    have p1 := HN.out.p1
    have t0 := HN.out.t0
    have t1 := HN.out.t1
    go_wp2_with fail
    clear n0 n1 p0 p1 t0 t1
    refine (same_eq (fun _ => True) (fun j => ¬ F2 j) _ _ (doneT (madeL l)) _ HV7.out HN.out.was).mono ?_
    rintro e w6b ⟨rfl, hb⟩
    replace HN : Hid (NwS W0 w.heap.size tb F2 dv (madeL l) (madeL l) nd pr ab (.slice aw (doneT (madeL l)).length cw) (doneT (madeL l)) w6b) := HN.out.below hb
    clear hb HV7
    have n0 := HN.out.n0
    have n1 := HN.out.n1
    have p0 := HN.out.p0
    have p1 := HN.out.p1
    have t0 := HN.out.t0
    have t1 := HN.out.t1
    go_wp2_with fail
    clear n0 n1 p0 p1 t0 t1
    refine (awake_any _).mono ?_
    rintro e w6c ⟨rfl, hb⟩
    replace HN : Hid (NwS W0 w.heap.size tb F2 dv (madeL l) (madeL l) nd pr ab (.slice aw (doneT (madeL l)).length cw) (doneT (madeL l)) w6c) := HN.out.below hb
    clear hb
    go_wp2
    go_ret
    exact ⟨rfl, HBe.out.trans (HN.out.md.bel.mono HBe.out.size)⟩
  · obtain ⟨hc1, hc2⟩ := newest (m := (⟨(1099511627776, 63), nd, pr⟩ : Mv)) (madeL_fm l) rfl hE
    rw [hE] at he
    subst he
    rw [show cntB (doneT (madeL l)) (⟨(1099511627776, 63), nd, pr⟩ : Mv) = true from HCn.out] at hc1
    have HC1 : Hid (cntS (doL (madeL l) (⟨(1099511627776, 63), nd, pr⟩ : Mv)) (1099511627776, 63) = true) := hc1
    have HDn : Hid (doneT (doL (madeL l) (⟨(1099511627776, 63), nd, pr⟩ : Mv)) = setT (doneT (madeL l)) (plOf (⟨(1099511627776, 63), nd, pr⟩ : Mv))) := by (show _ = _; rw [hc2]; unfold doM; rw [show cntB (doneT (madeL l)) (⟨(1099511627776, 63), nd, pr⟩ : Mv) = true from HCn.out]; rfl)
    replace HN : Hid (NwS W0 w.heap.size tb F2 dv (doL (madeL l) (⟨(1099511627776, 63), nd, pr⟩ : Mv)) (madeL l) nd pr ab (.slice aw (doneT (madeL l)).length cw) (doneT (madeL l)) w5) := hN2
    clear hN2 hE hc1 hc2
    have n0 := HN.out.n0
    have n1 := HN.out.n1
    have p0 := HN.out.p0
    have p1 := HN.out.p1
    have t0 := HN.out.t0
    have t1 := HN.out.t1
    go_wp2_with fail
    clear n0 n1 p0 p1 t0 t1
    refine (counts_any F2 (.pointer (some ⟨tb, 0, none⟩)) (doL (madeL l) (⟨(1099511627776, 63), nd, pr⟩ : Mv)) (1099511627776, 63) _ HN.out.md.tv HN.out.md.tr.lt).mono ?_
    rintro e w7 ⟨he, ha⟩
    rw [HC1.out] at he
    subst he
    replace HN : Hid (NwS W0 w.heap.size tb F2 dv (doL (madeL l) (⟨(1099511627776, 63), nd, pr⟩ : Mv)) (madeL l) nd pr ab (.slice aw (doneT (madeL l)).length cw) (doneT (madeL l)) w7) := HN.out.asked ha
    clear ha HC1
    have n0 := HN.out.n0
    have n1 := HN.out.n1
    have p0 := HN.out.p0
    have p1 := HN.out.p1
    have t0 := HN.out.t0
    have t1 := HN.out.t1
    go_wp2_with fail
    clear n0 n1 p0 p1 t0 t1
    refine (where_any F2 (.pointer (some ⟨tb, 0, none⟩)) (doL (madeL l) (⟨(1099511627776, 63), nd, pr⟩ : Mv)) nd _ HN.out.md.tv HN.out.md.tr.lt).mono ?_
    rintro e w8 ⟨he, ha⟩
    have hwh : whT (doneT (doL (madeL l) (⟨(1099511627776, 63), nd, pr⟩ : Mv))) nd = some (plOf (⟨(1099511627776, 63), nd, pr⟩ : Mv)) := by (rw [HDn.out]; exact whT_set_same (goodT (madeL l)).srt (plOf (⟨(1099511627776, 63), nd, pr⟩ : Mv)))
    rw [hwh] at he
    have he2 : e = .returned (.tuple #[.agg #[.int .i64 nd.1, .int .i64 nd.2, .int .i64 pr.1, .int .i64 pr.2, .int .i64 1099511627776, .int .i64 63], .bool true]) := he
    subst he2
    clear he hwh
    replace HN : Hid (NwS W0 w.heap.size tb F2 dv (doL (madeL l) (⟨(1099511627776, 63), nd, pr⟩ : Mv)) (madeL l) nd pr ab (.slice aw (doneT (madeL l)).length cw) (doneT (madeL l)) w8) := HN.out.asked ha
    clear ha
    obtain ⟨w9, ew9⟩ : ∃ X, X = w8.alloc (.cells #[.int .i64 nd.1, .int .i64 nd.2, .int .i64 pr.1, .int .i64 pr.2, .int .i64 1099511627776, .int .i64 63] 43) := ⟨_, rfl⟩
    have hb9 : Below w8.heap.size w8 w9 := by rw [ew9]; exact (Below.refl _ _).alloc (Nat.le_refl _) _
    replace HN : Hid (NwS W0 w.heap.size tb F2 dv (doL (madeL l) (⟨(1099511627776, 63), nd, pr⟩ : Mv)) (madeL l) nd pr ab (.slice aw (doneT (madeL l)).length cw) (doneT (madeL l)) w9) := HN.out.below hb9
    have HeW : Hid (w9 = w8.alloc (.cells #[.int .i64 nd.1, .int .i64 nd.2, .int .i64 pr.1, .int .i64 pr.2, .int .i64 1099511627776, .int .i64 63] 43)) := ew9
    have n0 := HN.out.n0
    have n1 := HN.out.n1
    have p0 := HN.out.p0
    have p1 := HN.out.p1
    have t0 := HN.out.t0
    have t1 := HN.out.t1
    rw [ew9] at n0 n1 p0 p1 t0 t1
    clear ew9 hb9
    go_wp2_with fail
    rw [← HeW.out]
    clear n0 n1 p0 p1 t0 t1
    clear HeW
    refine (awake_any _).mono ?_
    rintro e w10 ⟨rfl, hb⟩
    replace HN : Hid (NwS W0 w.heap.size tb F2 dv (doL (madeL l) (⟨(1099511627776, 63), nd, pr⟩ : Mv)) (madeL l) nd pr ab (.slice aw (doneT (madeL l)).length cw) (doneT (madeL l)) w10) := HN.out.below hb
    clear hb
    go_wp2
    go_ret
    exact ⟨rfl, HBe.out.trans (HN.out.md.bel.mono HBe.out.size)⟩

theorem movesNewest_walk (v : Value) (l : List Ma) (nd pr : St) (w : World) (h : IsMa w v l) :
    Calls Try.prog 8 #[v, .agg #[.int .i64 nd.1, .int .i64 nd.2], .agg #[.int .i64 pr.1, .int .i64 pr.2]] w fun e w' => e = .returned (.bool true) ∧ Below w.heap.size w w' := by
  by_cases hnp : nd = pr
  · exact newest_same v l nd pr w h hnp
  · by_cases hr : nd ∈ upL (doneT (madeL l)) pr
    · exact newest_ring v l nd pr w h hnp hr
    · exact newest_free v l nd pr w h hnp hr

end Go.Proofs.Ytljepindfdhbbaa
