/- play: a call of both. -/
import Derived.Test.YtljepindfdhbbaaRfU
import Derived.Test.YtljepindfdhbbaaTrR
namespace Go.Proofs.Ytljepindfdhbbaa
open Go.RowKit
set_option linter.unusedVariables false
set_option linter.unusedSimpArgs false

/-- What a call makes of the moves. -/
def actL (L : List Mv) (a : Ma) : List Mv := if a.1 = 0 then doL L a.2 else if a.1 = 1 then delM L a.2.ts else L
/-- The state of play. -/
structure PyS (w : World) (tb : Nat) (F : Nat → Prop) (dv : Value) (L1 L2 : List Mv) (xb : Nat) (a : Ma) (W : World) : Prop where
  md : MdS w tb F dv L1 L2 W
  row : W.heap[xb]? = some (.cells (maCells a).toArray 29)
  nx : ¬ F xb
theorem MdS.moved {w W W' : World} {tb : Nat} {F F' : Nat → Prop} {dv : Value} {L1 L2 L3 : List Mv} (h : MdS w tb F dv L1 L2 W) (ht : TreeOk F' W' tb L3) (hnew : ∀ k, F' k → F k ∨ W.heap.size ≤ k) (hto : Touch F W W') : MdS w tb F' dv L3 L2 W' :=
  ⟨ht, fun j hj => (hnew j hj).elim (h.hi j) (fun h1 => Nat.le_trans h.bel.size h1), h.doc.did hnew hto, h.bel.trans (hto.below h.hi h.bel.size)⟩
theorem PyS.moved {w W W' : World} {tb xb : Nat} {F F' : Nat → Prop} {dv : Value} {L1 L2 L3 : List Mv} {a : Ma} (h : PyS w tb F dv L1 L2 xb a W) (ht : TreeOk F' W' tb L3) (hnew : ∀ k, F' k → F k ∨ W.heap.size ≤ k) (hto : Touch F W W') : PyS w tb F' dv L3 L2 xb a W' :=
  ⟨h.md.moved ht hnew hto, row_touch h.row hto h.nx, fun hk => (hnew _ hk).elim h.nx (fun h1 => by have := row_lt h.row; omega)⟩

set_option maxRecDepth 100000 in
set_option maxHeartbeats 4000000 in
theorem play_any (w : World) (tb : Nat) (F : Nat → Prop) (dv : Value) (L : List Mv) (a : Ma) (W : World) (h : MdS w tb F dv L L W) (hl : L.length ≤ 4094) :
    Calls Try.prog 12 #[.pointer (some ⟨tb, 0, none⟩), dv, .agg (maCells a).toArray] W fun e W' => ∃ F' dv', e = .returned (.tuple #[dv', .bool true]) ∧ MdS w tb F' dv' (actL L a) (actL L a) W' := by
  obtain ⟨a1, c1, e1⟩ := h.doc.form
  rw [fl_length] at e1
  subst e1
  obtain ⟨W0, eW⟩ : ∃ X, X = W.alloc (.cells (maCells a).toArray 29) := ⟨_, rfl⟩
  obtain ⟨xb, exb⟩ : ∃ b, b = W.heap.size := ⟨_, rfl⟩
  have hb0 : Below W.heap.size W W0 := by rw [eW]; exact (Below.refl _ _).alloc (Nat.le_refl _) _
  have HN : Hid (PyS w tb F (.slice a1 L.length c1) L L xb a W0) := ⟨h.below hb0, by (rw [exb, eW]; exact heap_alloc_new _ _), fun hk => by have := h.tr.lt _ hk; omega⟩
  have HeW : Hid (W0 = W.alloc (.cells (maCells a).toArray 29)) := eW
  have HeX : Hid (xb = W.heap.size) := exb
  have f0 : W0.cell? ⟨xb, 0, none⟩ = some (.int .i64 a.1) := cellD HN.out.row 0 _ rfl
  have f1 : W0.cell? ⟨xb, 1, none⟩ = some (.int .i64 a.2.ts.1) := cellD HN.out.row 1 _ rfl
  have f2 : W0.cell? ⟨xb, 2, none⟩ = some (.int .i64 a.2.ts.2) := cellD HN.out.row 2 _ rfl
  have f3 : W0.cell? ⟨xb, 3, none⟩ = some (.int .i64 a.2.nd.1) := cellD HN.out.row 3 _ rfl
  have f4 : W0.cell? ⟨xb, 4, none⟩ = some (.int .i64 a.2.nd.2) := cellD HN.out.row 4 _ rfl
  have f5 : W0.cell? ⟨xb, 5, none⟩ = some (.int .i64 a.2.pr.1) := cellD HN.out.row 5 _ rfl
  have f6 : W0.cell? ⟨xb, 6, none⟩ = some (.int .i64 a.2.pr.2) := cellD HN.out.row 6 _ rfl
  rw [eW, exb] at f0 f1 f2 f3 f4 f5 f6
  clear h hb0 eW exb
  by_cases hk : a.1 = 0
  · go_enter Try.func12, Try.ntmps12
    have HAc : Hid (actL L a = doL L a.2) := by (show _ = _; unfold actL; rw [if_pos hk])
    rw [hk] at f0
    clear hk
    go_wp2_with fail
    rw [show W.alloc (.cells (maCells a).toArray 29) = W0 from HeW.out.symm, ← HeX.out]
    clear HeW HeX
    clear f0 f1 f2 f3 f4 f5 f6
    refine (refDo_any F (.slice a1 L.length c1) L a.2.ts a.2.nd a.2.pr _ HN.out.md.doc HN.out.md.tr.lt HN.out.md.tr.srt (by omega)).mono ?_
    rintro e w2 ⟨dv2, rfl, hd, hb⟩
    replace HN : Hid (PyS w tb F dv2 L (doL L a.2) xb a w2) := ⟨HN.out.md.doc2 hd hb, (hb.block _ (row_lt HN.out.row)).trans HN.out.row, HN.out.nx⟩
    clear hd hb
    have f1 : w2.cell? ⟨xb, 1, none⟩ = some (.int .i64 a.2.ts.1) := cellD HN.out.row 1 _ rfl
    have f2 : w2.cell? ⟨xb, 2, none⟩ = some (.int .i64 a.2.ts.2) := cellD HN.out.row 2 _ rfl
    have f3 : w2.cell? ⟨xb, 3, none⟩ = some (.int .i64 a.2.nd.1) := cellD HN.out.row 3 _ rfl
    have f4 : w2.cell? ⟨xb, 4, none⟩ = some (.int .i64 a.2.nd.2) := cellD HN.out.row 4 _ rfl
    have f5 : w2.cell? ⟨xb, 5, none⟩ = some (.int .i64 a.2.pr.1) := cellD HN.out.row 5 _ rfl
    have f6 : w2.cell? ⟨xb, 6, none⟩ = some (.int .i64 a.2.pr.2) := cellD HN.out.row 6 _ rfl
    go_wp2_with fail
    clear f1 f2 f3 f4 f5 f6
    refine (do_any F tb L a.2.ts a.2.nd a.2.pr _ HN.out.md.tr (by omega)).mono ?_
    rintro e w3 ⟨he, F2, ht, hsub, hnew, hto⟩
    subst he
    replace HN : Hid (PyS w tb F2 dv2 (doL L a.2) (doL L a.2) xb a w3) := HN.out.moved ht hnew hto
    clear ht hsub hnew hto
    go_wp2
    go_ret2
    exact ⟨_, _, rfl, by (rw [HAc.out]; exact HN.out.md)⟩
  · by_cases hk1 : a.1 = 1
    · go_enter Try.func12, Try.ntmps12
      have HAc : Hid (actL L a = delM L a.2.ts) := by (show _ = _; unfold actL; rw [if_neg (by omega), if_pos hk1])
      rw [hk1] at f0
      clear hk hk1
      go_wp2_with fail
      rw [show W.alloc (.cells (maCells a).toArray 29) = W0 from HeW.out.symm, ← HeX.out]
      clear HeW HeX
      clear f0 f1 f2 f3 f4 f5 f6
      refine (refUndo_any F (.slice a1 L.length c1) L a.2.ts _ HN.out.md.doc HN.out.md.tr.lt HN.out.md.tr.srt (by omega)).mono ?_
      rintro e w2 ⟨dv2, rfl, hd, hb⟩
      replace HN : Hid (PyS w tb F dv2 L (delM L a.2.ts) xb a w2) := ⟨HN.out.md.doc2 hd hb, (hb.block _ (row_lt HN.out.row)).trans HN.out.row, HN.out.nx⟩
      clear hd hb
      have f1 : w2.cell? ⟨xb, 1, none⟩ = some (.int .i64 a.2.ts.1) := cellD HN.out.row 1 _ rfl
      have f2 : w2.cell? ⟨xb, 2, none⟩ = some (.int .i64 a.2.ts.2) := cellD HN.out.row 2 _ rfl
      go_wp2_with fail
      clear f1 f2
      refine (undo_any F tb L a.2.ts _ HN.out.md.tr).mono ?_
      rintro e w3 ⟨he, F2, ht, hsub, hnew, hto⟩
      subst he
      replace HN : Hid (PyS w tb F2 dv2 (delM L a.2.ts) (delM L a.2.ts) xb a w3) := HN.out.moved ht hnew hto
      clear ht hsub hnew hto
      go_wp2
      go_ret2
      exact ⟨_, _, rfl, by (rw [HAc.out]; exact HN.out.md)⟩
    · go_enter Try.func12, Try.ntmps12
      have HAc : Hid (actL L a = L) := by (show _ = _; unfold actL; rw [if_neg hk, if_neg hk1])
      go_wp2
      go_ret2
      exact ⟨F, _, rfl, by (rw [HAc.out]; have h9 := HN.out.md; rw [HeW.out] at h9; exact h9)⟩

end Go.Proofs.Ytljepindfdhbbaa
