/- The document's Take of an empty buffer. -/
import Derived.Test.YtkppjlnhdmbaiabCaN
namespace Go.Proofs.Ytkppjlnhdmbaiab
open Go.RowKit
set_option linter.unusedVariables false
set_option linter.unusedSimpArgs false

theorem sizeBuf : (Try.prog.info? 30).map (·.size) = some 2 := by kernel_rfl
/-- The boxes of the buffer, of the change, of the result. -/
structure TkB (w : World) (cs : Array Value) (W : World) : Prop where
  r0 : W.heap[w.heap.size]? = some (.cells #[.int .i64 0, .slice none 0 0] 30)
  r1 : W.heap[w.heap.size + 1]? = some (.cells cs 26)
  r2 : W.heap[w.heap.size + 2]? = some (.cells #[.int .i64 0, .slice none 0 0] 30)
  bel : Below w.heap.size w W
theorem TkB.below {w : World} {cs : Array Value} {W W' : World} (h : TkB w cs W) (hb : Below W.heap.size W W') : TkB w cs W' := ⟨(hb.block _ (Array.getElem?_eq_some_iff.1 h.r0).1).trans h.r0, (hb.block _ (Array.getElem?_eq_some_iff.1 h.r1).1).trans h.r1, (hb.block _ (Array.getElem?_eq_some_iff.1 h.r2).1).trans h.r2, h.bel.trans (hb.mono h.bel.size)⟩
theorem TkB.setRow {w : World} {cs : Array Value} {W : World} (h : TkB w cs W) : TkB w cs (W.setRow (w.heap.size + 2) #[.int .i64 0, .slice none 0 0]) := by
  have ht := touch_setRow W (w.heap.size + 2) #[.int .i64 0, .slice none 0 0]
  exact ⟨(ht.block _ (Array.getElem?_eq_some_iff.1 h.r0).1 (by omega)).trans h.r0, (ht.block _ (Array.getElem?_eq_some_iff.1 h.r1).1 (by omega)).trans h.r1, setRow_same h.r2, h.bel.trans (ht.below (fun k e => by omega) h.bel.size)⟩
theorem row2c {W : World} {b : Nat} {v0 v1 : Value} {t : TypeId} (h : W.heap[b]? = some (.cells #[v0, v1] t)) : W.cell? ⟨b, 0, none⟩ = some v0 ∧ W.cell? ⟨b, 1, none⟩ = some v1 := ⟨by rw [cell_of_row W b 0 _ _ _ h]; rfl, by rw [cell_of_row W b 1 _ _ _ h]; rfl⟩
theorem row_set2 {W : World} {b : Nat} {z0 z1 v0 v1 : Value} {t : TypeId} (h : W.heap[b]? = some (.cells #[z0, z1] t)) : ((W.setCell ⟨b, 0, none⟩ v0).setCell ⟨b, 1, none⟩ v1).heap[b]? = some (.cells #[v0, v1] t) := by
  have hlt : b < W.heap.size := (Array.getElem?_eq_some_iff.1 h).1
  have h1 : (W.setCell ⟨b, 0, none⟩ v0).heap[b]? = some (.cells #[v0, z1] t) := by
    simp [World.setCell, Array.getElem?_modify, h]
  simp [World.setCell, Array.getElem?_modify, h]

theorem isH_one {W : World} {g b : Nat} {c : Ch} {a : Option Addr} {n : Nat} {z0 z1 v0 v1 : Value} {t : TypeId} (h : HasB W g (chCells c (.slice a c.deps.length n)).toArray) (hr : W.heap[b]? = some (.cells #[z0, z1] t)) (hi : IsI ((W.setCell ⟨b, 0, none⟩ v0).setCell ⟨b, 1, none⟩ v1) (.slice a c.deps.length n) c.deps) (hs : Sized c) : IsH ((W.setCell ⟨b, 0, none⟩ v0).setCell ⟨b, 1, none⟩ v1) (.slice (some ⟨g, 0, none⟩) 1 1) [c] := by
  have hne : g ≠ b := fun e => by
    have h1 : W.heap[g]? = some (.cells (chCells c (.slice a c.deps.length n)).toArray 26) := h
    rw [e, hr] at h1
    have := congrArg (fun o => match o with | some (Obj.cells cs _ _) => cs.size | _ => 0) h1
    simp [chCells] at this
  have h2 : ((W.setCell ⟨b, 0, none⟩ v0).setCell ⟨b, 1, none⟩ v1).heap[g]? = some (.cells (chCells c (.slice a c.deps.length n)).toArray 26) := (RowKit.Below.heap_setCell _ _ _ _ (by show g ≠ b; exact hne)).trans ((RowKit.Below.heap_setCell _ _ _ _ (by show g ≠ b; exact hne)).trans h)
  refine ⟨some ⟨g, 0, none⟩, 1, rfl, Nat.le_refl _, by simp, .inr ⟨g, 0, rfl, fun i hi2 => ?_⟩⟩
  obtain rfl : i = 0 := by simpa using hi2
  refine ⟨_, fun j u hj => ?_, hi, hs⟩
  rw [show 0 + 0 * 13 + j = j by omega, cell_of_row _ g j _ _ _ h2]
  simpa using hj

set_option maxRecDepth 100000 in
set_option maxHeartbeats 8000000 in
theorem refTake0 (ac ar sq : Int) (dv : Value) (kd nc nr pc pr fc fr : Int) (nm vl : ByteArray) (ds : List Int) (kv : Value) (kn : List Int) (w : World) (hk : IsI w kv kn) (hd : IsI w dv ds) (hs : Sized (⟨ac, ar, sq, ds, kd, nc, nr, pc, pr, fc, fr, nm, vl⟩ : Ch)) :
    Calls Try.prog 4 #[.agg #[.int .i64 0, .slice none 0 0], kv, .agg #[.int .i64 ac, .int .i64 ar, .int .i64 sq, dv, .int .i64 kd, .int .i64 nc, .int .i64 nr, .int .i64 pc, .int .i64 pr, .int .i64 fc, .int .i64 fr, .string nm, .string vl]] w fun e w' => ∃ a n c, e = .returned (.tuple #[.agg #[.int .i64 0, .slice none 0 0], .slice a n c, .int .i64 (takeR 0 [] kn (⟨ac, ar, sq, ds, kd, nc, nr, pc, pr, fc, fr, nm, vl⟩ : Ch)).2.2]) ∧ IsH w' (.slice a n c) (takeR 0 [] kn (⟨ac, ar, sq, ds, kd, nc, nr, pc, pr, fc, fr, nm, vl⟩ : Ch)).2.1 ∧ Below w.heap.size w w' := by
  obtain ⟨a0, c0, e0⟩ := hk.form
  subst e0
  obtain ⟨a1, c1, e1⟩ := hd.form
  subst e1
  have HIk : Hid (IsI w (.slice a0 kn.length c0) kn) := hk
  have HId : Hid (IsI w (.slice a1 ds.length c1) ds) := hd
  obtain ⟨W0, eW⟩ : ∃ X, X = ((w.alloc (.cells #[.int .i64 0, .slice none 0 0] 30)).alloc (.cells #[.int .i64 ac, .int .i64 ar, .int .i64 sq, .slice a1 ds.length c1, .int .i64 kd, .int .i64 nc, .int .i64 nr, .int .i64 pc, .int .i64 pr, .int .i64 fc, .int .i64 fr, .string nm, .string vl] 26)).alloc (.cells #[.int .i64 0, .slice none 0 0] 30) := ⟨_, rfl⟩
  have HT : Hid (TkB w #[.int .i64 ac, .int .i64 ar, .int .i64 sq, .slice a1 ds.length c1, .int .i64 kd, .int .i64 nc, .int .i64 nr, .int .i64 pc, .int .i64 pr, .int .i64 fc, .int .i64 fr, .string nm, .string vl] W0) := by
    have h1 := heap_alloc_new (w.alloc (.cells #[.int .i64 0, .slice none 0 0] 30)) (.cells #[.int .i64 ac, .int .i64 ar, .int .i64 sq, .slice a1 ds.length c1, .int .i64 kd, .int .i64 nc, .int .i64 nr, .int .i64 pc, .int .i64 pr, .int .i64 fc, .int .i64 fr, .string nm, .string vl] 26)
    rw [show (w.alloc (.cells #[.int .i64 0, .slice none 0 0] 30)).heap.size = w.heap.size + 1 by simp] at h1
    have h2 := heap_alloc_new ((w.alloc (.cells #[.int .i64 0, .slice none 0 0] 30)).alloc (.cells #[.int .i64 ac, .int .i64 ar, .int .i64 sq, .slice a1 ds.length c1, .int .i64 kd, .int .i64 nc, .int .i64 nr, .int .i64 pc, .int .i64 pr, .int .i64 fc, .int .i64 fr, .string nm, .string vl] 26)) (.cells #[.int .i64 0, .slice none 0 0] 30)
    rw [show ((w.alloc (.cells #[.int .i64 0, .slice none 0 0] 30)).alloc (.cells #[.int .i64 ac, .int .i64 ar, .int .i64 sq, .slice a1 ds.length c1, .int .i64 kd, .int .i64 nc, .int .i64 nr, .int .i64 pc, .int .i64 pr, .int .i64 fc, .int .i64 fr, .string nm, .string vl] 26)).heap.size = w.heap.size + 2 by simp] at h2
    rw [eW]
    exact ⟨(Below.heap_alloc _ _ _ (by simp; omega)).trans ((Below.heap_alloc _ _ _ (by simp)).trans (heap_alloc_new w _)), (Below.heap_alloc _ _ _ (by simp)).trans h1, h2, (((Below.refl _ _).alloc (Nat.le_refl _) _).alloc (by simp) _).alloc (by simp; omega) _⟩
  have HN : Hid (newH [] kn (⟨ac, ar, sq, ds, kd, nc, nr, pc, pr, fc, fr, nm, vl⟩ : Ch) = if checkL kn ≠ 0 then checkL kn else if checkCh (⟨ac, ar, sq, ds, kd, nc, nr, pc, pr, fc, fr, nm, vl⟩ : Ch) ≠ 0 then checkCh (⟨ac, ar, sq, ds, kd, nc, nr, pc, pr, fc, fr, nm, vl⟩ : Ch) else if withinB (⟨ac, ar, sq, ds, kd, nc, nr, pc, pr, fc, fr, nm, vl⟩ : Ch) kn = true then 5 else 0) := by
    show _ = _
    unfold newH
    simp [ownC]
  have HT0 : Hid (takeR 0 [] kn (⟨ac, ar, sq, ds, kd, nc, nr, pc, pr, fc, fr, nm, vl⟩ : Ch) = if newH [] kn (⟨ac, ar, sq, ds, kd, nc, nr, pc, pr, fc, fr, nm, vl⟩ : Ch) ≠ 0 then ([], [], newH [] kn (⟨ac, ar, sq, ds, kd, nc, nr, pc, pr, fc, fr, nm, vl⟩ : Ch)) else if readyB kn (⟨ac, ar, sq, ds, kd, nc, nr, pc, pr, fc, fr, nm, vl⟩ : Ch) = true then ([], [(⟨ac, ar, sq, ds, kd, nc, nr, pc, pr, fc, fr, nm, vl⟩ : Ch)], 0) else ([], [], 6)) := by
    show _ = _
    unfold takeR
    split
    · rfl
    · split
      · rfl
      · rw [if_pos (by simp)]
  clear hk hd
  go_enter Try.func4, Try.ntmps4
  go_wp2_with fail
  rw [← eW]
  clear eW
  refine (refCheck_any _ kn _ (HIk.out.below HT.out.bel)).mono ?_
  rintro e w1 ⟨rfl, hw1⟩
  replace hw1 := hw1.symm
  subst hw1
  obtain ⟨ck, eck⟩ : ∃ x, x = checkL kn := ⟨_, rfl⟩
  rw [← eck]
  have HCk : Hid (checkL kn = ck) := eck.symm
  clear eck
  by_cases hck : ck = 0
  · subst hck
    have HOk : Hid (OkC kn) := (checkL_ok kn).1 HCk.out
    obtain ⟨k_0, k_1, k_2, k_3, k_4, k_5, k_6, k_7, k_8, k_9, k_10, k_11, k_12⟩ := row_cells HT.out.r1
    obtain ⟨b_0, b_1⟩ := row2c HT.out.r0
    obtain ⟨d_0, d_1⟩ := row2c HT.out.r2
    have g_0 := row_free HT.out.r2 0
    have g_1 := row_free HT.out.r2 1
    go_wp2_with fail
    refine (refCheckCh_any ac ar sq (.slice a1 ds.length c1) kd nc nr pc pr fc fr nm vl ds hs.1 _ (HId.out.below HT.out.bel)).mono ?_
    rintro e w1 ⟨rfl, hb1⟩
    replace HT : Hid (TkB w #[.int .i64 ac, .int .i64 ar, .int .i64 sq, .slice a1 ds.length c1, .int .i64 kd, .int .i64 nc, .int .i64 nr, .int .i64 pc, .int .i64 pr, .int .i64 fc, .int .i64 fr, .string nm, .string vl] w1) := HT.out.below hb1
    clear hb1
    clear k_0 k_1 k_2 k_3 k_4 k_5 k_6 k_7 k_8 k_9 k_10 k_11 k_12 b_0 b_1 d_0 d_1 g_0 g_1
    obtain ⟨ck, eck⟩ : ∃ x, x = checkCh (⟨ac, ar, sq, ds, kd, nc, nr, pc, pr, fc, fr, nm, vl⟩ : Ch) := ⟨_, rfl⟩
    rw [← eck]
    have HCc : Hid (checkCh (⟨ac, ar, sq, ds, kd, nc, nr, pc, pr, fc, fr, nm, vl⟩ : Ch) = ck) := eck.symm
    clear eck
    by_cases hcc : ck = 0
    · subst hcc
      obtain ⟨k_0, k_1, k_2, k_3, k_4, k_5, k_6, k_7, k_8, k_9, k_10, k_11, k_12⟩ := row_cells HT.out.r1
      obtain ⟨b_0, b_1⟩ := row2c HT.out.r0
      obtain ⟨d_0, d_1⟩ := row2c HT.out.r2
      have g_0 := row_free HT.out.r2 0
      have g_1 := row_free HT.out.r2 1
      go_wp2_with fail
      refine (refWithin_any ac ar sq (.slice a1 ds.length c1) kd nc nr pc pr fc fr nm vl ds _ kn _ (HIk.out.below HT.out.bel)).mono ?_
      rintro e w2 ⟨rfl, hb2⟩
      replace HT : Hid (TkB w #[.int .i64 ac, .int .i64 ar, .int .i64 sq, .slice a1 ds.length c1, .int .i64 kd, .int .i64 nc, .int .i64 nr, .int .i64 pc, .int .i64 pr, .int .i64 fc, .int .i64 fr, .string nm, .string vl] w2) := HT.out.below hb2
      clear hb2
      clear k_0 k_1 k_2 k_3 k_4 k_5 k_6 k_7 k_8 k_9 k_10 k_11 k_12 b_0 b_1 d_0 d_1 g_0 g_1
      obtain ⟨wb, ewb⟩ : ∃ b, b = withinB (⟨ac, ar, sq, ds, kd, nc, nr, pc, pr, fc, fr, nm, vl⟩ : Ch) kn := ⟨_, rfl⟩
      rw [← ewb]
      have HWb : Hid (withinB (⟨ac, ar, sq, ds, kd, nc, nr, pc, pr, fc, fr, nm, vl⟩ : Ch) kn = wb) := ewb.symm
      clear ewb
      cases wb
      · have HN0 : Hid (newH [] kn (⟨ac, ar, sq, ds, kd, nc, nr, pc, pr, fc, fr, nm, vl⟩ : Ch) = 0) := by
          show _ = _
          rw [HN.out, HCk.out, HCc.out, HWb.out]
          rfl
        obtain ⟨k_0, k_1, k_2, k_3, k_4, k_5, k_6, k_7, k_8, k_9, k_10, k_11, k_12⟩ := row_cells HT.out.r1
        obtain ⟨b_0, b_1⟩ := row2c HT.out.r0
        obtain ⟨d_0, d_1⟩ := row2c HT.out.r2
        have g_0 := row_free HT.out.r2 0
        have g_1 := row_free HT.out.r2 1
        go_wp2_with fail
        refine (refOwn0 none 0 ar sq _).mono ?_
        rintro e w3 ⟨rfl, hw3⟩
        replace hw3 := hw3.symm
        subst hw3
        go_wp2_with fail
        refine (ripe_any ac ar sq (.slice a1 ds.length c1) kd nc nr pc pr fc fr nm vl ds _ kn _ (HIk.out.below HT.out.bel) (HId.out.below HT.out.bel) HOk.out (by have h1 := right_of HCc.out; simp only at h1; omega)).mono ?_
        rintro e w4 ⟨rfl, hb4⟩
        replace HT : Hid (TkB w #[.int .i64 ac, .int .i64 ar, .int .i64 sq, .slice a1 ds.length c1, .int .i64 kd, .int .i64 nc, .int .i64 nr, .int .i64 pc, .int .i64 pr, .int .i64 fc, .int .i64 fr, .string nm, .string vl] w4) := HT.out.below hb4
        clear hb4
        clear k_0 k_1 k_2 k_3 k_4 k_5 k_6 k_7 k_8 k_9 k_10 k_11 k_12 b_0 b_1 d_0 d_1 g_0 g_1
        obtain ⟨rb, erb⟩ : ∃ b, b = readyB kn (⟨ac, ar, sq, ds, kd, nc, nr, pc, pr, fc, fr, nm, vl⟩ : Ch) := ⟨_, rfl⟩
        rw [← erb]
        have HRb : Hid (readyB kn (⟨ac, ar, sq, ds, kd, nc, nr, pc, pr, fc, fr, nm, vl⟩ : Ch) = rb) := erb.symm
        clear erb
        cases rb
        · have HR : Hid (takeR 0 [] kn (⟨ac, ar, sq, ds, kd, nc, nr, pc, pr, fc, fr, nm, vl⟩ : Ch) = ([], [], 6)) := by
            show _ = _
            rw [HT0.out, HN0.out, HRb.out]
            rfl
          obtain ⟨k_0, k_1, k_2, k_3, k_4, k_5, k_6, k_7, k_8, k_9, k_10, k_11, k_12⟩ := row_cells HT.out.r1
          obtain ⟨b_0, b_1⟩ := row2c HT.out.r0
          obtain ⟨d_0, d_1⟩ := row2c HT.out.r2
          have g_0 := row_free HT.out.r2 0
          have g_1 := row_free HT.out.r2 1
          go_wp2
          refine bodyPost_ret (v := .tuple #[.agg #[.int .i64 0, .slice none 0 0], .slice none 0 0, .int .i64 6]) ?res1 rfl ?post1
          case res1 => exact results_cell_row3 rfl _ _ (w.heap.size + 2) _ _ _ _ rfl (row_set2 HT.out.r2) Try.underlying30 rfl (by kernel_rfl) rfl rfl
          exact ⟨none, 0, 0, by rw [HR.out], by rw [HR.out]; exact IsH.non 0, ((HT.out.bel.setCell (p := ⟨w.heap.size + 2, 0, none⟩) (by show w.heap.size ≤ w.heap.size + 2; omega) _).setCell (p := ⟨w.heap.size + 2, 1, none⟩) (by show w.heap.size ≤ w.heap.size + 2; omega) _)⟩
        · have HR : Hid (takeR 0 [] kn (⟨ac, ar, sq, ds, kd, nc, nr, pc, pr, fc, fr, nm, vl⟩ : Ch) = ([], [(⟨ac, ar, sq, ds, kd, nc, nr, pc, pr, fc, fr, nm, vl⟩ : Ch)], 0)) := by
            show _ = _
            rw [HT0.out, HN0.out, HRb.out]
            rfl
          obtain ⟨k_0, k_1, k_2, k_3, k_4, k_5, k_6, k_7, k_8, k_9, k_10, k_11, k_12⟩ := row_cells HT.out.r1
          obtain ⟨b_0, b_1⟩ := row2c HT.out.r0
          obtain ⟨d_0, d_1⟩ := row2c HT.out.r2
          have g_0 := row_free HT.out.r2 0
          have g_1 := row_free HT.out.r2 1
          obtain ⟨W5, eW5⟩ : ∃ X, X = w4.alloc (.cells #[.int .i64 ac, .int .i64 ar, .int .i64 sq, .slice a1 ds.length c1, .int .i64 kd, .int .i64 nc, .int .i64 nr, .int .i64 pc, .int .i64 pr, .int .i64 fc, .int .i64 fr, .string nm, .string vl] 26) := ⟨_, rfl⟩
          have hb5 : Below w4.heap.size w4 W5 := by rw [eW5]; exact (Below.refl _ _).alloc (Nat.le_refl _) _
          have HT5 : Hid (TkB w #[.int .i64 ac, .int .i64 ar, .int .i64 sq, .slice a1 ds.length c1, .int .i64 kd, .int .i64 nc, .int .i64 nr, .int .i64 pc, .int .i64 pr, .int .i64 fc, .int .i64 fr, .string nm, .string vl] W5) := HT.out.below hb5
          have HO5 : Hid (HasB W5 w4.heap.size #[.int .i64 ac, .int .i64 ar, .int .i64 sq, .slice a1 ds.length c1, .int .i64 kd, .int .i64 nc, .int .i64 nr, .int .i64 pc, .int .i64 pr, .int .i64 fc, .int .i64 fr, .string nm, .string vl]) := by rw [eW5]; exact heap_alloc_new _ _
          have hT5 : TkB w #[.int .i64 ac, .int .i64 ar, .int .i64 sq, .slice a1 ds.length c1, .int .i64 kd, .int .i64 nc, .int .i64 nr, .int .i64 pc, .int .i64 pr, .int .i64 fc, .int .i64 fr, .string nm, .string vl] (w4.alloc (.cells #[.int .i64 ac, .int .i64 ar, .int .i64 sq, .slice a1 ds.length c1, .int .i64 kd, .int .i64 nc, .int .i64 nr, .int .i64 pc, .int .i64 pr, .int .i64 fc, .int .i64 fr, .string nm, .string vl] 26)) := by rw [← eW5]; exact HT5.out
          clear hb5
          obtain ⟨l_0, l_1, l_2, l_3, l_4, l_5, l_6, l_7, l_8, l_9, l_10, l_11, l_12⟩ := row_cells hT5.r1
          obtain ⟨h_0, h_1⟩ := row2c hT5.r0
          clear hT5
          go_wp2_with fail
          rw [← eW5]
          clear eW5 l_0 l_1 l_2 l_3 l_4 l_5 l_6 l_7 l_8 l_9 l_10 l_11 l_12 h_0 h_1
          clear k_0 k_1 k_2 k_3 k_4 k_5 k_6 k_7 k_8 k_9 k_10 k_11 k_12 b_0 b_1 d_0 d_1 g_0 g_1
          refine (refTickC_any ac ar sq (.slice a1 ds.length c1) kd nc nr pc pr fc fr nm vl _ kn _ (HIk.out.below HT5.out.bel)).mono ?_
          rintro e w6 ⟨v6, rfl, ho6, hb6⟩
          obtain ⟨a6, c6, e6⟩ := ho6.form
          subst e6
          have HT6 : Hid (TkB w #[.int .i64 ac, .int .i64 ar, .int .i64 sq, .slice a1 ds.length c1, .int .i64 kd, .int .i64 nc, .int .i64 nr, .int .i64 pc, .int .i64 pr, .int .i64 fc, .int .i64 fr, .string nm, .string vl] w6) := HT5.out.below hb6
          have HO6 : Hid (HasB w6 w4.heap.size #[.int .i64 ac, .int .i64 ar, .int .i64 sq, .slice a1 ds.length c1, .int .i64 kd, .int .i64 nc, .int .i64 nr, .int .i64 pc, .int .i64 pr, .int .i64 fc, .int .i64 fr, .string nm, .string vl]) := HO5.out.below hb6
          clear ho6 hb6 HT5 HO5 HT
          go_wp2
          refine wp_loop_rounds 1 ?_
          rw [rounds_succ]
          go_wp2_with fail
          refine (refNext0 _ none 0 _).mono ?_
          rintro e w7 ⟨rfl, hw7⟩
          replace hw7 := hw7.symm
          subst hw7
          have HH : Hid (IsH ((w6.setCell ⟨w.heap.size + 2, 0, none⟩ (.int .i64 0)).setCell ⟨w.heap.size + 2, 1, none⟩ (.slice none 0 0)) (.slice (some ⟨w4.heap.size, 0, none⟩) 1 1) [(⟨ac, ar, sq, ds, kd, nc, nr, pc, pr, fc, fr, nm, vl⟩ : Ch)]) := isH_one HO6.out HT6.out.r2 (HId.out.below ((HT6.out.bel.setCell (p := ⟨w.heap.size + 2, 0, none⟩) (by show w.heap.size ≤ w.heap.size + 2; omega) _).setCell (p := ⟨w.heap.size + 2, 1, none⟩) (by show w.heap.size ≤ w.heap.size + 2; omega) _)) hs
          obtain ⟨k_0, k_1, k_2, k_3, k_4, k_5, k_6, k_7, k_8, k_9, k_10, k_11, k_12⟩ := row_cells HT6.out.r1
          obtain ⟨b_0, b_1⟩ := row2c HT6.out.r0
          obtain ⟨d_0, d_1⟩ := row2c HT6.out.r2
          have g_0 := row_free HT6.out.r2 0
          have g_1 := row_free HT6.out.r2 1
          go_wp2
          refine bodyPost_ret (v := .tuple #[.agg #[.int .i64 0, .slice none 0 0], .slice (some ⟨w4.heap.size, 0, none⟩) 1 1, .int .i64 0]) ?res2 rfl ?post2
          case res2 => exact results_cell_row3 rfl _ _ (w.heap.size + 2) _ _ _ _ rfl (row_set2 HT6.out.r2) Try.underlying30 rfl (by kernel_rfl) rfl rfl
          exact ⟨_, 1, 1, by rw [HR.out], by rw [HR.out]; exact HH.out, ((HT6.out.bel.setCell (p := ⟨w.heap.size + 2, 0, none⟩) (by show w.heap.size ≤ w.heap.size + 2; omega) _).setCell (p := ⟨w.heap.size + 2, 1, none⟩) (by show w.heap.size ≤ w.heap.size + 2; omega) _)⟩
      · have HR : Hid (takeR 0 [] kn (⟨ac, ar, sq, ds, kd, nc, nr, pc, pr, fc, fr, nm, vl⟩ : Ch) = ([], [], 5)) := by
          show _ = _
          have hn : newH [] kn (⟨ac, ar, sq, ds, kd, nc, nr, pc, pr, fc, fr, nm, vl⟩ : Ch) = 5 := by
            rw [HN.out, HCk.out, HCc.out, HWb.out]
            rfl
          rw [HT0.out, hn]
          rfl
        obtain ⟨k_0, k_1, k_2, k_3, k_4, k_5, k_6, k_7, k_8, k_9, k_10, k_11, k_12⟩ := row_cells HT.out.r1
        obtain ⟨b_0, b_1⟩ := row2c HT.out.r0
        obtain ⟨d_0, d_1⟩ := row2c HT.out.r2
        have g_0 := row_free HT.out.r2 0
        have g_1 := row_free HT.out.r2 1
        go_wp2
        refine bodyPost_ret (v := .tuple #[.agg #[.int .i64 0, .slice none 0 0], .slice none 0 0, .int .i64 5]) ?res3 rfl ?post3
        case res3 => exact results_cell_row3 rfl _ _ (w.heap.size + 2) _ _ _ _ rfl (row_set2 HT.out.r2) Try.underlying30 rfl (by kernel_rfl) rfl rfl
        exact ⟨none, 0, 0, by rw [HR.out], by rw [HR.out]; exact IsH.non 0, ((HT.out.bel.setCell (p := ⟨w.heap.size + 2, 0, none⟩) (by show w.heap.size ≤ w.heap.size + 2; omega) _).setCell (p := ⟨w.heap.size + 2, 1, none⟩) (by show w.heap.size ≤ w.heap.size + 2; omega) _)⟩
    · have hc3 : (ck == 0) = false := by simp [hcc]
      have HR : Hid (takeR 0 [] kn (⟨ac, ar, sq, ds, kd, nc, nr, pc, pr, fc, fr, nm, vl⟩ : Ch) = ([], [], ck)) := by
        show _ = _
        have hn : newH [] kn (⟨ac, ar, sq, ds, kd, nc, nr, pc, pr, fc, fr, nm, vl⟩ : Ch) = ck := by
          rw [HN.out, HCk.out, if_neg (by simp), HCc.out, if_pos hcc]
        rw [HT0.out, hn, if_pos hcc]
      go_wp2_with fail
      refine wp_region_held_drew (S := fun W' => TkB w #[.int .i64 ac, .int .i64 ar, .int .i64 sq, .slice a1 ds.length c1, .int .i64 kd, .int .i64 nc, .int .i64 nr, .int .i64 pc, .int .i64 pr, .int .i64 fc, .int .i64 fr, .string nm, .string vl] W') (by kernel_rfl) (HT.out.below (Below.refl _ _).drew) (fun hHeld => ?_)
      obtain ⟨Uq3u0, eW⟩ : ∃ X, X = w1.drew := ⟨_, rfl⟩
      have hb : Below w1.heap.size w1 Uq3u0 := by rw [eW]; exact (Below.refl _ _).drew
      rw [← eW] at hHeld ⊢
      clear eW hb
      refine wpAnyH_take (i := 0) (oi := ⟨some 22, _, _, _, _, _⟩) (v := ?vq3ux0) rfl (by kernel_rfl) (by kernel_rfl) (by kernel_rfl) (fun _ _ _ h => h) (Or.inl ⟨by rfl, ?hyq3ux0⟩) hHeld ?restq3ux0
      case hyq3ux0 => (intro w hSw; (try dsimp only at hSw); have hk := hSw; obtain ⟨k_0, k_1, k_2, k_3, k_4, k_5, k_6, k_7, k_8, k_9, k_10, k_11, k_12⟩ := row_cells hk.r1; obtain ⟨b_0, b_1⟩ := row2c hk.r0; go_simp; try with_reducible rfl)
      simp only [Act.put, List.setIfInBounds_toArray, List.set_cons_zero, List.set_cons_succ]
      refine wpAnyH_take (i := 1) (oi := ⟨some 23, _, _, _, _, _⟩) (v := ?vq3ux1) rfl (by kernel_rfl) (by kernel_rfl) (by kernel_rfl) (fun _ _ _ h => h) (Or.inl ⟨by rfl, ?hyq3ux1⟩) hHeld ?restq3ux1
      case hyq3ux1 => (intro w hSw; (try dsimp only at hSw); have hk := hSw; obtain ⟨k_0, k_1, k_2, k_3, k_4, k_5, k_6, k_7, k_8, k_9, k_10, k_11, k_12⟩ := row_cells hk.r1; obtain ⟨b_0, b_1⟩ := row2c hk.r0; go_simp; try with_reducible rfl)
      simp only [Act.put, List.setIfInBounds_toArray, List.set_cons_zero, List.set_cons_succ]
      refine wpAnyH_ready (rs := [2]) (by kernel_rfl) (by simp) ?_
      refine AllReadyH.cons (o := ⟨some 24, _, _, _, _, _⟩) rfl (fun K hK => ?_) AllReadyH.nil
      go_simp
      refine (refCheckCh_any ac ar sq (.slice a1 ds.length c1) kd nc nr pc pr fc fr nm vl ds hs.1 _ (HId.out.below hHeld.bel)).mono ?_
      rintro e Uq3u1 ⟨rfl, hb⟩
      rw [HCc.out]
      (try go_wp2_with fail)
      refine hK.out _ _ (hHeld.below hb) (fun hHeld2 => ?_)
      clear hK K hHeld
      have hHeld := hHeld2
      clear hHeld2
      (try simp only [Act.put, List.setIfInBounds_toArray, List.set_cons_zero, List.set_cons_succ])
      clear hb
      refine wpAnyH_ready (rs := [3]) (by kernel_rfl) (by simp) ?_
      refine AllReadyH.cons (o := ⟨none, _, _, _, _, _⟩) rfl (fun K hK => ?_) AllReadyH.nil
      refine step_store_row rfl 30 (.tmp 6) (.tmp 22) rfl (w.heap.size + 2) 30 #[.int .i64 0, .slice none 0 0] #[.int .i64 0, .slice none 0 0] rfl rfl hHeld.r2 sizeBuf rfl (by simp [Value.oneCell']) ?_
      obtain ⟨Uq3u2, eW⟩ : ∃ Y, Y = Uq3u1.setRow (w.heap.size + 2) #[.int .i64 0, .slice none 0 0] := ⟨_, rfl⟩
      rw [← eW]
      have hS2 : TkB w #[.int .i64 ac, .int .i64 ar, .int .i64 sq, .slice a1 ds.length c1, .int .i64 kd, .int .i64 nc, .int .i64 nr, .int .i64 pc, .int .i64 pr, .int .i64 fc, .int .i64 fr, .string nm, .string vl] Uq3u2 := by rw [eW]; exact hHeld.setRow
      refine hK.out _ _ (hS2) (fun hHeld2 => ?_)
      clear hK K hHeld
      have hHeld := hHeld2
      clear hHeld2
      (try simp only [Act.put, List.setIfInBounds_toArray, List.set_cons_zero, List.set_cons_succ])
      clear eW hS2
      refine wpAnyH_take (i := 4) (oi := ⟨some 7, _, _, _, _, _⟩) (v := ?vq3u_2_3x4) rfl (by kernel_rfl) (by kernel_rfl) (by kernel_rfl) (fun _ _ _ h => h) (Or.inl ⟨by rfl, ?hyq3u_2_3x4⟩) hHeld ?restq3u_2_3x4
      case hyq3u_2_3x4 => (intro w _; go_simp; try with_reducible rfl)
      simp only [Act.put, List.setIfInBounds_toArray, List.set_cons_zero, List.set_cons_succ]
      refine wpAnyH_take (i := 5) (oi := ⟨some 8, _, _, _, _, _⟩) (v := ?vq3u_2_3x5) rfl (by kernel_rfl) (by kernel_rfl) (by kernel_rfl) (fun _ _ _ h => h) (Or.inl ⟨by rfl, ?hyq3u_2_3x5⟩) hHeld ?restq3u_2_3x5
      case hyq3u_2_3x5 => (intro w _; go_simp; try with_reducible rfl)
      simp only [Act.put, List.setIfInBounds_toArray, List.set_cons_zero, List.set_cons_succ]
      refine wpAnyH_done (by kernel_rfl) ?_ _
      have HT2 : Hid (TkB w #[.int .i64 ac, .int .i64 ar, .int .i64 sq, .slice a1 ds.length c1, .int .i64 kd, .int .i64 nc, .int .i64 nr, .int .i64 pc, .int .i64 pr, .int .i64 fc, .int .i64 fr, .string nm, .string vl] Uq3u2) := hHeld
      clear hHeld
      go_wp2
      refine bodyPost_ret (v := .tuple #[.agg #[.int .i64 0, .slice none 0 0], .slice none 0 0, .int .i64 ck]) ?resq rfl ?postq
      case resq => exact results_cell_row3 rfl _ _ (w.heap.size + 2) _ _ _ _ rfl HT2.out.r2 Try.underlying30 rfl (by kernel_rfl) rfl rfl
      exact ⟨none, 0, 0, by rw [HR.out], by rw [HR.out]; exact IsH.non 0, HT2.out.bel⟩
  · have hc3 : (ck == 0) = false := by simp [hck]
    have HR : Hid (takeR 0 [] kn (⟨ac, ar, sq, ds, kd, nc, nr, pc, pr, fc, fr, nm, vl⟩ : Ch) = ([], [], ck)) := by
      show _ = _
      have hn : newH [] kn (⟨ac, ar, sq, ds, kd, nc, nr, pc, pr, fc, fr, nm, vl⟩ : Ch) = ck := by
        rw [HN.out, HCk.out, if_pos hck]
      rw [HT0.out, hn, if_pos hck]
    go_wp2_with fail
    refine wp_region_held_drew (S := fun W' => TkB w #[.int .i64 ac, .int .i64 ar, .int .i64 sq, .slice a1 ds.length c1, .int .i64 kd, .int .i64 nc, .int .i64 nr, .int .i64 pc, .int .i64 pr, .int .i64 fc, .int .i64 fr, .string nm, .string vl] W') (by kernel_rfl) (HT.out.below (Below.refl _ _).drew) (fun hHeld => ?_)
    obtain ⟨Up4u0, eW⟩ : ∃ X, X = W0.drew := ⟨_, rfl⟩
    have hb : Below W0.heap.size W0 Up4u0 := by rw [eW]; exact (Below.refl _ _).drew
    rw [← eW] at hHeld ⊢
    clear eW hb
    refine wpAnyH_take (i := 0) (oi := ⟨some 16, _, _, _, _, _⟩) (v := ?vp4ux0) rfl (by kernel_rfl) (by kernel_rfl) (by kernel_rfl) (fun _ _ _ h => h) (Or.inl ⟨by rfl, ?hyp4ux0⟩) hHeld ?restp4ux0
    case hyp4ux0 => (intro w hSw; (try dsimp only at hSw); have hk := hSw; obtain ⟨k_0, k_1, k_2, k_3, k_4, k_5, k_6, k_7, k_8, k_9, k_10, k_11, k_12⟩ := row_cells hk.r1; obtain ⟨b_0, b_1⟩ := row2c hk.r0; go_simp; try with_reducible rfl)
    simp only [Act.put, List.setIfInBounds_toArray, List.set_cons_zero, List.set_cons_succ]
    refine wpAnyH_take (i := 1) (oi := ⟨some 17, _, _, _, _, _⟩) (v := ?vp4ux1) rfl (by kernel_rfl) (by kernel_rfl) (by kernel_rfl) (fun _ _ _ h => h) (Or.inl ⟨by rfl, ?hyp4ux1⟩) hHeld ?restp4ux1
    case hyp4ux1 => (intro w _; go_simp; try with_reducible rfl)
    simp only [Act.put, List.setIfInBounds_toArray, List.set_cons_zero, List.set_cons_succ]
    refine wpAnyH_ready (rs := [2]) (by kernel_rfl) (by simp) ?_
    refine AllReadyH.cons (o := ⟨some 18, _, _, _, _, _⟩) rfl (fun K hK => ?_) AllReadyH.nil
    go_simp
    refine (refCheck_any _ kn _ (HIk.out.below hHeld.bel)).mono ?_
    rintro e Up4u1 ⟨rfl, hw⟩
    replace hw := hw.symm
    subst hw
    rw [HCk.out]
    (try go_wp2_with fail)
    refine hK.out _ _ (hHeld) (fun hHeld2 => ?_)
    clear hK K hHeld
    have hHeld := hHeld2
    clear hHeld2
    (try simp only [Act.put, List.setIfInBounds_toArray, List.set_cons_zero, List.set_cons_succ])
    refine wpAnyH_ready (rs := [3]) (by kernel_rfl) (by simp) ?_
    refine AllReadyH.cons (o := ⟨none, _, _, _, _, _⟩) rfl (fun K hK => ?_) AllReadyH.nil
    refine step_store_row rfl 30 (.tmp 6) (.tmp 16) rfl (w.heap.size + 2) 30 #[.int .i64 0, .slice none 0 0] #[.int .i64 0, .slice none 0 0] rfl rfl hHeld.r2 sizeBuf rfl (by simp [Value.oneCell']) ?_
    obtain ⟨Up4u2, eW⟩ : ∃ Y, Y = Up4u0.setRow (w.heap.size + 2) #[.int .i64 0, .slice none 0 0] := ⟨_, rfl⟩
    rw [← eW]
    have hS2 : TkB w #[.int .i64 ac, .int .i64 ar, .int .i64 sq, .slice a1 ds.length c1, .int .i64 kd, .int .i64 nc, .int .i64 nr, .int .i64 pc, .int .i64 pr, .int .i64 fc, .int .i64 fr, .string nm, .string vl] Up4u2 := by rw [eW]; exact hHeld.setRow
    refine hK.out _ _ (hS2) (fun hHeld2 => ?_)
    clear hK K hHeld
    have hHeld := hHeld2
    clear hHeld2
    (try simp only [Act.put, List.setIfInBounds_toArray, List.set_cons_zero, List.set_cons_succ])
    clear eW hS2
    refine wpAnyH_take (i := 4) (oi := ⟨some 7, _, _, _, _, _⟩) (v := ?vp4u_2_3x4) rfl (by kernel_rfl) (by kernel_rfl) (by kernel_rfl) (fun _ _ _ h => h) (Or.inl ⟨by rfl, ?hyp4u_2_3x4⟩) hHeld ?restp4u_2_3x4
    case hyp4u_2_3x4 => (intro w _; go_simp; try with_reducible rfl)
    simp only [Act.put, List.setIfInBounds_toArray, List.set_cons_zero, List.set_cons_succ]
    refine wpAnyH_take (i := 5) (oi := ⟨some 8, _, _, _, _, _⟩) (v := ?vp4u_2_3x5) rfl (by kernel_rfl) (by kernel_rfl) (by kernel_rfl) (fun _ _ _ h => h) (Or.inl ⟨by rfl, ?hyp4u_2_3x5⟩) hHeld ?restp4u_2_3x5
    case hyp4u_2_3x5 => (intro w _; go_simp; try with_reducible rfl)
    simp only [Act.put, List.setIfInBounds_toArray, List.set_cons_zero, List.set_cons_succ]
    refine wpAnyH_done (by kernel_rfl) ?_ _
    have HT2 : Hid (TkB w #[.int .i64 ac, .int .i64 ar, .int .i64 sq, .slice a1 ds.length c1, .int .i64 kd, .int .i64 nc, .int .i64 nr, .int .i64 pc, .int .i64 pr, .int .i64 fc, .int .i64 fr, .string nm, .string vl] Up4u2) := hHeld
    clear hHeld
    go_wp2
    refine bodyPost_ret (v := .tuple #[.agg #[.int .i64 0, .slice none 0 0], .slice none 0 0, .int .i64 ck]) ?resp rfl ?postp
    case resp => exact results_cell_row3 rfl _ _ (w.heap.size + 2) _ _ _ _ rfl HT2.out.r2 Try.underlying30 rfl (by kernel_rfl) rfl rfl
    exact ⟨none, 0, 0, by rw [HR.out], by rw [HR.out]; exact IsH.non 0, HT2.out.bel⟩

end Go.Proofs.Ytkppjlnhdmbaiab
