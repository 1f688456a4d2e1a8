/- The walk of ChangeCopies: for every change it returns true. -/
import Derived.Test.YtaocjmipjibiaaaGreatDoorChCp
import Derived.Test.YtaocjmipjibiaaaGreatDoorChSm
namespace Go.Proofs.YtaocjmipjibiaaaGreatDoor
open Go.RowKit
set_option linter.unusedVariables false
set_option linter.unusedSimpArgs false

/-- Numbers that lie from N on. -/
def IntsFrom (N : Nat) (W : World) (v : Value) (d : List Int) : Prop := ∃ (a : Option Addr) (cap : Nat), v = .slice a d.length cap ∧ d.length ≤ cap ∧ d.length ≤ 17592186044416 ∧ (d = [] ∨ ∃ b o, a = some ⟨b, o, none⟩ ∧ N ≤ b ∧ IntsAt W b o d)
theorem IntsFrom.of {N B : Nat} {W : World} {v : Value} {d : List Int} (h : OwnI B W v d) (hl : d.length ≤ 17592186044416) (hN : N ≤ B) : IntsFrom N W v d := by
  have h0 := h.isI hl
  obtain ⟨a, cap, e, hc, _, r⟩ := h0
  refine ⟨a, cap, e, hc, hl, r.imp id fun ⟨b, o, e2, hr⟩ => ⟨b, o, e2, ?_, hr⟩⟩
  exact Nat.le_trans hN (h.block b (by rw [e, e2]; rfl))
theorem IntsFrom.isI {N : Nat} {W : World} {v : Value} {d : List Int} (h : IntsFrom N W v d) : IsI W v d := by
  obtain ⟨a, cap, e, hc, hl, r⟩ := h
  exact ⟨a, cap, e, hc, hl, r.imp id fun ⟨b, o, e2, _, hr⟩ => ⟨b, o, e2, hr⟩⟩
theorem IntsFrom.keep {N : Nat} {W W' : World} {v : Value} {d : List Int} (h : IntsFrom N W v d) (hk : ∀ j, N ≤ j → j < W.heap.size → W'.heap[j]? = W.heap[j]?) : IntsFrom N W' v d := by
  obtain ⟨a, cap, e, hc, hl, r⟩ := h
  refine ⟨a, cap, e, hc, hl, ?_⟩
  by_cases hd : d = []
  · exact .inl hd
  · obtain ⟨b, o, e2, hN, hr⟩ := r.resolve_left hd
    exact .inr ⟨b, o, e2, hN, hr.block (hk b hN (hr.lt hd))⟩
theorem IntsFrom.below {N : Nat} {W W' : World} {v : Value} {d : List Int} (h : IntsFrom N W v d) (hb : Below W.heap.size W W') : IntsFrom N W' v d := h.keep fun j _ hj => hb.block j hj
theorem OwnI.write {B : Nat} {w : World} {g cap n : Nat} {D : List Int} (h : OwnI B w (.slice (some ⟨g, 0, none⟩) n cap) D) (hn : n = D.length) (j : Nat) (c : Int) : OwnI B (w.setCell ⟨g, j, none⟩ (.int .i64 c)) (.slice (some ⟨g, 0, none⟩) n cap) (D.set j c) := by
  subst hn
  obtain ⟨h1, h2⟩ := World.ownsRow.stored h j (.int .i64 c)
  unfold OwnI
  rw [List.length_set]
  have e : cellsI (D.set j c) = (cellsI D).set j (.int .i64 c) := by simp [cellsI, List.map_set]
  rw [e]
  exact h1
/-- The boxes of the change, of its copy and of the copy's copy; the copy's clock is written over, the others stay. -/
def CpSt (w : World) (v : Value) (b1 b2 : Nat) (x0 x1 x2 x4 x5 x6 x7 x8 x9 x10 x11 x12 : Value) (v2 v3 : Value) (N : Nat) (ds : List Int) (W : World) : Prop :=
  W.heap[w.heap.size]? = some (.cells #[x0, x1, x2, v, x4, x5, x6, x7, x8, x9, x10, x11, x12] 26) ∧ W.heap[b1]? = some (.cells #[x0, x1, x2, v2, x4, x5, x6, x7, x8, x9, x10, x11, x12] 26) ∧ W.heap[b2]? = some (.cells #[x0, x1, x2, v3, x4, x5, x6, x7, x8, x9, x10, x11, x12] 26) ∧ (∃ D : List Int, D.length = ds.length ∧ OwnI (w.heap.size + 3) W v2 D) ∧ IntsFrom N W v3 ds ∧ Below w.heap.size w W
theorem CpSt.write {w : World} {v : Value} {b1 b2 : Nat} {x0 x1 x2 x4 x5 x6 x7 x8 x9 x10 x11 x12 : Value} {v2 v3 : Value} {N : Nat} {ds : List Int} {W : World} (h : CpSt w v b1 b2 x0 x1 x2 x4 x5 x6 x7 x8 x9 x10 x11 x12 v2 v3 N ds W) (k : Nat) (u : Value) (g : Nat) (_ : g = g) (hg1 : g ≠ w.heap.size ∧ w.heap.size ≤ g) (hg2 : g ≠ b1) (hg3 : g ≠ b2) (hg4 : g < N) (hD : ∃ D : List Int, D.length = ds.length ∧ OwnI (w.heap.size + 3) (W.setCell ⟨g, k, none⟩ u) v2 D) : CpSt w v b1 b2 x0 x1 x2 x4 x5 x6 x7 x8 x9 x10 x11 x12 v2 v3 N ds (W.setCell ⟨g, k, none⟩ u) :=
  ⟨row_set_other h.1 (fun e => hg1.1 e.symm), row_set_other h.2.1 (fun e => hg2 e.symm), row_set_other h.2.2.1 (fun e => hg3 e.symm), hD, h.2.2.2.2.1.keep (fun j hN _ => heap_setCell_other W ⟨g, k, none⟩ j u (by show j ≠ g; omega)), h.2.2.2.2.2.setCell hg1.2 _⟩

set_option maxRecDepth 100000 in
set_option maxHeartbeats 8000000 in
theorem changeCopies_walk (ac ar sq : Int) (dv : Value) (kd nc nr pc pr fc fr : Int) (nm vl : ByteArray) (ds : List Int) (w : World) (h1 : IsI w dv ds) (hnm : nm.size ≤ 281474976710656) (he : Env w) :
    Calls Tryz.prog 5 #[.agg #[.int .i64 ac, .int .i64 ar, .int .i64 sq, dv, .int .i64 kd, .int .i64 nc, .int .i64 nr, .int .i64 pc, .int .i64 pr, .int .i64 fc, .int .i64 fr, .string nm, .string vl]] w fun e w' => e = .returned (.bool true) ∧ Below w.heap.size w w' := by
  obtain ⟨a0, c0, e0⟩ := h1.form
  subst e0
  have HB0 : Hid (Below w.heap.size w (w.alloc (.cells #[.int .i64 ac, .int .i64 ar, .int .i64 sq, .slice a0 ds.length c0, .int .i64 kd, .int .i64 nc, .int .i64 nr, .int .i64 pc, .int .i64 pr, .int .i64 fc, .int .i64 fr, .string nm, .string vl] 26))) := (Below.refl _ _).alloc (Nat.le_refl _) _
  have HR0 : Hid ((w.alloc (.cells #[.int .i64 ac, .int .i64 ar, .int .i64 sq, .slice a0 ds.length c0, .int .i64 kd, .int .i64 nc, .int .i64 nr, .int .i64 pc, .int .i64 pr, .int .i64 fc, .int .i64 fr, .string nm, .string vl] 26)).heap[w.heap.size]? = some (.cells #[.int .i64 ac, .int .i64 ar, .int .i64 sq, .slice a0 ds.length c0, .int .i64 kd, .int .i64 nc, .int .i64 nr, .int .i64 pc, .int .i64 pr, .int .i64 fc, .int .i64 fr, .string nm, .string vl] 26)) := heap_alloc_new _ _
  have H1 : Hid (IsI w (.slice a0 ds.length c0) ds) := h1
  have hlen : ds.length ≤ 17592186044416 := by obtain ⟨_, _, _, _, hl, _⟩ := h1; exact hl
  have HEnv : Hid (Env w) := he
  clear h1 he
  go_enter Tryz.func5, Tryz.ntmps5
  go_wp2_with fail
  refine (refCopyCh_any ac ar sq (.slice a0 ds.length c0) kd nc nr pc pr fc fr nm vl ds _ (H1.out.below HB0.out)).mono ?_
  rintro e w1 ⟨v2, rfl, ho2, hb1⟩
  obtain ⟨a2, c2, e2⟩ := ho2.form
  subst e2
  have HB1 : Hid (Below w.heap.size w w1) := HB0.out.trans (hb1.mono HB0.out.size)
  have HR1 : Hid (w1.heap[w.heap.size]? = some (.cells #[.int .i64 ac, .int .i64 ar, .int .i64 sq, .slice a0 ds.length c0, .int .i64 kd, .int .i64 nc, .int .i64 nr, .int .i64 pc, .int .i64 pr, .int .i64 fc, .int .i64 fr, .string nm, .string vl] 26)) := row_below HR0.out hb1
  have HO2 : Hid (OwnI (w.heap.size + 3) w1 (.slice a2 ds.length c2) ds) := by have h0 := ho2; rw [show (w.alloc (.cells #[.int .i64 ac, .int .i64 ar, .int .i64 sq, .slice a0 ds.length c0, .int .i64 kd, .int .i64 nc, .int .i64 nr, .int .i64 pc, .int .i64 pr, .int .i64 fc, .int .i64 fr, .string nm, .string vl] 26)).heap.size + 2 = w.heap.size + 3 by simp] at h0; exact h0
  have BA : Hid (Below w1.heap.size w1 (w1.alloc (.cells #[.int .i64 ac, .int .i64 ar, .int .i64 sq, .slice a2 ds.length c2, .int .i64 kd, .int .i64 nc, .int .i64 nr, .int .i64 pc, .int .i64 pr, .int .i64 fc, .int .i64 fr, .string nm, .string vl] 26))) := (Below.refl _ _).alloc (Nat.le_refl _) _
  have HI2 : Hid (IsI (w1.alloc (.cells #[.int .i64 ac, .int .i64 ar, .int .i64 sq, .slice a2 ds.length c2, .int .i64 kd, .int .i64 nc, .int .i64 nr, .int .i64 pc, .int .i64 pr, .int .i64 fc, .int .i64 fr, .string nm, .string vl] 26)) (.slice a2 ds.length c2) ds) := (HO2.out.isI hlen).below BA.out
  have HRo : Hid ((w1.alloc (.cells #[.int .i64 ac, .int .i64 ar, .int .i64 sq, .slice a2 ds.length c2, .int .i64 kd, .int .i64 nc, .int .i64 nr, .int .i64 pc, .int .i64 pr, .int .i64 fc, .int .i64 fr, .string nm, .string vl] 26)).heap[w1.heap.size]? = some (.cells #[.int .i64 ac, .int .i64 ar, .int .i64 sq, .slice a2 ds.length c2, .int .i64 kd, .int .i64 nc, .int .i64 nr, .int .i64 pc, .int .i64 pr, .int .i64 fc, .int .i64 fr, .string nm, .string vl] 26)) := heap_alloc_new _ _
  obtain ⟨b1, eb1⟩ : ∃ x, x = w1.heap.size := ⟨_, rfl⟩
  rw [← eb1] at HRo
  have HEB1 : Hid (b1 = w1.heap.size) := eb1
  have hb01 : w.heap.size < b1 := by rw [eb1]; exact row_lt HR1.out
  clear eb1 ho2 hb1
  go_wp2_with fail
  (try rw [← HEB1.out])
  refine (copyCh_any ac ar sq (.slice a2 ds.length c2) kd nc nr pc pr fc fr nm vl ds _ HI2.out).mono ?_
  rintro e w2 ⟨v3, rfl, ho3, hb2⟩
  obtain ⟨a3, c3, e3⟩ := ho3.form
  subst e3
  have HB2 : Hid (Below w.heap.size w w2) := HB1.out.trans ((BA.out.trans (hb2.mono BA.out.size)).mono HB1.out.size)
  have BB : Hid (Below w1.heap.size w1 w2) := BA.out.trans (hb2.mono BA.out.size)
  have HRc2 : Hid (w2.heap[w.heap.size]? = some (.cells #[.int .i64 ac, .int .i64 ar, .int .i64 sq, .slice a0 ds.length c0, .int .i64 kd, .int .i64 nc, .int .i64 nr, .int .i64 pc, .int .i64 pr, .int .i64 fc, .int .i64 fr, .string nm, .string vl] 26)) := row_below HR1.out BB.out
  have HRo2 : Hid (w2.heap[b1]? = some (.cells #[.int .i64 ac, .int .i64 ar, .int .i64 sq, .slice a2 ds.length c2, .int .i64 kd, .int .i64 nc, .int .i64 nr, .int .i64 pc, .int .i64 pr, .int .i64 fc, .int .i64 fr, .string nm, .string vl] 26)) := row_below HRo.out hb2
  have HO2b : Hid (OwnI (w.heap.size + 3) w2 (.slice a2 ds.length c2) ds) := HO2.out.below BB.out
  obtain ⟨N, eN⟩ : ∃ n, n = (w1.alloc (.cells #[.int .i64 ac, .int .i64 ar, .int .i64 sq, .slice a2 ds.length c2, .int .i64 kd, .int .i64 nc, .int .i64 nr, .int .i64 pc, .int .i64 pr, .int .i64 fc, .int .i64 fr, .string nm, .string vl] 26)).heap.size := ⟨_, rfl⟩
  have hN : b1 < N := by rw [eN, HEB1.out]; simp
  have HD3 : Hid (IntsFrom N w2 (.slice a3 ds.length c3) ds) := IntsFrom.of (B := (w1.alloc (.cells #[.int .i64 ac, .int .i64 ar, .int .i64 sq, .slice a2 ds.length c2, .int .i64 kd, .int .i64 nc, .int .i64 nr, .int .i64 pc, .int .i64 pr, .int .i64 fc, .int .i64 fr, .string nm, .string vl] 26)).heap.size + 2) ho3 hlen (by rw [eN]; omega)
  have hg2 : Hid (∀ g, a2 = some ⟨g, 0, none⟩ → ds ≠ [] → g < b1) := fun g hg hd => by have h0 := (World.ownsRow.lt HO2.out g (by rw [hg]; rfl)).2; rw [HEB1.out]; exact h0
  have BC : Hid (Below w2.heap.size w2 (w2.alloc (.cells #[.int .i64 ac, .int .i64 ar, .int .i64 sq, .slice a3 ds.length c3, .int .i64 kd, .int .i64 nc, .int .i64 nr, .int .i64 pc, .int .i64 pr, .int .i64 fc, .int .i64 fr, .string nm, .string vl] 26))) := (Below.refl _ _).alloc (Nat.le_refl _) _
  have HRd : Hid ((w2.alloc (.cells #[.int .i64 ac, .int .i64 ar, .int .i64 sq, .slice a3 ds.length c3, .int .i64 kd, .int .i64 nc, .int .i64 nr, .int .i64 pc, .int .i64 pr, .int .i64 fc, .int .i64 fr, .string nm, .string vl] 26)).heap[w2.heap.size]? = some (.cells #[.int .i64 ac, .int .i64 ar, .int .i64 sq, .slice a3 ds.length c3, .int .i64 kd, .int .i64 nc, .int .i64 nr, .int .i64 pc, .int .i64 pr, .int .i64 fc, .int .i64 fr, .string nm, .string vl] 26)) := heap_alloc_new _ _
  obtain ⟨b2, eb2⟩ : ∃ x, x = w2.heap.size := ⟨_, rfl⟩
  rw [← eb2] at HRd
  have HEB2 : Hid (b2 = w2.heap.size) := eb2
  have hb12 : b1 < b2 := by rw [eb2]; exact row_lt HRo2.out
  have HRcW : Hid ((w2.alloc (.cells #[.int .i64 ac, .int .i64 ar, .int .i64 sq, .slice a3 ds.length c3, .int .i64 kd, .int .i64 nc, .int .i64 nr, .int .i64 pc, .int .i64 pr, .int .i64 fc, .int .i64 fr, .string nm, .string vl] 26)).heap[w.heap.size]? = some (.cells #[.int .i64 ac, .int .i64 ar, .int .i64 sq, .slice a0 ds.length c0, .int .i64 kd, .int .i64 nc, .int .i64 nr, .int .i64 pc, .int .i64 pr, .int .i64 fc, .int .i64 fr, .string nm, .string vl] 26)) := row_below HRc2.out BC.out
  have HI3W : Hid (IsI (w2.alloc (.cells #[.int .i64 ac, .int .i64 ar, .int .i64 sq, .slice a3 ds.length c3, .int .i64 kd, .int .i64 nc, .int .i64 nr, .int .i64 pc, .int .i64 pr, .int .i64 fc, .int .i64 fr, .string nm, .string vl] 26)) (.slice a3 ds.length c3) ds) := HD3.out.isI.below BC.out
  have HI0W : Hid (IsI (w2.alloc (.cells #[.int .i64 ac, .int .i64 ar, .int .i64 sq, .slice a3 ds.length c3, .int .i64 kd, .int .i64 nc, .int .i64 nr, .int .i64 pc, .int .i64 pr, .int .i64 fc, .int .i64 fr, .string nm, .string vl] 26)) (.slice a0 ds.length c0) ds) := H1.out.below (HB2.out.trans (BC.out.mono HB2.out.size))
  obtain ⟨k_0, k_1, k_2, k_3, k_4, k_5, k_6, k_7, k_8, k_9, k_10, k_11, k_12⟩ := row_cells HRc2.out
  obtain ⟨j_0, j_1, j_2, j_3, j_4, j_5, j_6, j_7, j_8, j_9, j_10, j_11, j_12⟩ := row_cells HRcW.out
  clear eb2 ho3 hb2 eN
  go_wp2_with fail
  (try rw [← HEB2.out])
  refine (refSameCh_eq ac ar sq _ _ kd nc nr pc pr fc fr nm vl ds _ HI3W.out HI0W.out).mono ?_
  rintro e w3 ⟨rfl, hb3⟩
  clear k_0 k_1 k_2 k_3 k_4 k_5 k_6 k_7 k_8 k_9 k_10 k_11 k_12 j_0 j_1 j_2 j_3 j_4 j_5 j_6 j_7 j_8 j_9 j_10 j_11 j_12
  have BD : Hid (Below w2.heap.size w2 w3) := BC.out.trans (hb3.mono BC.out.size)
  have S3 : Hid (CpSt w (.slice a0 ds.length c0) b1 b2 (.int .i64 ac) (.int .i64 ar) (.int .i64 sq) (.int .i64 kd) (.int .i64 nc) (.int .i64 nr) (.int .i64 pc) (.int .i64 pr) (.int .i64 fc) (.int .i64 fr) (.string nm) (.string vl) (.slice a2 ds.length c2) (.slice a3 ds.length c3) N ds w3) := ⟨row_below HRcW.out hb3, row_below (row_below HRo2.out BC.out) hb3, row_below HRd.out hb3, ⟨ds, rfl, HO2b.out.below BD.out⟩, HD3.out.below BD.out, HB2.out.trans (BD.out.mono HB2.out.size)⟩
  clear hb3
  go_wp2_with fail
  go_loopw [5] (fun i wr => ∃ k : Nat, k ≤ ds.length ∧ i = .int .i64 (k : Int) ∧ Hid (CpSt w (.slice a0 ds.length c0) b1 b2 (.int .i64 ac) (.int .i64 ar) (.int .i64 sq) (.int .i64 kd) (.int .i64 nc) (.int .i64 nr) (.int .i64 pc) (.int .i64 pr) (.int .i64 fc) (.int .i64 fr) (.string nm) (.string vl) (.slice a2 ds.length c2) (.slice a3 ds.length c3) N ds wr)) (fun i _ => ds.length - (intOf i).toNat)
  case atStart => exact ⟨0, Nat.zero_le _, rfl, S3⟩
  case round =>
    obtain ⟨k, hk, rfl, HS⟩ := hrel
    obtain ⟨k_0, k_1, k_2, k_3, k_4, k_5, k_6, k_7, k_8, k_9, k_10, k_11, k_12⟩ := row_cells HS.out.2.1
    by_cases hlt : k < ds.length
    · obtain ⟨D, hD, hO⟩ := HS.out.2.2.2.1
      obtain ⟨g2, cap2, eg, hgl, hgs⟩ := World.ownsRow.form hO (by rw [hD]; omega)
      obtain rfl : a2 = some ⟨g2, 0, none⟩ := by injection eg
      have hg := hg2.out g2 rfl (by intro e; rw [e] at hlt; simp at hlt)
      have k1 : (k : Int) < (ds.length : Int) := by omega
      have k0 : (0 : Int) ≤ (k : Int) := by omega
      have hO2 : OwnI (w.heap.size + 3) wr (.slice (some ⟨g2, 0, none⟩) D.length c2) D := by rw [hD]; exact hO
      have cx := World.ownsRow.cellAt hO2 k (by omega)
      have fx := World.ownsRow.frozenAt hO2 k
      have hDk : k < D.length := by omega
      rw [show (cellsI D)[k]? = some (.int .i64 D[k]) by simp [cellsI, hDk]] at cx
      have S4 := CpSt.write HS.out k (.int .i64 (-7)) g2 rfl (by omega) (by omega) (by omega) (by omega) ⟨D.set k (-7), by simp [hD], OwnI.write hO hD.symm k (-7)⟩
      have HS4 : Hid _ := S4
      clear S4 hO hO2 eg hgl hgs hg
      go_wp2
      go_roundw
      case rel => exact ⟨k + 1, by omega, by go_num, HS4⟩
      case measure => simp [intOf]; omega
    · obtain rfl : k = ds.length := by omega
      clear k_0 k_1 k_2 k_3 k_4 k_5 k_6 k_7 k_8 k_9 k_10 k_11 k_12
      obtain ⟨k_0, k_1, k_2, k_3, k_4, k_5, k_6, k_7, k_8, k_9, k_10, k_11, k_12⟩ := row_cells HS.out.2.1
      obtain ⟨j_0, j_1, j_2, j_3, j_4, j_5, j_6, j_7, j_8, j_9, j_10, j_11, j_12⟩ := row_cells HS.out.1
      obtain ⟨m_0, m_1, m_2, m_3, m_4, m_5, m_6, m_7, m_8, m_9, m_10, m_11, m_12⟩ := row_cells HS.out.2.2.1
      have bw : Hid (Below w.heap.size w wr) := HS.out.2.2.2.2.2
      go_wp2_with fail
      refine (refSameCh_eq ac ar sq _ _ kd nc nr pc pr fc fr nm vl ds _ HS.out.2.2.2.2.1.isI (H1.out.below bw.out)).mono ?_
      rintro e w5 ⟨rfl, hb5⟩
      have b5 : Hid (Below w.heap.size w w5) := bw.out.trans (hb5.mono bw.out.size)
      clear hb5 k_0 k_1 k_2 k_3 k_4 k_5 k_6 k_7 k_8 k_9 k_10 k_11 k_12 j_0 j_1 j_2 j_3 j_4 j_5 j_6 j_7 j_8 j_9 j_10 j_11 j_12 m_0 m_1 m_2 m_3 m_4 m_5 m_6 m_7 m_8 m_9 m_10 m_11 m_12
      go_wp2_with fail
      refine (awake5_any _ (HEnv.out.below b5.out)).mono ?_
      rintro e w6 ⟨rfl, hb6⟩
      go_wp2
      go_ret
      exact ⟨rfl, b5.out.trans (hb6.mono b5.out.size)⟩

end Go.Proofs.YtaocjmipjibiaaaGreatDoor
