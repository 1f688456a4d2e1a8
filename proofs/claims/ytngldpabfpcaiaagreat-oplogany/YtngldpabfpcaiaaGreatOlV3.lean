/- What isBehindDeps does. -/
import Derived.Test.YtngldpabfpcaiaaGreatOlV2
namespace Go.Proofs.YtngldpabfpcaiaaGreat
open Go.RowKit
set_option linter.unusedVariables false
set_option linter.unusedSimpArgs false

set_option maxRecDepth 100000 in
set_option maxHeartbeats 4000000 in
theorem isBehind_any (F : Nat → Prop) (lb : Nat) (room : Int) (L : List Ch) (ac ar sq : Int) (dv : Value) (kd nc nr pc pr fc fr : Int) (nm vl : ByteArray) (ds : List Int) (w : World) (h : LogOk F w lb room L) (hs : Srt L) (hd : IsI w dv ds) (hl : ds.length ≤ 64) (hL : L.length ≤ 4096) (hdp : hasDepsB L (⟨ac, ar, sq, ds, kd, nc, nr, pc, pr, fc, fr, nm, vl⟩ : Ch) = true) :
    Calls Tryz.prog 42 #[.pointer (some ⟨lb, 0, none⟩), .agg #[.int .i64 ac, .int .i64 ar, .int .i64 sq, dv, .int .i64 kd, .int .i64 nc, .int .i64 nr, .int .i64 pc, .int .i64 pr, .int .i64 fc, .int .i64 fr, .string nm, .string vl]] w fun e w' => e = .returned (.bool (isBehindB L (⟨ac, ar, sq, ds, kd, nc, nr, pc, pr, fc, fr, nm, vl⟩ : Ch))) ∧ Below w.heap.size w w' := by
  obtain ⟨mb, ord, own, D, h⟩ := h
  obtain ⟨a0, c0, e0⟩ := hd.form
  subst e0
  have K0 := KeptC.start w [.int .i64 ac, .int .i64 ar, .int .i64 sq, .slice a0 ds.length c0, .int .i64 kd, .int .i64 nc, .int .i64 nr, .int .i64 pc, .int .i64 pr, .int .i64 fc, .int .i64 fr, .string nm, .string vl] 38
  obtain ⟨W0, eW⟩ : ∃ X, X = w.alloc (.cells #[.int .i64 ac, .int .i64 ar, .int .i64 sq, .slice a0 ds.length c0, .int .i64 kd, .int .i64 nc, .int .i64 nr, .int .i64 pc, .int .i64 pr, .int .i64 fc, .int .i64 fr, .string nm, .string vl] 38) := ⟨_, rfl⟩
  have HK : Hid (KeptC w w.heap.size [.int .i64 ac, .int .i64 ar, .int .i64 sq, .slice a0 ds.length c0, .int .i64 kd, .int .i64 nc, .int .i64 nr, .int .i64 pc, .int .i64 pr, .int .i64 fc, .int .i64 fr, .string nm, .string vl] W0) := by rw [eW]; exact K0
  have HL : Hid (LogIs F W0 lb room L mb ord own D) := h.below HK.out.2.2
  have HI : Hid (IsI W0 (.slice a0 ds.length c0) ds) := hd.below HK.out.2.2
  have hlen := h.len
  have HS : Hid (Srt L) := hs
  clear K0
  have HE : Hid (isBehindB L (⟨ac, ar, sq, ds, kd, nc, nr, pc, pr, fc, fr, nm, vl⟩ : Ch) = (List.range ds.length).all (depB L (⟨ac, ar, sq, ds, kd, nc, nr, pc, pr, fc, fr, nm, vl⟩ : Ch))) := rfl
  have HD : Hid (∀ r, r < ds.length → ds.getD r 0 ≤ cntR L (r : Int)) := hasDepsB_iff.1 hdp
  have HG : Hid (ds = [] ∨ ∃ b o, a0 = some ⟨b, o, none⟩ ∧ IntsAt w b o ds) := by obtain ⟨a1, c1, e1, _, _, g⟩ := hd; cases e1; exact g
  have HL0 : Hid (LogIs F w lb room L mb ord own D) := h
  clear h hs hd hdp HI HS
  go_enter Tryz.func42, Tryz.ntmps42
  go_wp2
  rw [← eW]
  clear eW
  go_loopw [5, 6, 10] (fun _ _ iv wr => ∃ k : Nat, k ≤ ds.length ∧ iv = .int .i64 (k : Int) ∧ Hid ((List.range k).all (depB L (⟨ac, ar, sq, ds, kd, nc, nr, pc, pr, fc, fr, nm, vl⟩ : Ch)) = true) ∧ Hid (KeptC w w.heap.size [.int .i64 ac, .int .i64 ar, .int .i64 sq, .slice a0 ds.length c0, .int .i64 kd, .int .i64 nc, .int .i64 nr, .int .i64 pc, .int .i64 pr, .int .i64 fc, .int .i64 fr, .string nm, .string vl] wr)) (fun _ _ iv _ => ds.length - (intOf iv).toNat)
  case atStart => exact ⟨0, Nat.zero_le _, rfl, rfl, HK⟩
  case round =>
    obtain ⟨k, hk, rfl, HT, HK2⟩ := hrel
    have HL2 : Hid (LogIs F wr lb room L mb ord own D) := HL0.out.below HK2.out.2.2
    by_cases hlt : k < ds.length
    · obtain ⟨b, o, rfl, g⟩ := HG.out.resolve_left (by intro e; subst e; simp at hlt)
      have x1 := (g.below HK2.out.2.2) k hlt
      rw [← getD_at hlt] at x1
      clear g
      have hko : k < own.length := by omega
      have HN1 : Hid (depB L (⟨ac, ar, sq, ds, kd, nc, nr, pc, pr, fc, fr, nm, vl⟩ : Ch) k = true → (List.range (k + 1)).all (depB L (⟨ac, ar, sq, ds, kd, nc, nr, pc, pr, fc, fr, nm, vl⟩ : Ch)) = true) := fun hx => all_succ HT.out hx
      have HN2 : Hid (depB L (⟨ac, ar, sq, ds, kd, nc, nr, pc, pr, fc, fr, nm, vl⟩ : Ch) k = false → (List.range ds.length).all (depB L (⟨ac, ar, sq, ds, kd, nc, nr, pc, pr, fc, fr, nm, vl⟩ : Ch)) = false) := fun hx => all_not hlt hx
      have hdk := HD.out k hlt
      have hcl := cntR_le L (k : Int)
      have HP : Hid (depB L (⟨ac, ar, sq, ds, kd, nc, nr, pc, pr, fc, fr, nm, vl⟩ : Ch) k = (decide (ds.getD k 0 ≤ 0) || lessS (stampS L k (ds.getD k 0)).1 (stampS L k (ds.getD k 0)).2 ac ar)) := rfl
      have HQ : Hid (∀ m : Nat, (m : Int) + 1 = ds.getD k 0 → ∀ hm : m < (stL (ofR L (k : Int))).length, stampS L k (ds.getD k 0) = (stL (ofR L (k : Int)))[m]) := fun m hm hml => by
        unfold stampS
        have hm2 : (ds.getD k 0 - 1).toNat = m := by omega
        have hml2 : m < (ofR L (k : Int)).length := by rw [stL_length] at hml; exact hml
        rw [hm2, List.getElem?_eq_getElem hml2]
        simp [stL]
      have HC : Hid (cntR L (k : Int) = (stL (ofR L (k : Int))).length) := (stL_length _).symm
      generalize ds.getD k 0 = n0 at *
      have k1 : (k : Int) < (ds.length : Int) := by omega
      have k0 : (0 : Int) ≤ (k : Int) := by omega
      have k64 : (k : Int) < 64 := by omega
      by_cases hn : 0 < n0
      · obtain ⟨m, hm⟩ : ∃ m : Nat, (m : Int) + 1 = n0 := ⟨(n0 - 1).toNat, by omega⟩
        have hmo : m < (stL (ofR L (k : Int))).length := by have := HC.out; omega
        have HQ2 : Hid (stampS L k n0 = (stL (ofR L (k : Int)))[m]) := HQ.out m hm hmo
        have hml : (stL (ofR L (k : Int))).length ≤ 4096 := by have := HC.out; omega
        obtain ⟨g5, c5, e5, _, _⟩ := OwnS_cells (HL2.out.hown k hko) hmo
        have HE5 : Hid (own[k] = .slice (some ⟨g5, 0, none⟩) (stL (ofR L (k : Int))).length c5) := e5
        clear e5
        obtain ⟨p, hst1⟩ : ∃ p, (stL (ofR L (k : Int)))[m].1 = p := ⟨_, rfl⟩
        obtain ⟨q, hst2⟩ : ∃ q, (stL (ofR L (k : Int)))[m].2 = q := ⟨_, rfl⟩
        obtain ⟨le, hle⟩ : ∃ b, b = lessS p q ac ar := ⟨_, rfl⟩
        have HLE : Hid (depB L (⟨ac, ar, sq, ds, kd, nc, nr, pc, pr, fc, fr, nm, vl⟩ : Ch) k = le) := by
          show _ = _
          rw [HP.out, HQ2.out, hst1, hst2, ← hle, decide_eq_false (by omega)]; rfl
        have HLq : Hid (le = lessS p q ac ar) := hle
        clear hle
        have hn1 : n0 - 1 = (m : Int) := by omega
        have hn2 : (m : Int) < ((stL (ofR L (k : Int))).length : Int) := by omega
        have hn3 : (0 : Int) ≤ (m : Int) := by omega
        have hn4 : decide (0 < n0) = true := by simp [hn]
        have hn5 : n0 ≤ 4096 := by omega
        have hn6 : IntKind.i64.wrap (n0 - 1) = (m : Int) := by rw [IntKind.wrap_i64]; omega
        have hn7 : IntKind.i64.wrap (m : Int) = (m : Int) := by rw [IntKind.wrap_i64]; omega
        clear hm HQ HP HC hdk hcl
        go_wp2
        refine wp_region_held_drew (S := fun W' => KeptC w w.heap.size [.int .i64 ac, .int .i64 ar, .int .i64 sq, .slice (some ⟨b, o, none⟩) ds.length c0, .int .i64 kd, .int .i64 nc, .int .i64 nr, .int .i64 pc, .int .i64 pr, .int .i64 fc, .int .i64 fr, .string nm, .string vl] W' ∧ LogIs F W' lb room L mb ord own D) (by kernel_rfl) ⟨HK2.out.drew, HL2.out.below (Below.refl _ _).drew⟩ (fun hHeld => ?_)
        obtain ⟨Ub3u0, eW⟩ : ∃ X, X = wr.drew := ⟨_, rfl⟩
        have hb : Below wr.heap.size wr Ub3u0 := by rw [eW]; exact (Below.refl _ _).drew
        rw [← eW] at hHeld ⊢
        clear eW hb
        refine wpAnyH_take (i := 0) (oi := ⟨some 15, _, _, _, _, _⟩) (v := ?vb3ux0) rfl (by kernel_rfl) (by kernel_rfl) (by kernel_rfl) (fun _ _ _ h => h) (Or.inl ⟨by rfl, ?hyb3ux0⟩) hHeld ?restb3ux0
        case hyb3ux0 => (intro w _; go_simp; try with_reducible rfl)
        simp only [Act.put, List.setIfInBounds_toArray, List.set_cons_zero, List.set_cons_succ]
        refine wpAnyH_take (i := 1) (oi := ⟨some 16, _, _, _, _, _⟩) (v := ?vb3ux1) rfl (by kernel_rfl) (by kernel_rfl) (by kernel_rfl) (fun _ _ _ h => h) (Or.inl ⟨by rfl, ?hyb3ux1⟩) hHeld ?restb3ux1
        case hyb3ux1 => (intro w hSw; (try dsimp only at hSw); obtain ⟨hk, hlg⟩ := hSw; obtain ⟨k_0, k_1, k_2, k_3, k_4, k_5, k_6, k_7, k_8, k_9, k_10, k_11, k_12⟩ := hk.all; have xo := hlg.cellr hko; rw [HE5.out] at xo; have hro := hlg.hown k hko; rw [HE5.out] at hro; obtain ⟨g6, c6, e6, y1, y2⟩ := OwnS_cells hro (i := m) hmo; cases e6; rw [hst1] at y1; rw [hst2] at y2; clear hro; go_simp; try with_reducible rfl)
        simp only [Act.put, List.setIfInBounds_toArray, List.set_cons_zero, List.set_cons_succ]
        refine wpAnyH_take (i := 2) (oi := ⟨some 17, _, _, _, _, _⟩) (v := ?vb3ux2) rfl (by kernel_rfl) (by kernel_rfl) (by kernel_rfl) (fun _ _ _ h => h) (Or.inl ⟨by rfl, ?hyb3ux2⟩) hHeld ?restb3ux2
        case hyb3ux2 => (intro w _; go_simp; try with_reducible rfl)
        simp only [Act.put, List.setIfInBounds_toArray, List.set_cons_zero, List.set_cons_succ]
        refine wpAnyH_take (i := 3) (oi := ⟨some 18, _, _, _, _, _⟩) (v := ?vb3ux3) rfl (by kernel_rfl) (by kernel_rfl) (by kernel_rfl) (fun _ _ _ h => h) (Or.inl ⟨by rfl, ?hyb3ux3⟩) hHeld ?restb3ux3
        case hyb3ux3 => (intro w _; go_simp; try with_reducible rfl)
        simp only [Act.put, List.setIfInBounds_toArray, List.set_cons_zero, List.set_cons_succ]
        refine wpAnyH_take (i := 4) (oi := ⟨some 19, _, _, _, _, _⟩) (v := ?vb3ux4) rfl (by kernel_rfl) (by kernel_rfl) (by kernel_rfl) (fun _ _ _ h => h) (Or.inl ⟨by rfl, ?hyb3ux4⟩) hHeld ?restb3ux4
        case hyb3ux4 => (intro w _; go_simp; try with_reducible rfl)
        simp only [Act.put, List.setIfInBounds_toArray, List.set_cons_zero, List.set_cons_succ]
        refine wpAnyH_take (i := 5) (oi := ⟨some 20, _, _, _, _, _⟩) (v := ?vb3ux5) rfl (by kernel_rfl) (by kernel_rfl) (by kernel_rfl) (fun _ _ _ h => h) (Or.inl ⟨by rfl, ?hyb3ux5⟩) hHeld ?restb3ux5
        case hyb3ux5 => (intro w hSw; (try dsimp only at hSw); obtain ⟨hk, hlg⟩ := hSw; obtain ⟨k_0, k_1, k_2, k_3, k_4, k_5, k_6, k_7, k_8, k_9, k_10, k_11, k_12⟩ := hk.all; have xo := hlg.cellr hko; rw [HE5.out] at xo; have hro := hlg.hown k hko; rw [HE5.out] at hro; obtain ⟨g6, c6, e6, y1, y2⟩ := OwnS_cells hro (i := m) hmo; cases e6; rw [hst1] at y1; rw [hst2] at y2; clear hro; go_simp; try with_reducible rfl)
        simp only [Act.put, List.setIfInBounds_toArray, List.set_cons_zero, List.set_cons_succ]
        refine wpAnyH_take (i := 6) (oi := ⟨some 21, _, _, _, _, _⟩) (v := ?vb3ux6) rfl (by kernel_rfl) (by kernel_rfl) (by kernel_rfl) (fun _ _ _ h => h) (Or.inl ⟨by rfl, ?hyb3ux6⟩) hHeld ?restb3ux6
        case hyb3ux6 => (intro w _; go_simp; try with_reducible rfl)
        simp only [Act.put, List.setIfInBounds_toArray, List.set_cons_zero, List.set_cons_succ]
        refine wpAnyH_take (i := 7) (oi := ⟨some 22, _, _, _, _, _⟩) (v := ?vb3ux7) rfl (by kernel_rfl) (by kernel_rfl) (by kernel_rfl) (fun _ _ _ h => h) (Or.inl ⟨by rfl, ?hyb3ux7⟩) hHeld ?restb3ux7
        case hyb3ux7 => (intro w hSw; (try dsimp only at hSw); obtain ⟨hk, hlg⟩ := hSw; obtain ⟨k_0, k_1, k_2, k_3, k_4, k_5, k_6, k_7, k_8, k_9, k_10, k_11, k_12⟩ := hk.all; have xo := hlg.cellr hko; rw [HE5.out] at xo; have hro := hlg.hown k hko; rw [HE5.out] at hro; obtain ⟨g6, c6, e6, y1, y2⟩ := OwnS_cells hro (i := m) hmo; cases e6; rw [hst1] at y1; rw [hst2] at y2; clear hro; go_simp; try with_reducible rfl)
        simp only [Act.put, List.setIfInBounds_toArray, List.set_cons_zero, List.set_cons_succ]
        refine wpAnyH_take (i := 8) (oi := ⟨some 23, _, _, _, _, _⟩) (v := ?vb3ux8) rfl (by kernel_rfl) (by kernel_rfl) (by kernel_rfl) (fun _ _ _ h => h) (Or.inl ⟨by rfl, ?hyb3ux8⟩) hHeld ?restb3ux8
        case hyb3ux8 => (intro w hSw; (try dsimp only at hSw); obtain ⟨hk, hlg⟩ := hSw; obtain ⟨k_0, k_1, k_2, k_3, k_4, k_5, k_6, k_7, k_8, k_9, k_10, k_11, k_12⟩ := hk.all; have xo := hlg.cellr hko; rw [HE5.out] at xo; have hro := hlg.hown k hko; rw [HE5.out] at hro; obtain ⟨g6, c6, e6, y1, y2⟩ := OwnS_cells hro (i := m) hmo; cases e6; rw [hst1] at y1; rw [hst2] at y2; clear hro; go_simp; try with_reducible rfl)
        simp only [Act.put, List.setIfInBounds_toArray, List.set_cons_zero, List.set_cons_succ]
        refine wpAnyH_take (i := 9) (oi := ⟨some 24, _, _, _, _, _⟩) (v := ?vb3ux9) rfl (by kernel_rfl) (by kernel_rfl) (by kernel_rfl) (fun _ _ _ h => h) (Or.inl ⟨by rfl, ?hyb3ux9⟩) hHeld ?restb3ux9
        case hyb3ux9 => (intro w _; go_simp; try with_reducible rfl)
        simp only [Act.put, List.setIfInBounds_toArray, List.set_cons_zero, List.set_cons_succ]
        refine wpAnyH_take (i := 10) (oi := ⟨some 25, _, _, _, _, _⟩) (v := ?vb3ux10) rfl (by kernel_rfl) (by kernel_rfl) (by kernel_rfl) (fun _ _ _ h => h) (Or.inl ⟨by rfl, ?hyb3ux10⟩) hHeld ?restb3ux10
        case hyb3ux10 => (intro w hSw; (try dsimp only at hSw); obtain ⟨hk, hlg⟩ := hSw; obtain ⟨k_0, k_1, k_2, k_3, k_4, k_5, k_6, k_7, k_8, k_9, k_10, k_11, k_12⟩ := hk.all; have xo := hlg.cellr hko; rw [HE5.out] at xo; have hro := hlg.hown k hko; rw [HE5.out] at hro; obtain ⟨g6, c6, e6, y1, y2⟩ := OwnS_cells hro (i := m) hmo; cases e6; rw [hst1] at y1; rw [hst2] at y2; clear hro; go_simp; try with_reducible rfl)
        simp only [Act.put, List.setIfInBounds_toArray, List.set_cons_zero, List.set_cons_succ]
        refine wpAnyH_take (i := 11) (oi := ⟨some 26, _, _, _, _, _⟩) (v := ?vb3ux11) rfl (by kernel_rfl) (by kernel_rfl) (by kernel_rfl) (fun _ _ _ h => h) (Or.inl ⟨by rfl, ?hyb3ux11⟩) hHeld ?restb3ux11
        case hyb3ux11 => (intro w hSw; (try dsimp only at hSw); obtain ⟨hk, hlg⟩ := hSw; obtain ⟨k_0, k_1, k_2, k_3, k_4, k_5, k_6, k_7, k_8, k_9, k_10, k_11, k_12⟩ := hk.all; have xo := hlg.cellr hko; rw [HE5.out] at xo; have hro := hlg.hown k hko; rw [HE5.out] at hro; obtain ⟨g6, c6, e6, y1, y2⟩ := OwnS_cells hro (i := m) hmo; cases e6; rw [hst1] at y1; rw [hst2] at y2; clear hro; go_simp; try with_reducible rfl)
        simp only [Act.put, List.setIfInBounds_toArray, List.set_cons_zero, List.set_cons_succ]
        refine wpAnyH_take (i := 12) (oi := ⟨some 27, _, _, _, _, _⟩) (v := ?vb3ux12) rfl (by kernel_rfl) (by kernel_rfl) (by kernel_rfl) (fun _ _ _ h => h) (Or.inl ⟨by rfl, ?hyb3ux12⟩) hHeld ?restb3ux12
        case hyb3ux12 => (intro w hSw; (try dsimp only at hSw); obtain ⟨hk, hlg⟩ := hSw; obtain ⟨k_0, k_1, k_2, k_3, k_4, k_5, k_6, k_7, k_8, k_9, k_10, k_11, k_12⟩ := hk.all; have xo := hlg.cellr hko; rw [HE5.out] at xo; have hro := hlg.hown k hko; rw [HE5.out] at hro; obtain ⟨g6, c6, e6, y1, y2⟩ := OwnS_cells hro (i := m) hmo; cases e6; rw [hst1] at y1; rw [hst2] at y2; clear hro; go_simp; try with_reducible rfl)
        simp only [Act.put, List.setIfInBounds_toArray, List.set_cons_zero, List.set_cons_succ]
        refine wpAnyH_take (i := 13) (oi := ⟨some 28, _, _, _, _, _⟩) (v := ?vb3ux13) rfl (by kernel_rfl) (by kernel_rfl) (by kernel_rfl) (fun _ _ _ h => h) (Or.inl ⟨by rfl, ?hyb3ux13⟩) hHeld ?restb3ux13
        case hyb3ux13 => (intro w _; go_simp; try with_reducible rfl)
        simp only [Act.put, List.setIfInBounds_toArray, List.set_cons_zero, List.set_cons_succ]
        refine wpAnyH_take (i := 14) (oi := ⟨some 29, _, _, _, _, _⟩) (v := ?vb3ux14) rfl (by kernel_rfl) (by kernel_rfl) (by kernel_rfl) (fun _ _ _ h => h) (Or.inl ⟨by rfl, ?hyb3ux14⟩) hHeld ?restb3ux14
        case hyb3ux14 => (intro w hSw; (try dsimp only at hSw); obtain ⟨hk, hlg⟩ := hSw; obtain ⟨k_0, k_1, k_2, k_3, k_4, k_5, k_6, k_7, k_8, k_9, k_10, k_11, k_12⟩ := hk.all; have xo := hlg.cellr hko; rw [HE5.out] at xo; have hro := hlg.hown k hko; rw [HE5.out] at hro; obtain ⟨g6, c6, e6, y1, y2⟩ := OwnS_cells hro (i := m) hmo; cases e6; rw [hst1] at y1; rw [hst2] at y2; clear hro; go_simp; try with_reducible rfl)
        simp only [Act.put, List.setIfInBounds_toArray, List.set_cons_zero, List.set_cons_succ]
        refine wpAnyH_ready (rs := [15]) (by kernel_rfl) (by simp) ?_
        refine AllReadyH.cons (o := ⟨some 30, _, _, _, _, _⟩) rfl (fun K hK => ?_) AllReadyH.nil
        go_simp
        refine (less_any _ _ _ _ _).mono ?_
        rintro e Ub3u1 ⟨ele, hb⟩
        rw [← HLq.out] at ele
        subst ele
        (try go_wp2_with fail)
        refine hK.out _ _ (⟨hHeld.1.step hb, hHeld.2.below hb⟩) (fun hHeld2 => ?_)
        clear hK K hHeld
        have hHeld := hHeld2
        clear hHeld2
        (try simp only [Act.put, List.setIfInBounds_toArray, List.set_cons_zero, List.set_cons_succ])
        clear hb
        refine wpAnyH_take (i := 16) (oi := ⟨some 31, _, _, _, _, _⟩) (v := ?vb3u_15x16) rfl (by kernel_rfl) (by kernel_rfl) (by kernel_rfl) (fun _ _ _ h => h) (Or.inl ⟨by rfl, ?hyb3u_15x16⟩) hHeld ?restb3u_15x16
        case hyb3u_15x16 => (intro w _; go_simp; try with_reducible rfl)
        simp only [Act.put, List.setIfInBounds_toArray, List.set_cons_zero, List.set_cons_succ]
        refine wpAnyH_take (i := 17) (oi := ⟨some 32, _, _, _, _, _⟩) (v := ?vb3u_15x17) rfl (by kernel_rfl) (by kernel_rfl) (by kernel_rfl) (fun _ _ _ h => h) (Or.inl ⟨by rfl, ?hyb3u_15x17⟩) hHeld ?restb3u_15x17
        case hyb3u_15x17 => (intro w _; go_simp; try with_reducible rfl)
        simp only [Act.put, List.setIfInBounds_toArray, List.set_cons_zero, List.set_cons_succ]
        refine wpAnyH_done (by kernel_rfl) ?_ _
        have HK3 : Hid (KeptC w w.heap.size [.int .i64 ac, .int .i64 ar, .int .i64 sq, .slice (some ⟨b, o, none⟩) ds.length c0, .int .i64 kd, .int .i64 nc, .int .i64 nr, .int .i64 pc, .int .i64 pr, .int .i64 fc, .int .i64 fr, .string nm, .string vl] Ub3u1) := hHeld.1
        clear hHeld
        cases le
        · go_wp2
          go_ret
          exact ⟨ret_bool (by rw [HE.out]; exact (HN2.out HLE.out).symm), HK3.out.2.2⟩
        · go_wp2
          go_roundw
          case rel => exact ⟨k + 1, by omega, by first | rfl | go_num, HN1.out HLE.out, HK3⟩
          case measure => simp [intOf]; omega
      · have hn4 : decide (0 < n0) = false := by simp; omega
        have HN3 : Hid ((List.range (k + 1)).all (depB L (⟨ac, ar, sq, ds, kd, nc, nr, pc, pr, fc, fr, nm, vl⟩ : Ch)) = true) := HN1.out (by rw [HP.out, decide_eq_true (by omega)]; rfl)
        clear HP HQ
        go_wp2
        go_quiet (fail)
        go_wp2
        go_roundw
        case rel => exact ⟨k + 1, by omega, by first | rfl | go_num, HN3, HK2.out.step (below_drewN (Below.refl _ _) _)⟩
        case measure => simp [intOf]; omega
    · obtain rfl : k = ds.length := by omega
      go_wp2
      go_ret
      exact ⟨ret_bool (by rw [HE.out]; exact HT.out.symm), HK2.out.2.2⟩

end Go.Proofs.YtngldpabfpcaiaaGreat
