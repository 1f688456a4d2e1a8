/- What isBehindDeps does. -/
import Derived.Test.YtngldpabfpcaiaaGreatTk
import Derived.Test.YtngldpabfpcaiaaGreatOlV2
namespace Go.Proofs.YtngldpabfpcaiaaGreat
open Go.RowKit
set_option linter.unusedVariables false
set_option linter.unusedSimpArgs false

set_option maxRecDepth 100000 in
set_option maxHeartbeats 4000000 in
theorem isBehind_any (F : Nat → Prop) (lb : Nat) (room : Int) (L : List Ch) (ac ar sq : Int) (dv : Value) (kd nc nr pc pr fc fr : Int) (nm vl : ByteArray) (ds : List Int) (w : World) (h : LogOk F w lb room L) (hs : Srt L) (hd : IsI w dv ds) (hl : ds.length ≤ 64) (hL : L.length ≤ 4096) (hdp : hasDepsB L (⟨ac, ar, sq, ds, kd, nc, nr, pc, pr, fc, fr, nm, vl⟩ : Ch) = true) :
    Calls Tryz.prog 42 #[.pointer (some ⟨lb, 0, none⟩), .agg #[.int .i64 ac, .int .i64 ar, .int .i64 sq, dv, .int .i64 kd, .int .i64 nc, .int .i64 nr, .int .i64 pc, .int .i64 pr, .int .i64 fc, .int .i64 fr, .string nm, .string vl]] w fun e w' => e = .returned (.bool (isBehindB L (⟨ac, ar, sq, ds, kd, nc, nr, pc, pr, fc, fr, nm, vl⟩ : Ch))) ∧ Below w.heap.size w w' := by
  obtain ⟨mb, ord, own, D, h⟩ := h
  obtain ⟨a0, c0, e0⟩ := hd.form
  subst e0
  have K0 := KeptC.start w [.int .i64 ac, .int .i64 ar, .int .i64 sq, .slice a0 ds.length c0, .int .i64 kd, .int .i64 nc, .int .i64 nr, .int .i64 pc, .int .i64 pr, .int .i64 fc, .int .i64 fr, .string nm, .string vl] 38
  obtain ⟨W0, eW⟩ : ∃ X, X = w.alloc (.cells #[.int .i64 ac, .int .i64 ar, .int .i64 sq, .slice a0 ds.length c0, .int .i64 kd, .int .i64 nc, .int .i64 nr, .int .i64 pc, .int .i64 pr, .int .i64 fc, .int .i64 fr, .string nm, .string vl] 38) := ⟨_, rfl⟩
  have HK : Hid (KeptC w w.heap.size [.int .i64 ac, .int .i64 ar, .int .i64 sq, .slice a0 ds.length c0, .int .i64 kd, .int .i64 nc, .int .i64 nr, .int .i64 pc, .int .i64 pr, .int .i64 fc, .int .i64 fr, .string nm, .string vl] W0) := by rw [eW]; exact K0
  have HL : Hid (LogIs F W0 lb room L mb ord own D) := h.below HK.out.2.2
  have HI : Hid (IsI W0 (.slice a0 ds.length c0) ds) := hd.below HK.out.2.2
  have hlen := h.len
  have HS : Hid (Srt L) := hs
  clear K0
  have HE : Hid (isBehindB L (⟨ac, ar, sq, ds, kd, nc, nr, pc, pr, fc, fr, nm, vl⟩ : Ch) = (List.range ds.length).all (depB L (⟨ac, ar, sq, ds, kd, nc, nr, pc, pr, fc, fr, nm, vl⟩ : Ch))) := rfl
  have HD : Hid (∀ r, r < ds.length → ds.getD r 0 ≤ cntR L (r : Int)) := hasDepsB_iff.1 hdp
  have HG : Hid (ds = [] ∨ ∃ b o, a0 = some ⟨b, o, none⟩ ∧ IntsAt w b o ds) := by obtain ⟨a1, c1, e1, _, _, g⟩ := hd; cases e1; exact g
  have HL0 : Hid (LogIs F w lb room L mb ord own D) := h
  clear h hs hd hdp HI HS
  go_enter Tryz.func42, Tryz.ntmps42
  go_wp2
  rw [← eW]
  clear eW
  go_loopw [5, 6, 10] (fun _ _ iv wr => ∃ k : Nat, k ≤ ds.length ∧ iv = .int .i64 (k : Int) ∧ Hid ((List.range k).all (depB L (⟨ac, ar, sq, ds, kd, nc, nr, pc, pr, fc, fr, nm, vl⟩ : Ch)) = true) ∧ Hid (KeptC w w.heap.size [.int .i64 ac, .int .i64 ar, .int .i64 sq, .slice a0 ds.length c0, .int .i64 kd, .int .i64 nc, .int .i64 nr, .int .i64 pc, .int .i64 pr, .int .i64 fc, .int .i64 fr, .string nm, .string vl] wr)) (fun _ _ iv _ => ds.length - (intOf iv).toNat)
  case atStart => exact ⟨0, Nat.zero_le _, rfl, rfl, HK⟩
  case round =>
    obtain ⟨k, hk, rfl, HT, HK2⟩ := hrel
    have HL2 : Hid (LogIs F wr lb room L mb ord own D) := HL0.out.below HK2.out.2.2
    by_cases hlt : k < ds.length
    · obtain ⟨b, o, rfl, g⟩ := HG.out.resolve_left (by intro e; subst e; simp at hlt)
      have x1 := (g.below HK2.out.2.2) k hlt
      rw [← getD_at hlt] at x1
      clear g
      have hko : k < own.length := by omega
      have HN1 : Hid (depB L (⟨ac, ar, sq, ds, kd, nc, nr, pc, pr, fc, fr, nm, vl⟩ : Ch) k = true → (List.range (k + 1)).all (depB L (⟨ac, ar, sq, ds, kd, nc, nr, pc, pr, fc, fr, nm, vl⟩ : Ch)) = true) := fun hx => all_succ HT.out hx
      have HN2 : Hid (depB L (⟨ac, ar, sq, ds, kd, nc, nr, pc, pr, fc, fr, nm, vl⟩ : Ch) k = false → (List.range ds.length).all (depB L (⟨ac, ar, sq, ds, kd, nc, nr, pc, pr, fc, fr, nm, vl⟩ : Ch)) = false) := fun hx => all_not hlt hx
      have hdk := HD.out k hlt
      have hcl := cntR_le L (k : Int)
      have HP : Hid (depB L (⟨ac, ar, sq, ds, kd, nc, nr, pc, pr, fc, fr, nm, vl⟩ : Ch) k = (decide (ds.getD k 0 ≤ 0) || lessS (stampS L k (ds.getD k 0)).1 (stampS L k (ds.getD k 0)).2 ac ar)) := rfl
      have HQ : Hid (∀ m : Nat, (m : Int) + 1 = ds.getD k 0 → ∀ hm : m < (stL (ofR L (k : Int))).length, stampS L k (ds.getD k 0) = (stL (ofR L (k : Int)))[m]) := fun m hm hml => by
        unfold stampS
        have hm2 : (ds.getD k 0 - 1).toNat = m := by omega
        have hml2 : m < (ofR L (k : Int)).length := by rw [stL_length] at hml; exact hml
        rw [hm2, List.getElem?_eq_getElem hml2]
        simp [stL]
      have HC : Hid (cntR L (k : Int) = (stL (ofR L (k : Int))).length) := (stL_length _).symm
      generalize ds.getD k 0 = n0 at *
      have k1 : (k : Int) < (ds.length : Int) := by omega
      have k0 : (0 : Int) ≤ (k : Int) := by omega
      have k64 : (k : Int) < 64 := by omega
      by_cases hn : 0 < n0
      · obtain ⟨m, hm⟩ : ∃ m : Nat, (m : Int) + 1 = n0 := ⟨(n0 - 1).toNat, by omega⟩
        have hmo : m < (stL (ofR L (k : Int))).length := by have := HC.out; omega
        have HQ2 : Hid (stampS L k n0 = (stL (ofR L (k : Int)))[m]) := HQ.out m hm hmo
        have hml : (stL (ofR L (k : Int))).length ≤ 4096 := by have := HC.out; omega
        obtain ⟨g5, c5, e5, _, _⟩ := OwnS_cells (HL2.out.hown k hko) hmo
        have HE5 : Hid (own[k] = .slice (some ⟨g5, 0, none⟩) (stL (ofR L (k : Int))).length c5) := e5
        clear e5
        obtain ⟨p, hst1⟩ : ∃ p, (stL (ofR L (k : Int)))[m].1 = p := ⟨_, rfl⟩
        obtain ⟨q, hst2⟩ : ∃ q, (stL (ofR L (k : Int)))[m].2 = q := ⟨_, rfl⟩
        obtain ⟨le, hle⟩ : ∃ b, b = lessS p q ac ar := ⟨_, rfl⟩
        have HLE : Hid (depB L (⟨ac, ar, sq, ds, kd, nc, nr, pc, pr, fc, fr, nm, vl⟩ : Ch) k = le) := by
          show _ = _
          rw [HP.out, HQ2.out, hst1, hst2, ← hle, decide_eq_false (by omega)]; rfl
        have HLq : Hid (le = lessS p q ac ar) := hle
        clear hle
        have hn1 : n0 - 1 = (m : Int) := by omega
        have hn2 : (m : Int) < ((stL (ofR L (k : Int))).length : Int) := by omega
        have hn3 : (0 : Int) ≤ (m : Int) := by omega
        have hn4 : decide (0 < n0) = true := by simp [hn]
        have hn5 : n0 ≤ 4096 := by omega
        have hn6 : IntKind.i64.wrap (n0 - 1) = (m : Int) := by rw [IntKind.wrap_i64]; omega
        have hn7 : IntKind.i64.wrap (m : Int) = (m : Int) := by rw [IntKind.wrap_i64]; omega
        clear hm HQ HP HC hdk hcl
        go_wp2
        refine wp_region_held_drew (S := fun W' => KeptC w w.heap.size [.int .i64 ac, .int .i64 ar, .int .i64 sq, .slice (some ⟨b, o, none⟩) ds.length c0, .int .i64 kd, .int .i64 nc, .int .i64 nr, .int .i64 pc, .int .i64 pr, .int .i64 fc, .int .i64 fr, .string nm, .string vl] W' ∧ LogIs F W' lb room L mb ord own D) (by kernel_rfl) ⟨HK2.out.drew, HL2.out.below (Below.refl _ _).drew⟩ (fun hHeld => ?_)
        obtain ⟨Ub3u0, eW⟩ : ∃ X, X = wr.drew := ⟨_, rfl⟩
        have hb : Below wr.heap.size wr Ub3u0 := by rw [eW]; exact (Below.refl _ _).drew
        rw [← eW] at hHeld ⊢
        clear eW hb
        refine tkW 0 (some 15) (v := ?_) ?_ hHeld ?_
        rotate_left
        · (intro w _; go_simp; try with_reducible rfl)
        refine tkW 1 (some 16) (v := ?_) ?_ hHeld ?_
        rotate_left
        · (intro w hSw; (try dsimp only at hSw); obtain ⟨hk, hlg⟩ := hSw; obtain ⟨k_0, k_1, k_2, k_3, k_4, k_5, k_6, k_7, k_8, k_9, k_10, k_11, k_12⟩ := hk.all; have xo := hlg.cellr hko; rw [HE5.out] at xo; have hro := hlg.hown k hko; rw [HE5.out] at hro; obtain ⟨g6, c6, e6, y1, y2⟩ := OwnS_cells hro (i := m) hmo; cases e6; rw [hst1] at y1; rw [hst2] at y2; clear hro; go_simp; try with_reducible rfl)
        refine tkW 2 (some 17) (v := ?_) ?_ hHeld ?_
        rotate_left
        · (intro w _; go_simp; try with_reducible rfl)
        refine tkW 3 (some 18) (v := ?_) ?_ hHeld ?_
        rotate_left
        · (intro w _; go_simp; try with_reducible rfl)
        refine tkW 4 (some 19) (v := ?_) ?_ hHeld ?_
        rotate_left
        · (intro w _; go_simp; try with_reducible rfl)
        refine tkW 5 (some 20) (v := ?_) ?_ hHeld ?_
        rotate_left
        · (intro w hSw; (try dsimp only at hSw); obtain ⟨hk, hlg⟩ := hSw; obtain ⟨k_0, k_1, k_2, k_3, k_4, k_5, k_6, k_7, k_8, k_9, k_10, k_11, k_12⟩ := hk.all; have xo := hlg.cellr hko; rw [HE5.out] at xo; have hro := hlg.hown k hko; rw [HE5.out] at hro; obtain ⟨g6, c6, e6, y1, y2⟩ := OwnS_cells hro (i := m) hmo; cases e6; rw [hst1] at y1; rw [hst2] at y2; clear hro; go_simp; try with_reducible rfl)
        refine tkW 6 (some 21) (v := ?_) ?_ hHeld ?_
        rotate_left
        · (intro w _; go_simp; try with_reducible rfl)
        refine tkW 7 (some 22) (v := ?_) ?_ hHeld ?_
        rotate_left
        · (intro w hSw; (try dsimp only at hSw); obtain ⟨hk, hlg⟩ := hSw; obtain ⟨k_0, k_1, k_2, k_3, k_4, k_5, k_6, k_7, k_8, k_9, k_10, k_11, k_12⟩ := hk.all; have xo := hlg.cellr hko; rw [HE5.out] at xo; have hro := hlg.hown k hko; rw [HE5.out] at hro; obtain ⟨g6, c6, e6, y1, y2⟩ := OwnS_cells hro (i := m) hmo; cases e6; rw [hst1] at y1; rw [hst2] at y2; clear hro; go_simp; try with_reducible rfl)
        refine tkW 8 (some 23) (v := ?_) ?_ hHeld ?_
        rotate_left
        · (intro w hSw; (try dsimp only at hSw); obtain ⟨hk, hlg⟩ := hSw; obtain ⟨k_0, k_1, k_2, k_3, k_4, k_5, k_6, k_7, k_8, k_9, k_10, k_11, k_12⟩ := hk.all; have xo := hlg.cellr hko; rw [HE5.out] at xo; have hro := hlg.hown k hko; rw [HE5.out] at hro; obtain ⟨g6, c6, e6, y1, y2⟩ := OwnS_cells hro (i := m) hmo; cases e6; rw [hst1] at y1; rw [hst2] at y2; clear hro; go_simp; try with_reducible rfl)
        refine tkW 9 (some 24) (v := ?_) ?_ hHeld ?_
        rotate_left
        · (intro w _; go_simp; try with_reducible rfl)
        refine tkW 10 (some 25) (v := ?_) ?_ hHeld ?_
        rotate_left
        · (intro w hSw; (try dsimp only at hSw); obtain ⟨hk, hlg⟩ := hSw; obtain ⟨k_0, k_1, k_2, k_3, k_4, k_5, k_6, k_7, k_8, k_9, k_10, k_11, k_12⟩ := hk.all; have xo := hlg.cellr hko; rw [HE5.out] at xo; have hro := hlg.hown k hko; rw [HE5.out] at hro; obtain ⟨g6, c6, e6, y1, y2⟩ := OwnS_cells hro (i := m) hmo; cases e6; rw [hst1] at y1; rw [hst2] at y2; clear hro; go_simp; try with_reducible rfl)
        refine tkW 11 (some 26) (v := ?_) ?_ hHeld ?_
        rotate_left
        · (intro w hSw; (try dsimp only at hSw); obtain ⟨hk, hlg⟩ := hSw; obtain ⟨k_0, k_1, k_2, k_3, k_4, k_5, k_6, k_7, k_8, k_9, k_10, k_11, k_12⟩ := hk.all; have xo := hlg.cellr hko; rw [HE5.out] at xo; have hro := hlg.hown k hko; rw [HE5.out] at hro; obtain ⟨g6, c6, e6, y1, y2⟩ := OwnS_cells hro (i := m) hmo; cases e6; rw [hst1] at y1; rw [hst2] at y2; clear hro; go_simp; try with_reducible rfl)
        refine tkW 12 (some 27) (v := ?_) ?_ hHeld ?_
        rotate_left
        · (intro w hSw; (try dsimp only at hSw); obtain ⟨hk, hlg⟩ := hSw; obtain ⟨k_0, k_1, k_2, k_3, k_4, k_5, k_6, k_7, k_8, k_9, k_10, k_11, k_12⟩ := hk.all; have xo := hlg.cellr hko; rw [HE5.out] at xo; have hro := hlg.hown k hko; rw [HE5.out] at hro; obtain ⟨g6, c6, e6, y1, y2⟩ := OwnS_cells hro (i := m) hmo; cases e6; rw [hst1] at y1; rw [hst2] at y2; clear hro; go_simp; try with_reducible rfl)
        refine tkW 13 (some 28) (v := ?_) ?_ hHeld ?_
        rotate_left
        · (intro w _; go_simp; try with_reducible rfl)
        refine tkW 14 (some 29) (v := ?_) ?_ hHeld ?_
        rotate_left
        · (intro w hSw; (try dsimp only at hSw); obtain ⟨hk, hlg⟩ := hSw; obtain ⟨k_0, k_1, k_2, k_3, k_4, k_5, k_6, k_7, k_8, k_9, k_10, k_11, k_12⟩ := hk.all; have xo := hlg.cellr hko; rw [HE5.out] at xo; have hro := hlg.hown k hko; rw [HE5.out] at hro; obtain ⟨g6, c6, e6, y1, y2⟩ := OwnS_cells hro (i := m) hmo; cases e6; rw [hst1] at y1; rw [hst2] at y2; clear hro; go_simp; try with_reducible rfl)
        refine wpAnyH_ready (rs := [15]) (by kernel_rfl) (by simp) ?_
        refine AllReadyH.cons (o := ⟨some 30, _, _, _, _, _⟩) rfl (fun K hK => ?_) AllReadyH.nil
        go_simp
        refine (less_any _ _ _ _ _).mono ?_
        rintro e Ub3u1 ⟨ele, hb⟩
        rw [← HLq.out] at ele
        subst ele
        (try go_wp2_with fail)
        refine hK.out _ _ (⟨hHeld.1.step hb, hHeld.2.below hb⟩) (fun hHeld2 => ?_)
        clear hK K hHeld
        have hHeld := hHeld2
        clear hHeld2
        (try simp only [Act.put, List.setIfInBounds_toArray, List.set_cons_zero, List.set_cons_succ])
        clear hb
        refine tkW 16 (some 31) (v := ?_) ?_ hHeld ?_
        rotate_left
        · (intro w _; go_simp; try with_reducible rfl)
        refine tkW 17 (some 32) (v := ?_) ?_ hHeld ?_
        rotate_left
        · (intro w _; go_simp; try with_reducible rfl)
        refine wpAnyH_done (by kernel_rfl) ?_ _
        have HK3 : Hid (KeptC w w.heap.size [.int .i64 ac, .int .i64 ar, .int .i64 sq, .slice (some ⟨b, o, none⟩) ds.length c0, .int .i64 kd, .int .i64 nc, .int .i64 nr, .int .i64 pc, .int .i64 pr, .int .i64 fc, .int .i64 fr, .string nm, .string vl] Ub3u1) := hHeld.1
        clear hHeld
        cases le
        · go_wp2
          go_ret
          exact ⟨ret_bool (by rw [HE.out]; exact (HN2.out HLE.out).symm), HK3.out.2.2⟩
        · go_wp2
          go_roundw
          case rel => exact ⟨k + 1, by omega, by first | rfl | go_num, HN1.out HLE.out, HK3⟩
          case measure => simp [intOf]; omega
      · have hn4 : decide (0 < n0) = false := by simp; omega
        have HN3 : Hid ((List.range (k + 1)).all (depB L (⟨ac, ar, sq, ds, kd, nc, nr, pc, pr, fc, fr, nm, vl⟩ : Ch)) = true) := HN1.out (by rw [HP.out, decide_eq_true (by omega)]; rfl)
        clear HP HQ
        go_wp2
        go_quiet (fail)
        go_wp2
        go_roundw
        case rel => exact ⟨k + 1, by omega, by first | rfl | go_num, HN3, HK2.out.step (below_drewN (Below.refl _ _) _)⟩
        case measure => simp [intOf]; omega
    · obtain rfl : k = ds.length := by omega
      go_wp2
      go_ret
      exact ⟨ret_bool (by rw [HE.out]; exact HT.out.symm), HK2.out.2.2⟩

end Go.Proofs.YtngldpabfpcaiaaGreat
