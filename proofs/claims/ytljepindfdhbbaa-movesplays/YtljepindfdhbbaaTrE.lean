/- What rewind does. -/
import Derived.Test.YtljepindfdhbbaaTrD
import Derived.Deep.LoopGhost
namespace Go.Proofs.Ytljepindfdhbbaa
open Go.RowKit
set_option linter.unusedVariables false
set_option linter.unusedSimpArgs false

theorem below_setRow {B b : Nat} {a w : World} (h : Below B a w) (hb : B ≤ b) (c : Array Value) : Below B a (w.setRow b c) := ⟨h.os, h.tape, h.output, by simpa using h.size, fun k hk => (setRow_other w b k c (by omega)).trans (h.block k hk)⟩
set_option maxRecDepth 100000 in
set_option maxHeartbeats 4000000 in
theorem rewind_any (F : Nat → Prop) (tb : Nat) (R : List Rw) (k : Nat) (lv : Value) (sb kb : Nat) (i : Nat) (w : World) (h : TrIs F w tb R k lv sb kb) :
    Calls Try.prog 34 #[.pointer (some ⟨tb, 0, none⟩), .int .i64 (i : Int)] w fun e w' => (∃ v, e = .returned v) ∧ TrIs F w' tb R (min k i) lv sb kb ∧ Touch F w w' := by
  have HF : Hid (TrIs F w tb R k lv sb kb) := h
  clear h
  go_enter Try.func34, Try.ntmps34
  go_wp2
  go_loopg [5] k (fun gk tv wr => Hid (TrIs F wr tb R gk lv sb kb) ∧ Hid (Touch F w wr) ∧ min k i ≤ gk ∧ gk ≤ k)
  case atStart => exact ⟨HF, Touch.refl _ _, Nat.min_le_left _ _, Nat.le_refl _⟩
  case round =>
    obtain ⟨HTr, HTw, hm1, hm2⟩ := hrel
    have t1 := HTr.out.t1
    by_cases hgt : i < gk
    · obtain ⟨m, rfl⟩ : ∃ m, gk = m + 1 := ⟨gk - 1, by omega⟩
      have hmR : m < R.length := by have := HTr.out.ls.le; omega
      have hsmall := HTr.out.small
      have e1 : ((m + 1 : Nat) : Int) = (m : Int) + 1 := by omega
      rw [e1] at t1
      have hgi : (i : Int) < (m : Int) + 1 := by omega
      have hw1 : IntKind.i64.wrap ((m : Int) + 1 - 1) = (m : Int) := by rw [IntKind.wrap_i64]; omega
      have hw2 : IntKind.i64.wrap (m : Int) = (m : Int) := by rw [IntKind.wrap_i64]; omega
      have tz := HTr.out.tz 1
      obtain ⟨g, cap, elv, hcap, hrange, hFg⟩ := HTr.out.at hmR
      subst elv
      obtain ⟨x, hx⟩ : ∃ x, x = R[m] := ⟨_, rfl⟩
      rw [← hx] at hrange
      have hlt3 := HTr.out.lt3 (g := g) rfl
      obtain ⟨W1, eW1⟩ : ∃ W1, W1 = wr.setCell ⟨tb, 1, none⟩ (.int .i64 (m : Int)) := ⟨_, rfl⟩
      have hg1 : wr.grownBy W1 (some tb) := by rw [eW1]; exact grownBy_setCell _ _ _ _
      have HRo : Hid (W1.heap[tb]? = some (.cells #[.slice (some ⟨g, 0, none⟩) R.length cap, .int .i64 (m : Int), .map (some sb), .map (some kb)] 66)) := by (rw [eW1]; exact heap_setCell_same wr tb 1 _ _ _ HTr.out.row)
      have hts := HTr.out.ts
      have htk := HTr.out.tk
      have HTs : Hid (tb ≠ sb ∧ tb ≠ kb) := ⟨hts, htk⟩
      have HD1 : Hid (SMap W1 sb (doneT ((mvs R).take (m + 1)))) := HTr.out.st.keep (hg1.block _ HTr.out.st.lt (fun e => hts (by cases e; rfl)))
      have HM1 : Hid (KMap W1 kb (kidsN (doneT ((mvs R).take (m + 1))))) := HTr.out.kd.keep (hg1.block _ HTr.out.kd.lt (fun e => htk (by cases e; rfl)))
      have HX : Hid (W1.rangeAt g (m * 13) (rwCells x)) := rangeAt_keep hrange (hg1.block _ (HTr.out.lt g hFg) (fun e => hlt3.1 (by cases e; rfl)))
      have HTL : Hid (tb < W1.heap.size) := row_lt HRo.out
      have HGL : Hid (g < W1.heap.size) := Nat.lt_of_lt_of_le (HTr.out.lt g hFg) hg1.size
      have HT0 : Hid (W1.cell? ⟨tb, 0, none⟩ = some (.slice (some ⟨g, 0, none⟩) R.length cap)) := by (show _ = _; rw [cell_of_row W1 tb 0 _ _ _ HRo.out]; rfl)
      have HT1 : Hid (W1.cell? ⟨tb, 1, none⟩ = some (.int .i64 (m : Int))) := by (show _ = _; rw [cell_of_row W1 tb 1 _ _ _ HRo.out]; rfl)
      have HT1o : Hid (Touch (fun j => j = tb ∨ j = sb ∨ j = kb) wr W1) := Touch.of_grown hg1 (fun j e _ => by cases e; exact .inl rfl)
      have HTF : Hid (∀ j, j = tb ∨ j = sb ∨ j = kb → F j) := fun j h => by rcases h with rfl | rfl | rfl; exact HTr.out.ft; exact HTr.out.fs; exact HTr.out.fk
      have HNe : Hid (sb ≠ kb) := HTr.out.ne
      have HSm : Hid ((doneT ((mvs R).take (m + 1))).length ≤ 8192) := by (have := doneT_small HTr.out.small (m + 1); exact Nat.le_trans this (by omega))
      have HLs : Hid (LsD R m) := HTr.out.ls.less (Nat.le_succ _)
      have HNd : Hid (x.cn = true → x.fr ≠ zeroPl → x.fr.nd = (x.m.nd.1, x.m.nd.2)) := by (rw [hx]; exact fun h1 h2 => HTr.out.ls.fr_nd hmR h1 h2)
      have HBack : Hid (doneT ((mvs R).take m) = if x.cn = true then putT (doneT ((mvs R).take (m + 1))) (x.m.nd.1, x.m.nd.2) x.fr else doneT ((mvs R).take (m + 1))) := by (have h9 := HTr.out.ls.back hmR; rw [← hx] at h9; exact h9)
      have km : (m : Int) < (R.length : Int) := by omega
      clear hx hrange hlt3 hg1 hts htk
      go_wp2_with fail
      rw [← eW1]
      clear eW1 t1 tz
      refine wp_region_held_drew (S := fun W' => Below W1.heap.size W1 W') (by kernel_rfl) (Below.refl _ _).drew (fun hHeld => ?_)
      obtain ⟨Ua1u0, eW⟩ : ∃ X, X = W1.drew := ⟨_, rfl⟩
      have hb : Below W1.heap.size W1 Ua1u0 := by rw [eW]; exact (Below.refl _ _).drew
      rw [← eW] at hHeld ⊢
      clear eW hb
      refine tkW 0 (some 18) (v := ?_) ?_ hHeld ?_
      rotate_left
      · (intro w _; go_simp; try with_reducible rfl)
      refine tkW 1 (some 19) (v := ?_) ?_ hHeld ?_
      rotate_left
      · (intro w hSw; (try dsimp only at hSw); have hbw := hSw; have t0 := (hbw.cell (p := ⟨tb, 0, none⟩) HTL.out).trans HT0.out; have t1 := (hbw.cell (p := ⟨tb, 1, none⟩) HTL.out).trans HT1.out; go_simp; try with_reducible rfl)
      refine tkW 2 (some 20) (v := ?_) ?_ hHeld ?_
      rotate_left
      · (intro w _; go_simp; try with_reducible rfl)
      refine tkW 3 (some 21) (v := ?_) ?_ hHeld ?_
      rotate_left
      · (intro w hSw; (try dsimp only at hSw); have hbw := hSw; have t0 := (hbw.cell (p := ⟨tb, 0, none⟩) HTL.out).trans HT0.out; have t1 := (hbw.cell (p := ⟨tb, 1, none⟩) HTL.out).trans HT1.out; go_simp; try with_reducible rfl)
      refine tkW 4 (some 22) (v := ?_) ?_ hHeld ?_
      rotate_left
      · (intro w _; go_simp; try with_reducible rfl)
      refine tkW 5 (some 23) (v := ?_) ?_ hHeld ?_
      rotate_left
      · (intro w hSw; (try dsimp only at hSw); have hbw := hSw; have t0 := (hbw.cell (p := ⟨tb, 0, none⟩) HTL.out).trans HT0.out; have t1 := (hbw.cell (p := ⟨tb, 1, none⟩) HTL.out).trans HT1.out; go_simp; try with_reducible rfl)
      refine tkW 6 (some 24) (v := ?_) ?_ hHeld ?_
      rotate_left
      · (intro w _; go_simp; try with_reducible rfl)
      refine tkW 7 (some 25) (v := ?_) ?_ hHeld ?_
      rotate_left
      · (intro w hSw; (try dsimp only at hSw); have hbw := hSw; have t0 := (hbw.cell (p := ⟨tb, 0, none⟩) HTL.out).trans HT0.out; have t1 := (hbw.cell (p := ⟨tb, 1, none⟩) HTL.out).trans HT1.out; go_simp; try with_reducible rfl)
      refine tkW 8 (some 26) (v := ?_) ?_ hHeld ?_
      rotate_left
      · (intro w hSw; (try dsimp only at hSw); have hbw := hSw; have t0 := (hbw.cell (p := ⟨tb, 0, none⟩) HTL.out).trans HT0.out; have t1 := (hbw.cell (p := ⟨tb, 1, none⟩) HTL.out).trans HT1.out; go_simp; try with_reducible rfl)
      refine wpAnyH_take (i := 9) (oi := ⟨some 27, _, _, _, _, _⟩) (v := .agg (rwCells x).toArray) rfl (by kernel_rfl) (by kernel_rfl) (by kernel_rfl) (fun _ _ _ h => h) (yieldsIf_load_mid (by rfl) 69 (.tmp 26) rfl g (m * 13) rfl (rwCells x) _ (fun W hS => rangeAt_keep HX.out (hS.block _ HGL.out)) Try.underlying69 rfl sizeMove) hHeld ?_
      simp only [Act.put, List.setIfInBounds_toArray, List.set_cons_zero, List.set_cons_succ]
      refine wpAnyH_ready (rs := [10]) (by kernel_rfl) (by simp) ?_
      refine AllReadyH.cons (o := ⟨some 4, _, _, _, _, _⟩) rfl (fun K hK => ?_) AllReadyH.nil
      have HSz : Hid (W1.heap.size ≤ Ua1u0.heap.size) := hHeld.size
      have hbx : Below Ua1u0.heap.size Ua1u0 (Ua1u0.alloc (.cells #[.int .i64 0, .int .i64 0, .int .i64 0, .int .i64 0, .int .i64 0, .int .i64 0, .bool false, .int .i64 0, .int .i64 0, .int .i64 0, .int .i64 0, .int .i64 0, .int .i64 0] 69)) := (Below.refl _ _).alloc (Nat.le_refl _) _
      go_simp
      refine hK.out _ _ (hHeld.trans (hbx.mono hHeld.size)) (fun hHeld2 => ?_)
      clear hK K hHeld
      have hHeld := hHeld2
      clear hHeld2
      (try simp only [Act.put, List.setIfInBounds_toArray, List.set_cons_zero, List.set_cons_succ])
      obtain ⟨Ua1u1, eW⟩ : ∃ X, X = Ua1u0.alloc (.cells #[.int .i64 0, .int .i64 0, .int .i64 0, .int .i64 0, .int .i64 0, .int .i64 0, .bool false, .int .i64 0, .int .i64 0, .int .i64 0, .int .i64 0, .int .i64 0, .int .i64 0] 69) := ⟨_, rfl⟩
      have hb : Below Ua1u0.heap.size Ua1u0 Ua1u1 := by rw [eW]; exact (Below.refl _ _).alloc (Nat.le_refl _) _
      have HZ : Hid (Ua1u1.heap[Ua1u0.heap.size]? = some (.cells #[.int .i64 0, .int .i64 0, .int .i64 0, .int .i64 0, .int .i64 0, .int .i64 0, .bool false, .int .i64 0, .int .i64 0, .int .i64 0, .int .i64 0, .int .i64 0, .int .i64 0] 69)) := by rw [eW]; exact heap_alloc_new _ _
      rw [← eW] at hHeld ⊢
      clear eW
      clear hbx
      obtain ⟨nb, enb⟩ : ∃ b, b = Ua1u0.heap.size := ⟨_, rfl⟩
      have HN : Hid (W1.heap.size ≤ nb) := by rw [enb]; exact HSz.out
      rw [← enb] at HZ ⊢
      clear enb
      clear HSz
      clear hb
      refine wpAnyH_ready (rs := [11]) (by kernel_rfl) (by simp) ?_
      refine AllReadyH.cons (o := ⟨none, _, _, _, _, _⟩) rfl (fun K hK => ?_) AllReadyH.nil
      refine step_store_row rfl 69 (.tmp 4) (.tmp 27) rfl nb 69 #[.int .i64 0, .int .i64 0, .int .i64 0, .int .i64 0, .int .i64 0, .int .i64 0, .bool false, .int .i64 0, .int .i64 0, .int .i64 0, .int .i64 0, .int .i64 0, .int .i64 0] (rwCells x).toArray rfl rfl HZ.out sizeMove rfl (by simp [Value.oneCell', rwCells]) ?_
      obtain ⟨Ua1u2, eW⟩ : ∃ Y, Y = Ua1u1.setRow nb (rwCells x).toArray := ⟨_, rfl⟩
      have HR : Hid (Ua1u2.heap[nb]? = some (.cells (rwCells x).toArray 69)) := by rw [eW]; exact setRow_same HZ.out
      have hS2 : Below W1.heap.size W1 Ua1u2 := by rw [eW]; exact below_setRow hHeld HN.out _
      rw [← eW]
      refine hK.out _ _ (hS2) (fun hHeld2 => ?_)
      clear hK K hHeld
      have hHeld := hHeld2
      clear hHeld2
      (try simp only [Act.put, List.setIfInBounds_toArray, List.set_cons_zero, List.set_cons_succ])
      clear eW hS2 HZ
      refine wpAnyH_done (by kernel_rfl) ?_ _
      have HB : Hid (Below W1.heap.size W1 Ua1u2) := hHeld
      clear hHeld
      have q2 : Ua1u2.cell? ⟨nb, 2, none⟩ = some (.int .i64 x.m.nd.1) := by rw [cell_of_row Ua1u2 nb 2 _ _ _ HR.out]; rfl
      have q3 : Ua1u2.cell? ⟨nb, 3, none⟩ = some (.int .i64 x.m.nd.2) := by rw [cell_of_row Ua1u2 nb 3 _ _ _ HR.out]; rfl
      have q7 : Ua1u2.cell? ⟨nb, 7, none⟩ = some (.int .i64 x.fr.nd.1) := by rw [cell_of_row Ua1u2 nb 7 _ _ _ HR.out]; rfl
      have q8 : Ua1u2.cell? ⟨nb, 8, none⟩ = some (.int .i64 x.fr.nd.2) := by rw [cell_of_row Ua1u2 nb 8 _ _ _ HR.out]; rfl
      have q9 : Ua1u2.cell? ⟨nb, 9, none⟩ = some (.int .i64 x.fr.pr.1) := by rw [cell_of_row Ua1u2 nb 9 _ _ _ HR.out]; rfl
      have q10 : Ua1u2.cell? ⟨nb, 10, none⟩ = some (.int .i64 x.fr.pr.2) := by rw [cell_of_row Ua1u2 nb 10 _ _ _ HR.out]; rfl
      have q11 : Ua1u2.cell? ⟨nb, 11, none⟩ = some (.int .i64 x.fr.sl.1) := by rw [cell_of_row Ua1u2 nb 11 _ _ _ HR.out]; rfl
      have q12 : Ua1u2.cell? ⟨nb, 12, none⟩ = some (.int .i64 x.fr.sl.2) := by rw [cell_of_row Ua1u2 nb 12 _ _ _ HR.out]; rfl
      have q6 : Ua1u2.cell? ⟨nb, 6, none⟩ = some (.bool x.cn) := by rw [cell_of_row Ua1u2 nb 6 _ _ _ HR.out]; rfl
      clear HR
      have HRw : Hid (Ua1u2.heap[tb]? = some (.cells #[.slice (some ⟨g, 0, none⟩) R.length cap, .int .i64 (m : Int), .map (some sb), .map (some kb)] 66)) := (HB.out.block _ HTL.out).trans HRo.out
      have HD : Hid (SMap Ua1u2 sb (doneT ((mvs R).take (m + 1)))) := HD1.out.keep (HB.out.block _ HD1.out.lt)
      have HM : Hid (KMap Ua1u2 kb (kidsN (doneT ((mvs R).take (m + 1))))) := HM1.out.keep (HB.out.block _ HM1.out.lt)
      have HTo : Hid (Touch (fun j => j = tb ∨ j = sb ∨ j = kb) wr Ua1u2) := HT1o.out.trans (Touch.of_below (F := fun _ => False) HB.out) (fun j h => h.elim)
      have HBk := HBack
      cases hcn : x.cn with
      | false =>
        rw [hcn] at q6 HBk
        clear hcn
        go_wp2
        go_roundg m
        case measure => omega
        case rel =>
          have e9 : doneT ((mvs R).take m) = doneT ((mvs R).take (m + 1)) := HBk.out
          exact ⟨HTr.out.turn HRw.out (by rw [e9]; exact HD.out) (by rw [e9]; exact HM.out) HLs.out HTo.out, HTw.out.trans HTo.out (fun j hj => .inl (HTF.out j hj)), by omega, by omega⟩
      | true =>
        have HCn : Hid (x.cn = true) := hcn
        rw [hcn] at q6 HBk
        clear hcn
        go_wp2_with fail
        clear q2 q3 q6 q7 q8 q9 q10 q11 q12
        refine (put_any tb sb kb (.slice (some ⟨g, 0, none⟩) R.length cap) (.int .i64 (m : Int)) x.m.nd.1 x.m.nd.2 x.fr (doneT ((mvs R).take (m + 1))) _ HRw.out HD.out HM.out HNe.out (goodT _).srt HSm.out (HNd.out HCn.out)).mono ?_
        rintro e w3 ⟨⟨v3, rfl⟩, hd3, hk3, ht3⟩
        have HD3 : Hid (SMap w3 sb (doneT ((mvs R).take m))) := by (rw [HBk.out]; exact hd3)
        have HM3 : Hid (KMap w3 kb (kidsN (doneT ((mvs R).take m)))) := by (rw [HBk.out]; exact hk3)
        have HRw3 : Hid (w3.heap[tb]? = some (.cells #[.slice (some ⟨g, 0, none⟩) R.length cap, .int .i64 (m : Int), .map (some sb), .map (some kb)] 66)) := (ht3.block _ (row_lt HRw.out) (fun h => by have := HTs.out; omega)).trans HRw.out
        have HTo3 : Hid (Touch (fun j => j = tb ∨ j = sb ∨ j = kb) wr w3) := HTo.out.trans ht3 (fun j h => .inl (.inr h))
        clear hd3 hk3 ht3 HBk HD HM HRw HTo
        go_wp2
        go_roundg m
        case measure => omega
        case rel => exact ⟨HTr.out.turn HRw3.out HD3.out HM3.out HLs.out HTo3.out, HTw.out.trans HTo3.out (fun j hj => .inl (HTF.out j hj)), by omega, by omega⟩
    · have hgi : ¬ (i : Int) < (gk : Int) := by omega
      have hek : gk = min k i := by omega
      have HE : Hid (TrIs F wr tb R (min k i) lv sb kb) := by (rw [← hek]; exact HTr.out)
      clear hek
      go_wp2
      go_end0
      exact ⟨⟨_, rfl⟩, HE.out, HTw.out⟩

end Go.Proofs.Ytljepindfdhbbaa
