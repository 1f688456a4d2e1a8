/- The walk of ChangeSames: for any two changes it returns true. -/
import Derived.Test.YtaocjmipjibiaaaGreatDoorChSs
import Derived.Test.YtaocjmipjibiaaaGreatDoorChNr
import Derived.Test.YtaocjmipjibiaaaGreatDoorChCp
import Derived.Test.YtaocjmipjibiaaaGreatDoorChWk
namespace Go.Proofs.YtaocjmipjibiaaaGreatDoor
open Go.RowKit
set_option linter.unusedVariables false
set_option linter.unusedSimpArgs false

theorem namesL_len (c : Ch) : (S.sortL (namesL c)).length ≤ 3 := by
  have h1 : (namesL c).length ≤ 3 := by unfold namesL; exact List.length_filter_le _ _
  have h2 := S.sortL_length (namesL c) (namesL c).length (Nat.le_refl _)
  rw [List.take_length] at h2
  omega

set_option maxRecDepth 100000 in
set_option maxHeartbeats 16000000 in
theorem changeSames_walk (ac ar sq : Int) (dv : Value) (kd nc nr pc pr fc fr : Int) (nm vl : ByteArray) (ds : List Int) (ac2 ar2 sq2 : Int) (dv2 : Value) (kd2 nc2 nr2 pc2 pr2 fc2 fr2 : Int) (nm2 vl2 : ByteArray) (ds2 : List Int) (w : World) (h1 : IsI w dv ds) (hnm : nm.size ≤ 281474976710656) (h2 : IsI w dv2 ds2) (hnm2 : nm2.size ≤ 281474976710656) (he : Env w) :
    Calls Tryz.prog 4 #[.agg #[.int .i64 ac, .int .i64 ar, .int .i64 sq, dv, .int .i64 kd, .int .i64 nc, .int .i64 nr, .int .i64 pc, .int .i64 pr, .int .i64 fc, .int .i64 fr, .string nm, .string vl], .agg #[.int .i64 ac2, .int .i64 ar2, .int .i64 sq2, dv2, .int .i64 kd2, .int .i64 nc2, .int .i64 nr2, .int .i64 pc2, .int .i64 pr2, .int .i64 fc2, .int .i64 fr2, .string nm2, .string vl2]] w fun e w' => e = .returned (.bool true) ∧ Below w.heap.size w w' := by
  obtain ⟨a1, c1, e1⟩ := h1.form
  subst e1
  obtain ⟨a2, c2, e2⟩ := h2.form
  subst e2
  have hlen : ds.length ≤ 17592186044416 := by obtain ⟨_, _, _, _, hl, _⟩ := h1; exact hl
  have K00 := KeptC.start w [.int .i64 ac, .int .i64 ar, .int .i64 sq, .slice a1 ds.length c1, .int .i64 kd, .int .i64 nc, .int .i64 nr, .int .i64 pc, .int .i64 pr, .int .i64 fc, .int .i64 fr, .string nm, .string vl] 26
  have M00 := KeptC.start (w.alloc (.cells #[.int .i64 ac, .int .i64 ar, .int .i64 sq, .slice a1 ds.length c1, .int .i64 kd, .int .i64 nc, .int .i64 nr, .int .i64 pc, .int .i64 pr, .int .i64 fc, .int .i64 fr, .string nm, .string vl] 26)) [.int .i64 ac2, .int .i64 ar2, .int .i64 sq2, .slice a2 ds2.length c2, .int .i64 kd2, .int .i64 nc2, .int .i64 nr2, .int .i64 pc2, .int .i64 pr2, .int .i64 fc2, .int .i64 fr2, .string nm2, .string vl2] 26
  rw [show (w.alloc (.cells #[.int .i64 ac, .int .i64 ar, .int .i64 sq, .slice a1 ds.length c1, .int .i64 kd, .int .i64 nc, .int .i64 nr, .int .i64 pc, .int .i64 pr, .int .i64 fc, .int .i64 fr, .string nm, .string vl] 26)).heap.size = w.heap.size + 1 by simp] at M00
  have K0 := K00.step M00.2.2
  have M0 : KeptC w (w.heap.size + 1) [.int .i64 ac2, .int .i64 ar2, .int .i64 sq2, .slice a2 ds2.length c2, .int .i64 kd2, .int .i64 nc2, .int .i64 nr2, .int .i64 pc2, .int .i64 pr2, .int .i64 fc2, .int .i64 fr2, .string nm2, .string vl2] _ := ⟨M00.1, M00.2.1, K0.2.2⟩
  have H1 : Hid (IsI w (.slice a1 ds.length c1) ds) := h1
  have H2 : Hid (IsI w (.slice a2 ds2.length c2) ds2) := h2
  have HEnv : Hid (Env w) := he
  clear h1 h2 he hnm hnm2 K00 M00
  obtain ⟨sb, esb⟩ : ∃ b : Bool, b = sameB ⟨ac, ar, sq, ds, kd, nc, nr, pc, pr, fc, fr, nm, vl⟩ ⟨ac2, ar2, sq2, ds2, kd2, nc2, nr2, pc2, pr2, fc2, fr2, nm2, vl2⟩ := ⟨_, rfl⟩
  obtain ⟨lb, elb⟩ : ∃ b : Bool, b = lessS ac ar ac2 ar2 := ⟨_, rfl⟩
  obtain ⟨NL, eNL⟩ : ∃ l, l = S.sortL (namesL ⟨ac, ar, sq, ds, kd, nc, nr, pc, pr, fc, fr, nm, vl⟩) := ⟨_, rfl⟩
  have hNL : NL.length ≤ 3 := by rw [eNL]; exact namesL_len _
  have HSM : Hid (∀ W, IsI W (.slice a1 ds.length c1) ds → IsI W (.slice a2 ds2.length c2) ds2 → Calls Tryz.prog 15 #[.agg #[.int .i64 ac, .int .i64 ar, .int .i64 sq, .slice a1 ds.length c1, .int .i64 kd, .int .i64 nc, .int .i64 nr, .int .i64 pc, .int .i64 pr, .int .i64 fc, .int .i64 fr, .string nm, .string vl], .agg #[.int .i64 ac2, .int .i64 ar2, .int .i64 sq2, .slice a2 ds2.length c2, .int .i64 kd2, .int .i64 nc2, .int .i64 nr2, .int .i64 pc2, .int .i64 pr2, .int .i64 fc2, .int .i64 fr2, .string nm2, .string vl2]] W fun e w' => e = .returned (.bool sb) ∧ Below W.heap.size W w') := fun W i1 i2 => by rw [esb]; exact same_any ac ar sq (.slice a1 ds.length c1) kd nc nr pc pr fc fr nm vl ac2 ar2 sq2 (.slice a2 ds2.length c2) kd2 nc2 nr2 pc2 pr2 fc2 fr2 nm2 vl2 ds ds2 W i1 i2
  have HRS : Hid (∀ W, IsI W (.slice a1 ds.length c1) ds → IsI W (.slice a2 ds2.length c2) ds2 → Calls Tryz.prog 16 #[.agg #[.int .i64 ac, .int .i64 ar, .int .i64 sq, .slice a1 ds.length c1, .int .i64 kd, .int .i64 nc, .int .i64 nr, .int .i64 pc, .int .i64 pr, .int .i64 fc, .int .i64 fr, .string nm, .string vl], .agg #[.int .i64 ac2, .int .i64 ar2, .int .i64 sq2, .slice a2 ds2.length c2, .int .i64 kd2, .int .i64 nc2, .int .i64 nr2, .int .i64 pc2, .int .i64 pr2, .int .i64 fc2, .int .i64 fr2, .string nm2, .string vl2]] W fun e w' => e = .returned (.bool sb) ∧ Below W.heap.size W w') := fun W i1 i2 => by rw [esb]; exact refSameCh_any ac ar sq (.slice a1 ds.length c1) kd nc nr pc pr fc fr nm vl ac2 ar2 sq2 (.slice a2 ds2.length c2) kd2 nc2 nr2 pc2 pr2 fc2 fr2 nm2 vl2 ds ds2 W i1 i2
  have HSC : Hid (∀ W a3 c3, IsI W (.slice a1 ds.length c1) ds → IsI W (.slice a3 ds.length c3) ds → Calls Tryz.prog 15 #[.agg #[.int .i64 ac, .int .i64 ar, .int .i64 sq, .slice a1 ds.length c1, .int .i64 kd, .int .i64 nc, .int .i64 nr, .int .i64 pc, .int .i64 pr, .int .i64 fc, .int .i64 fr, .string nm, .string vl], .agg #[.int .i64 ac, .int .i64 ar, .int .i64 sq, .slice a3 ds.length c3, .int .i64 kd, .int .i64 nc, .int .i64 nr, .int .i64 pc, .int .i64 pr, .int .i64 fc, .int .i64 fr, .string nm, .string vl]] W fun e w' => e = .returned (.bool true) ∧ Below W.heap.size W w') := fun W a3 c3 i1 i2 => by
    have := same_any ac ar sq (.slice a1 ds.length c1) kd nc nr pc pr fc fr nm vl ac ar sq (.slice a3 ds.length c3) kd nc nr pc pr fc fr nm vl ds ds W i1 i2
    rw [sameB_self] at this
    exact this
  have HLS : Hid (∀ W, Calls Tryz.prog 17 #[.agg #[.int .i64 ac, .int .i64 ar, .int .i64 sq, .slice a1 ds.length c1, .int .i64 kd, .int .i64 nc, .int .i64 nr, .int .i64 pc, .int .i64 pr, .int .i64 fc, .int .i64 fr, .string nm, .string vl], .agg #[.int .i64 ac2, .int .i64 ar2, .int .i64 sq2, .slice a2 ds2.length c2, .int .i64 kd2, .int .i64 nc2, .int .i64 nr2, .int .i64 pc2, .int .i64 pr2, .int .i64 fc2, .int .i64 fr2, .string nm2, .string vl2]] W fun e w' => e = .returned (.bool lb) ∧ Below W.heap.size W w') := fun W => by rw [elb]; exact lessCh_any ac ar sq (.slice a1 ds.length c1) kd nc nr pc pr fc fr nm vl ac2 ar2 sq2 (.slice a2 ds2.length c2) kd2 nc2 nr2 pc2 pr2 fc2 fr2 nm2 vl2 W
  have HRL : Hid (∀ W, Calls Tryz.prog 18 #[.agg #[.int .i64 ac, .int .i64 ar], .agg #[.int .i64 ac2, .int .i64 ar2]] W fun e w' => e = .returned (.bool lb) ∧ Below W.heap.size W w') := fun W => by rw [elb]; exact S.refLess_bel ac ar ac2 ar2 W
  have HNA : Hid (∀ W, Calls Tryz.prog 20 #[.agg #[.int .i64 ac, .int .i64 ar, .int .i64 sq, .slice a1 ds.length c1, .int .i64 kd, .int .i64 nc, .int .i64 nr, .int .i64 pc, .int .i64 pr, .int .i64 fc, .int .i64 fr, .string nm, .string vl]] W fun e w' => ∃ v', e = .returned v' ∧ S.OwnS W.heap.size w' v' NL ∧ Below W.heap.size W w') := fun W => by rw [eNL]; exact names_any ac ar sq (.slice a1 ds.length c1) kd nc nr pc pr fc fr nm vl ds W
  have HNB : Hid (∀ W, Calls Tryz.prog 21 #[.agg #[.int .i64 ac, .int .i64 ar, .int .i64 sq, .slice a1 ds.length c1, .int .i64 kd, .int .i64 nc, .int .i64 nr, .int .i64 pc, .int .i64 pr, .int .i64 fc, .int .i64 fr, .string nm, .string vl]] W fun e w' => ∃ v', e = .returned v' ∧ S.IsS w' v' NL ∧ Below W.heap.size W w') := fun W => by rw [eNL]; exact refNames_any ac ar sq (.slice a1 ds.length c1) kd nc nr pc pr fc fr nm vl ds W
  clear esb elb eNL
  have q1 : (sb == sb) = true := by simp
  have q2 : (lb == lb) = true := by simp
  go_enter Tryz.func4, Tryz.ntmps4
  go_wp2_with fail
  refine wp_region_held_drew (S := fun W' => KeptC w w.heap.size [.int .i64 ac, .int .i64 ar, .int .i64 sq, .slice a1 ds.length c1, .int .i64 kd, .int .i64 nc, .int .i64 nr, .int .i64 pc, .int .i64 pr, .int .i64 fc, .int .i64 fr, .string nm, .string vl] W' ∧ KeptC w (w.heap.size + 1) [.int .i64 ac2, .int .i64 ar2, .int .i64 sq2, .slice a2 ds2.length c2, .int .i64 kd2, .int .i64 nc2, .int .i64 nr2, .int .i64 pc2, .int .i64 pr2, .int .i64 fc2, .int .i64 fr2, .string nm2, .string vl2] W') (by kernel_rfl) ⟨K0.drew, M0.drew⟩ (fun hHeld => ?_)
  refine wpAnyH_take (i := 0) (oi := ⟨some 5, _, _, _, _, _⟩) (v := ?vs0) rfl (by kernel_rfl) (by kernel_rfl) (by kernel_rfl) (fun _ _ _ h => h) (Or.inl ⟨by rfl, ?hys0⟩) hHeld ?rests0
  case hys0 => (intro w hSw; (try dsimp only at hSw); have hc0 := hSw.1.1 0 _ rfl; have hd0 := hSw.2.1 0 _ rfl; have hc1 := hSw.1.1 1 _ rfl; have hd1 := hSw.2.1 1 _ rfl; have hc2 := hSw.1.1 2 _ rfl; have hd2 := hSw.2.1 2 _ rfl; have hc3 := hSw.1.1 3 _ rfl; have hd3 := hSw.2.1 3 _ rfl; have hc4 := hSw.1.1 4 _ rfl; have hd4 := hSw.2.1 4 _ rfl; have hc5 := hSw.1.1 5 _ rfl; have hd5 := hSw.2.1 5 _ rfl; have hc6 := hSw.1.1 6 _ rfl; have hd6 := hSw.2.1 6 _ rfl; have hc7 := hSw.1.1 7 _ rfl; have hd7 := hSw.2.1 7 _ rfl; have hc8 := hSw.1.1 8 _ rfl; have hd8 := hSw.2.1 8 _ rfl; have hc9 := hSw.1.1 9 _ rfl; have hd9 := hSw.2.1 9 _ rfl; have hc10 := hSw.1.1 10 _ rfl; have hd10 := hSw.2.1 10 _ rfl; have hc11 := hSw.1.1 11 _ rfl; have hd11 := hSw.2.1 11 _ rfl; have hc12 := hSw.1.1 12 _ rfl; have hd12 := hSw.2.1 12 _ rfl; go_simp; try with_reducible rfl)
  simp only [Act.put, List.setIfInBounds_toArray, List.set_cons_zero, List.set_cons_succ]
  refine wpAnyH_take (i := 1) (oi := ⟨some 6, _, _, _, _, _⟩) (v := ?vs1) rfl (by kernel_rfl) (by kernel_rfl) (by kernel_rfl) (fun _ _ _ h => h) (Or.inl ⟨by rfl, ?hys1⟩) hHeld ?rests1
  case hys1 => (intro w hSw; (try dsimp only at hSw); have hc0 := hSw.1.1 0 _ rfl; have hd0 := hSw.2.1 0 _ rfl; have hc1 := hSw.1.1 1 _ rfl; have hd1 := hSw.2.1 1 _ rfl; have hc2 := hSw.1.1 2 _ rfl; have hd2 := hSw.2.1 2 _ rfl; have hc3 := hSw.1.1 3 _ rfl; have hd3 := hSw.2.1 3 _ rfl; have hc4 := hSw.1.1 4 _ rfl; have hd4 := hSw.2.1 4 _ rfl; have hc5 := hSw.1.1 5 _ rfl; have hd5 := hSw.2.1 5 _ rfl; have hc6 := hSw.1.1 6 _ rfl; have hd6 := hSw.2.1 6 _ rfl; have hc7 := hSw.1.1 7 _ rfl; have hd7 := hSw.2.1 7 _ rfl; have hc8 := hSw.1.1 8 _ rfl; have hd8 := hSw.2.1 8 _ rfl; have hc9 := hSw.1.1 9 _ rfl; have hd9 := hSw.2.1 9 _ rfl; have hc10 := hSw.1.1 10 _ rfl; have hd10 := hSw.2.1 10 _ rfl; have hc11 := hSw.1.1 11 _ rfl; have hd11 := hSw.2.1 11 _ rfl; have hc12 := hSw.1.1 12 _ rfl; have hd12 := hSw.2.1 12 _ rfl; go_simp; try with_reducible rfl)
  simp only [Act.put, List.setIfInBounds_toArray, List.set_cons_zero, List.set_cons_succ]
  refine wpAnyH_take (i := 3) (oi := ⟨some 8, _, _, _, _, _⟩) (v := ?vs3) rfl (by kernel_rfl) (by kernel_rfl) (by kernel_rfl) (fun _ _ _ h => h) (Or.inl ⟨by rfl, ?hys3⟩) hHeld ?rests3
  case hys3 => (intro w hSw; (try dsimp only at hSw); have hc0 := hSw.1.1 0 _ rfl; have hd0 := hSw.2.1 0 _ rfl; have hc1 := hSw.1.1 1 _ rfl; have hd1 := hSw.2.1 1 _ rfl; have hc2 := hSw.1.1 2 _ rfl; have hd2 := hSw.2.1 2 _ rfl; have hc3 := hSw.1.1 3 _ rfl; have hd3 := hSw.2.1 3 _ rfl; have hc4 := hSw.1.1 4 _ rfl; have hd4 := hSw.2.1 4 _ rfl; have hc5 := hSw.1.1 5 _ rfl; have hd5 := hSw.2.1 5 _ rfl; have hc6 := hSw.1.1 6 _ rfl; have hd6 := hSw.2.1 6 _ rfl; have hc7 := hSw.1.1 7 _ rfl; have hd7 := hSw.2.1 7 _ rfl; have hc8 := hSw.1.1 8 _ rfl; have hd8 := hSw.2.1 8 _ rfl; have hc9 := hSw.1.1 9 _ rfl; have hd9 := hSw.2.1 9 _ rfl; have hc10 := hSw.1.1 10 _ rfl; have hd10 := hSw.2.1 10 _ rfl; have hc11 := hSw.1.1 11 _ rfl; have hd11 := hSw.2.1 11 _ rfl; have hc12 := hSw.1.1 12 _ rfl; have hd12 := hSw.2.1 12 _ rfl; go_simp; try with_reducible rfl)
  simp only [Act.put, List.setIfInBounds_toArray, List.set_cons_zero, List.set_cons_succ]
  refine wpAnyH_take (i := 4) (oi := ⟨some 9, _, _, _, _, _⟩) (v := ?vs4) rfl (by kernel_rfl) (by kernel_rfl) (by kernel_rfl) (fun _ _ _ h => h) (Or.inl ⟨by rfl, ?hys4⟩) hHeld ?rests4
  case hys4 => (intro w hSw; (try dsimp only at hSw); have hc0 := hSw.1.1 0 _ rfl; have hd0 := hSw.2.1 0 _ rfl; have hc1 := hSw.1.1 1 _ rfl; have hd1 := hSw.2.1 1 _ rfl; have hc2 := hSw.1.1 2 _ rfl; have hd2 := hSw.2.1 2 _ rfl; have hc3 := hSw.1.1 3 _ rfl; have hd3 := hSw.2.1 3 _ rfl; have hc4 := hSw.1.1 4 _ rfl; have hd4 := hSw.2.1 4 _ rfl; have hc5 := hSw.1.1 5 _ rfl; have hd5 := hSw.2.1 5 _ rfl; have hc6 := hSw.1.1 6 _ rfl; have hd6 := hSw.2.1 6 _ rfl; have hc7 := hSw.1.1 7 _ rfl; have hd7 := hSw.2.1 7 _ rfl; have hc8 := hSw.1.1 8 _ rfl; have hd8 := hSw.2.1 8 _ rfl; have hc9 := hSw.1.1 9 _ rfl; have hd9 := hSw.2.1 9 _ rfl; have hc10 := hSw.1.1 10 _ rfl; have hd10 := hSw.2.1 10 _ rfl; have hc11 := hSw.1.1 11 _ rfl; have hd11 := hSw.2.1 11 _ rfl; have hc12 := hSw.1.1 12 _ rfl; have hd12 := hSw.2.1 12 _ rfl; go_simp; try with_reducible rfl)
  simp only [Act.put, List.setIfInBounds_toArray, List.set_cons_zero, List.set_cons_succ]
  refine wpAnyH_ready (rs := [2]) (by kernel_rfl) (by simp) ?_
  refine AllReadyH.cons (o := ⟨some 7, _, _, _, _, _⟩) rfl (fun K hK => ?_) AllReadyH.nil
  go_simp
  refine (HSM.out _ (H1.out.below hHeld.1.2.2) (H2.out.below hHeld.1.2.2)).mono ?_
  rintro e w' ⟨rfl, hb⟩
  (try go_wp2_with fail)
  refine hK.out _ _ (⟨hHeld.1.step hb, hHeld.2.step hb⟩) (fun hHeld2 => ?_)
  clear hK K hHeld
  have hHeld := hHeld2
  clear hHeld2
  (try simp only [Act.put, List.setIfInBounds_toArray, List.set_cons_zero, List.set_cons_succ])
  refine wpAnyH_ready (rs := [5]) (by kernel_rfl) (by simp) ?_
  refine AllReadyH.cons (o := ⟨some 10, _, _, _, _, _⟩) rfl (fun K hK => ?_) AllReadyH.nil
  go_simp
  refine (HRS.out _ (H1.out.below hHeld.1.2.2) (H2.out.below hHeld.1.2.2)).mono ?_
  rintro e w' ⟨rfl, hb⟩
  (try go_wp2_with fail)
  refine hK.out _ _ (⟨hHeld.1.step hb, hHeld.2.step hb⟩) (fun hHeld2 => ?_)
  clear hK K hHeld
  have hHeld := hHeld2
  clear hHeld2
  (try simp only [Act.put, List.setIfInBounds_toArray, List.set_cons_zero, List.set_cons_succ])
  refine wpAnyH_take (i := 6) (oi := ⟨some 11, _, _, _, _, _⟩) (v := ?vs6) rfl (by kernel_rfl) (by kernel_rfl) (by kernel_rfl) (fun _ _ _ h => h) (Or.inl ⟨by rfl, ?hys6⟩) hHeld ?rests6
  case hys6 => (intro w hSw; (try dsimp only at hSw); have hc0 := hSw.1.1 0 _ rfl; have hd0 := hSw.2.1 0 _ rfl; have hc1 := hSw.1.1 1 _ rfl; have hd1 := hSw.2.1 1 _ rfl; have hc2 := hSw.1.1 2 _ rfl; have hd2 := hSw.2.1 2 _ rfl; have hc3 := hSw.1.1 3 _ rfl; have hd3 := hSw.2.1 3 _ rfl; have hc4 := hSw.1.1 4 _ rfl; have hd4 := hSw.2.1 4 _ rfl; have hc5 := hSw.1.1 5 _ rfl; have hd5 := hSw.2.1 5 _ rfl; have hc6 := hSw.1.1 6 _ rfl; have hd6 := hSw.2.1 6 _ rfl; have hc7 := hSw.1.1 7 _ rfl; have hd7 := hSw.2.1 7 _ rfl; have hc8 := hSw.1.1 8 _ rfl; have hd8 := hSw.2.1 8 _ rfl; have hc9 := hSw.1.1 9 _ rfl; have hd9 := hSw.2.1 9 _ rfl; have hc10 := hSw.1.1 10 _ rfl; have hd10 := hSw.2.1 10 _ rfl; have hc11 := hSw.1.1 11 _ rfl; have hd11 := hSw.2.1 11 _ rfl; have hc12 := hSw.1.1 12 _ rfl; have hd12 := hSw.2.1 12 _ rfl; go_simp; try with_reducible rfl)
  simp only [Act.put, List.setIfInBounds_toArray, List.set_cons_zero, List.set_cons_succ]
  refine wpAnyH_take (i := 7) (oi := ⟨some 12, _, _, _, _, _⟩) (v := ?vs7) rfl (by kernel_rfl) (by kernel_rfl) (by kernel_rfl) (fun _ _ _ h => h) (Or.inl ⟨by rfl, ?hys7⟩) hHeld ?rests7
  case hys7 => (intro w hSw; (try dsimp only at hSw); have hc0 := hSw.1.1 0 _ rfl; have hd0 := hSw.2.1 0 _ rfl; have hc1 := hSw.1.1 1 _ rfl; have hd1 := hSw.2.1 1 _ rfl; have hc2 := hSw.1.1 2 _ rfl; have hd2 := hSw.2.1 2 _ rfl; have hc3 := hSw.1.1 3 _ rfl; have hd3 := hSw.2.1 3 _ rfl; have hc4 := hSw.1.1 4 _ rfl; have hd4 := hSw.2.1 4 _ rfl; have hc5 := hSw.1.1 5 _ rfl; have hd5 := hSw.2.1 5 _ rfl; have hc6 := hSw.1.1 6 _ rfl; have hd6 := hSw.2.1 6 _ rfl; have hc7 := hSw.1.1 7 _ rfl; have hd7 := hSw.2.1 7 _ rfl; have hc8 := hSw.1.1 8 _ rfl; have hd8 := hSw.2.1 8 _ rfl; have hc9 := hSw.1.1 9 _ rfl; have hd9 := hSw.2.1 9 _ rfl; have hc10 := hSw.1.1 10 _ rfl; have hd10 := hSw.2.1 10 _ rfl; have hc11 := hSw.1.1 11 _ rfl; have hd11 := hSw.2.1 11 _ rfl; have hc12 := hSw.1.1 12 _ rfl; have hd12 := hSw.2.1 12 _ rfl; go_simp; try with_reducible rfl)
  simp only [Act.put, List.setIfInBounds_toArray, List.set_cons_zero, List.set_cons_succ]
  refine wpAnyH_take (i := 8) (oi := ⟨some 13, _, _, _, _, _⟩) (v := ?vs8) rfl (by kernel_rfl) (by kernel_rfl) (by kernel_rfl) (fun _ _ _ h => h) (Or.inl ⟨by rfl, ?hys8⟩) hHeld ?rests8
  case hys8 => (intro w hSw; (try dsimp only at hSw); have hc0 := hSw.1.1 0 _ rfl; have hd0 := hSw.2.1 0 _ rfl; have hc1 := hSw.1.1 1 _ rfl; have hd1 := hSw.2.1 1 _ rfl; have hc2 := hSw.1.1 2 _ rfl; have hd2 := hSw.2.1 2 _ rfl; have hc3 := hSw.1.1 3 _ rfl; have hd3 := hSw.2.1 3 _ rfl; have hc4 := hSw.1.1 4 _ rfl; have hd4 := hSw.2.1 4 _ rfl; have hc5 := hSw.1.1 5 _ rfl; have hd5 := hSw.2.1 5 _ rfl; have hc6 := hSw.1.1 6 _ rfl; have hd6 := hSw.2.1 6 _ rfl; have hc7 := hSw.1.1 7 _ rfl; have hd7 := hSw.2.1 7 _ rfl; have hc8 := hSw.1.1 8 _ rfl; have hd8 := hSw.2.1 8 _ rfl; have hc9 := hSw.1.1 9 _ rfl; have hd9 := hSw.2.1 9 _ rfl; have hc10 := hSw.1.1 10 _ rfl; have hd10 := hSw.2.1 10 _ rfl; have hc11 := hSw.1.1 11 _ rfl; have hd11 := hSw.2.1 11 _ rfl; have hc12 := hSw.1.1 12 _ rfl; have hd12 := hSw.2.1 12 _ rfl; go_simp; try with_reducible rfl)
  simp only [Act.put, List.setIfInBounds_toArray, List.set_cons_zero, List.set_cons_succ]
  refine wpAnyH_take (i := 9) (oi := ⟨some 14, _, _, _, _, _⟩) (v := ?vs9) rfl (by kernel_rfl) (by kernel_rfl) (by kernel_rfl) (fun _ _ _ h => h) (Or.inl ⟨by rfl, ?hys9⟩) hHeld ?rests9
  case hys9 => (intro w hSw; (try dsimp only at hSw); have hc0 := hSw.1.1 0 _ rfl; have hd0 := hSw.2.1 0 _ rfl; have hc1 := hSw.1.1 1 _ rfl; have hd1 := hSw.2.1 1 _ rfl; have hc2 := hSw.1.1 2 _ rfl; have hd2 := hSw.2.1 2 _ rfl; have hc3 := hSw.1.1 3 _ rfl; have hd3 := hSw.2.1 3 _ rfl; have hc4 := hSw.1.1 4 _ rfl; have hd4 := hSw.2.1 4 _ rfl; have hc5 := hSw.1.1 5 _ rfl; have hd5 := hSw.2.1 5 _ rfl; have hc6 := hSw.1.1 6 _ rfl; have hd6 := hSw.2.1 6 _ rfl; have hc7 := hSw.1.1 7 _ rfl; have hd7 := hSw.2.1 7 _ rfl; have hc8 := hSw.1.1 8 _ rfl; have hd8 := hSw.2.1 8 _ rfl; have hc9 := hSw.1.1 9 _ rfl; have hd9 := hSw.2.1 9 _ rfl; have hc10 := hSw.1.1 10 _ rfl; have hd10 := hSw.2.1 10 _ rfl; have hc11 := hSw.1.1 11 _ rfl; have hd11 := hSw.2.1 11 _ rfl; have hc12 := hSw.1.1 12 _ rfl; have hd12 := hSw.2.1 12 _ rfl; go_simp; try with_reducible rfl)
  simp only [Act.put, List.setIfInBounds_toArray, List.set_cons_zero, List.set_cons_succ]
  refine wpAnyH_ready (rs := [10]) (by kernel_rfl) (by simp) ?_
  refine AllReadyH.cons (o := ⟨some 15, _, _, _, _, _⟩) rfl (fun K hK => ?_) AllReadyH.nil
  go_simp
  refine (refCopyCh_any ac ar sq (.slice a1 ds.length c1) kd nc nr pc pr fc fr nm vl ds _ (H1.out.below hHeld.1.2.2)).mono ?_
  rintro e w1 ⟨v3, rfl, ho3, hb⟩
  obtain ⟨a3, c3, e3⟩ := ho3.form
  subst e3
  have HIV : Hid (IsI w1 (.slice a3 ds.length c3) ds) := ho3.isI hlen
  clear ho3
  (try go_wp2_with fail)
  refine hK.out _ _ (⟨hHeld.1.step hb, hHeld.2.step hb⟩) (fun hHeld2 => ?_)
  clear hK K hHeld
  have hHeld := hHeld2
  clear hHeld2
  (try simp only [Act.put, List.setIfInBounds_toArray, List.set_cons_zero, List.set_cons_succ])
  refine wpAnyH_ready (rs := [11]) (by kernel_rfl) (by simp) ?_
  refine AllReadyH.cons (o := ⟨some 16, _, _, _, _, _⟩) rfl (fun K hK => ?_) AllReadyH.nil
  go_simp
  refine (HSC.out _ _ _ (H1.out.below hHeld.1.2.2) HIV.out).mono ?_
  rintro e w' ⟨rfl, hb⟩
  (try go_wp2_with fail)
  refine hK.out _ _ (⟨hHeld.1.step hb, hHeld.2.step hb⟩) (fun hHeld2 => ?_)
  clear hK K hHeld
  have hHeld := hHeld2
  clear hHeld2
  (try simp only [Act.put, List.setIfInBounds_toArray, List.set_cons_zero, List.set_cons_succ])
  refine wpAnyH_take (i := 12) (oi := ⟨some 17, _, _, _, _, _⟩) (v := ?vs12) rfl (by kernel_rfl) (by kernel_rfl) (by kernel_rfl) (fun _ _ _ h => h) (Or.inl ⟨by rfl, ?hys12⟩) hHeld ?rests12
  case hys12 => (intro w hSw; (try dsimp only at hSw); have hc0 := hSw.1.1 0 _ rfl; have hd0 := hSw.2.1 0 _ rfl; have hc1 := hSw.1.1 1 _ rfl; have hd1 := hSw.2.1 1 _ rfl; have hc2 := hSw.1.1 2 _ rfl; have hd2 := hSw.2.1 2 _ rfl; have hc3 := hSw.1.1 3 _ rfl; have hd3 := hSw.2.1 3 _ rfl; have hc4 := hSw.1.1 4 _ rfl; have hd4 := hSw.2.1 4 _ rfl; have hc5 := hSw.1.1 5 _ rfl; have hd5 := hSw.2.1 5 _ rfl; have hc6 := hSw.1.1 6 _ rfl; have hd6 := hSw.2.1 6 _ rfl; have hc7 := hSw.1.1 7 _ rfl; have hd7 := hSw.2.1 7 _ rfl; have hc8 := hSw.1.1 8 _ rfl; have hd8 := hSw.2.1 8 _ rfl; have hc9 := hSw.1.1 9 _ rfl; have hd9 := hSw.2.1 9 _ rfl; have hc10 := hSw.1.1 10 _ rfl; have hd10 := hSw.2.1 10 _ rfl; have hc11 := hSw.1.1 11 _ rfl; have hd11 := hSw.2.1 11 _ rfl; have hc12 := hSw.1.1 12 _ rfl; have hd12 := hSw.2.1 12 _ rfl; go_simp; try with_reducible rfl)
  simp only [Act.put, List.setIfInBounds_toArray, List.set_cons_zero, List.set_cons_succ]
  refine wpAnyH_take (i := 13) (oi := ⟨some 18, _, _, _, _, _⟩) (v := ?vs13) rfl (by kernel_rfl) (by kernel_rfl) (by kernel_rfl) (fun _ _ _ h => h) (Or.inl ⟨by rfl, ?hys13⟩) hHeld ?rests13
  case hys13 => (intro w hSw; (try dsimp only at hSw); have hc0 := hSw.1.1 0 _ rfl; have hd0 := hSw.2.1 0 _ rfl; have hc1 := hSw.1.1 1 _ rfl; have hd1 := hSw.2.1 1 _ rfl; have hc2 := hSw.1.1 2 _ rfl; have hd2 := hSw.2.1 2 _ rfl; have hc3 := hSw.1.1 3 _ rfl; have hd3 := hSw.2.1 3 _ rfl; have hc4 := hSw.1.1 4 _ rfl; have hd4 := hSw.2.1 4 _ rfl; have hc5 := hSw.1.1 5 _ rfl; have hd5 := hSw.2.1 5 _ rfl; have hc6 := hSw.1.1 6 _ rfl; have hd6 := hSw.2.1 6 _ rfl; have hc7 := hSw.1.1 7 _ rfl; have hd7 := hSw.2.1 7 _ rfl; have hc8 := hSw.1.1 8 _ rfl; have hd8 := hSw.2.1 8 _ rfl; have hc9 := hSw.1.1 9 _ rfl; have hd9 := hSw.2.1 9 _ rfl; have hc10 := hSw.1.1 10 _ rfl; have hd10 := hSw.2.1 10 _ rfl; have hc11 := hSw.1.1 11 _ rfl; have hd11 := hSw.2.1 11 _ rfl; have hc12 := hSw.1.1 12 _ rfl; have hd12 := hSw.2.1 12 _ rfl; go_simp; try with_reducible rfl)
  simp only [Act.put, List.setIfInBounds_toArray, List.set_cons_zero, List.set_cons_succ]
  refine wpAnyH_take (i := 14) (oi := ⟨some 19, _, _, _, _, _⟩) (v := ?vs14) rfl (by kernel_rfl) (by kernel_rfl) (by kernel_rfl) (fun _ _ _ h => h) (Or.inl ⟨by rfl, ?hys14⟩) hHeld ?rests14
  case hys14 => (intro w hSw; (try dsimp only at hSw); have hc0 := hSw.1.1 0 _ rfl; have hd0 := hSw.2.1 0 _ rfl; have hc1 := hSw.1.1 1 _ rfl; have hd1 := hSw.2.1 1 _ rfl; have hc2 := hSw.1.1 2 _ rfl; have hd2 := hSw.2.1 2 _ rfl; have hc3 := hSw.1.1 3 _ rfl; have hd3 := hSw.2.1 3 _ rfl; have hc4 := hSw.1.1 4 _ rfl; have hd4 := hSw.2.1 4 _ rfl; have hc5 := hSw.1.1 5 _ rfl; have hd5 := hSw.2.1 5 _ rfl; have hc6 := hSw.1.1 6 _ rfl; have hd6 := hSw.2.1 6 _ rfl; have hc7 := hSw.1.1 7 _ rfl; have hd7 := hSw.2.1 7 _ rfl; have hc8 := hSw.1.1 8 _ rfl; have hd8 := hSw.2.1 8 _ rfl; have hc9 := hSw.1.1 9 _ rfl; have hd9 := hSw.2.1 9 _ rfl; have hc10 := hSw.1.1 10 _ rfl; have hd10 := hSw.2.1 10 _ rfl; have hc11 := hSw.1.1 11 _ rfl; have hd11 := hSw.2.1 11 _ rfl; have hc12 := hSw.1.1 12 _ rfl; have hd12 := hSw.2.1 12 _ rfl; go_simp; try with_reducible rfl)
  simp only [Act.put, List.setIfInBounds_toArray, List.set_cons_zero, List.set_cons_succ]
  refine wpAnyH_take (i := 15) (oi := ⟨some 20, _, _, _, _, _⟩) (v := ?vs15) rfl (by kernel_rfl) (by kernel_rfl) (by kernel_rfl) (fun _ _ _ h => h) (Or.inl ⟨by rfl, ?hys15⟩) hHeld ?rests15
  case hys15 => (intro w hSw; (try dsimp only at hSw); have hc0 := hSw.1.1 0 _ rfl; have hd0 := hSw.2.1 0 _ rfl; have hc1 := hSw.1.1 1 _ rfl; have hd1 := hSw.2.1 1 _ rfl; have hc2 := hSw.1.1 2 _ rfl; have hd2 := hSw.2.1 2 _ rfl; have hc3 := hSw.1.1 3 _ rfl; have hd3 := hSw.2.1 3 _ rfl; have hc4 := hSw.1.1 4 _ rfl; have hd4 := hSw.2.1 4 _ rfl; have hc5 := hSw.1.1 5 _ rfl; have hd5 := hSw.2.1 5 _ rfl; have hc6 := hSw.1.1 6 _ rfl; have hd6 := hSw.2.1 6 _ rfl; have hc7 := hSw.1.1 7 _ rfl; have hd7 := hSw.2.1 7 _ rfl; have hc8 := hSw.1.1 8 _ rfl; have hd8 := hSw.2.1 8 _ rfl; have hc9 := hSw.1.1 9 _ rfl; have hd9 := hSw.2.1 9 _ rfl; have hc10 := hSw.1.1 10 _ rfl; have hd10 := hSw.2.1 10 _ rfl; have hc11 := hSw.1.1 11 _ rfl; have hd11 := hSw.2.1 11 _ rfl; have hc12 := hSw.1.1 12 _ rfl; have hd12 := hSw.2.1 12 _ rfl; go_simp; try with_reducible rfl)
  simp only [Act.put, List.setIfInBounds_toArray, List.set_cons_zero, List.set_cons_succ]
  refine wpAnyH_take (i := 17) (oi := ⟨some 22, _, _, _, _, _⟩) (v := ?vs17) rfl (by kernel_rfl) (by kernel_rfl) (by kernel_rfl) (fun _ _ _ h => h) (Or.inl ⟨by rfl, ?hys17⟩) hHeld ?rests17
  case hys17 => (intro w hSw; (try dsimp only at hSw); have hc0 := hSw.1.1 0 _ rfl; have hd0 := hSw.2.1 0 _ rfl; have hc1 := hSw.1.1 1 _ rfl; have hd1 := hSw.2.1 1 _ rfl; have hc2 := hSw.1.1 2 _ rfl; have hd2 := hSw.2.1 2 _ rfl; have hc3 := hSw.1.1 3 _ rfl; have hd3 := hSw.2.1 3 _ rfl; have hc4 := hSw.1.1 4 _ rfl; have hd4 := hSw.2.1 4 _ rfl; have hc5 := hSw.1.1 5 _ rfl; have hd5 := hSw.2.1 5 _ rfl; have hc6 := hSw.1.1 6 _ rfl; have hd6 := hSw.2.1 6 _ rfl; have hc7 := hSw.1.1 7 _ rfl; have hd7 := hSw.2.1 7 _ rfl; have hc8 := hSw.1.1 8 _ rfl; have hd8 := hSw.2.1 8 _ rfl; have hc9 := hSw.1.1 9 _ rfl; have hd9 := hSw.2.1 9 _ rfl; have hc10 := hSw.1.1 10 _ rfl; have hd10 := hSw.2.1 10 _ rfl; have hc11 := hSw.1.1 11 _ rfl; have hd11 := hSw.2.1 11 _ rfl; have hc12 := hSw.1.1 12 _ rfl; have hd12 := hSw.2.1 12 _ rfl; go_simp; try with_reducible rfl)
  simp only [Act.put, List.setIfInBounds_toArray, List.set_cons_zero, List.set_cons_succ]
  refine wpAnyH_take (i := 18) (oi := ⟨some 23, _, _, _, _, _⟩) (v := ?vs18) rfl (by kernel_rfl) (by kernel_rfl) (by kernel_rfl) (fun _ _ _ h => h) (Or.inl ⟨by rfl, ?hys18⟩) hHeld ?rests18
  case hys18 => (intro w hSw; (try dsimp only at hSw); have hc0 := hSw.1.1 0 _ rfl; have hd0 := hSw.2.1 0 _ rfl; have hc1 := hSw.1.1 1 _ rfl; have hd1 := hSw.2.1 1 _ rfl; have hc2 := hSw.1.1 2 _ rfl; have hd2 := hSw.2.1 2 _ rfl; have hc3 := hSw.1.1 3 _ rfl; have hd3 := hSw.2.1 3 _ rfl; have hc4 := hSw.1.1 4 _ rfl; have hd4 := hSw.2.1 4 _ rfl; have hc5 := hSw.1.1 5 _ rfl; have hd5 := hSw.2.1 5 _ rfl; have hc6 := hSw.1.1 6 _ rfl; have hd6 := hSw.2.1 6 _ rfl; have hc7 := hSw.1.1 7 _ rfl; have hd7 := hSw.2.1 7 _ rfl; have hc8 := hSw.1.1 8 _ rfl; have hd8 := hSw.2.1 8 _ rfl; have hc9 := hSw.1.1 9 _ rfl; have hd9 := hSw.2.1 9 _ rfl; have hc10 := hSw.1.1 10 _ rfl; have hd10 := hSw.2.1 10 _ rfl; have hc11 := hSw.1.1 11 _ rfl; have hd11 := hSw.2.1 11 _ rfl; have hc12 := hSw.1.1 12 _ rfl; have hd12 := hSw.2.1 12 _ rfl; go_simp; try with_reducible rfl)
  simp only [Act.put, List.setIfInBounds_toArray, List.set_cons_zero, List.set_cons_succ]
  refine wpAnyH_take (i := 19) (oi := ⟨some 24, _, _, _, _, _⟩) (v := ?vs19) rfl (by kernel_rfl) (by kernel_rfl) (by kernel_rfl) (fun _ _ _ h => h) (Or.inl ⟨by rfl, ?hys19⟩) hHeld ?rests19
  case hys19 => (intro w hSw; (try dsimp only at hSw); have hc0 := hSw.1.1 0 _ rfl; have hd0 := hSw.2.1 0 _ rfl; have hc1 := hSw.1.1 1 _ rfl; have hd1 := hSw.2.1 1 _ rfl; have hc2 := hSw.1.1 2 _ rfl; have hd2 := hSw.2.1 2 _ rfl; have hc3 := hSw.1.1 3 _ rfl; have hd3 := hSw.2.1 3 _ rfl; have hc4 := hSw.1.1 4 _ rfl; have hd4 := hSw.2.1 4 _ rfl; have hc5 := hSw.1.1 5 _ rfl; have hd5 := hSw.2.1 5 _ rfl; have hc6 := hSw.1.1 6 _ rfl; have hd6 := hSw.2.1 6 _ rfl; have hc7 := hSw.1.1 7 _ rfl; have hd7 := hSw.2.1 7 _ rfl; have hc8 := hSw.1.1 8 _ rfl; have hd8 := hSw.2.1 8 _ rfl; have hc9 := hSw.1.1 9 _ rfl; have hd9 := hSw.2.1 9 _ rfl; have hc10 := hSw.1.1 10 _ rfl; have hd10 := hSw.2.1 10 _ rfl; have hc11 := hSw.1.1 11 _ rfl; have hd11 := hSw.2.1 11 _ rfl; have hc12 := hSw.1.1 12 _ rfl; have hd12 := hSw.2.1 12 _ rfl; go_simp; try with_reducible rfl)
  simp only [Act.put, List.setIfInBounds_toArray, List.set_cons_zero, List.set_cons_succ]
  refine wpAnyH_take (i := 20) (oi := ⟨some 25, _, _, _, _, _⟩) (v := ?vs20) rfl (by kernel_rfl) (by kernel_rfl) (by kernel_rfl) (fun _ _ _ h => h) (Or.inl ⟨by rfl, ?hys20⟩) hHeld ?rests20
  case hys20 => (intro w hSw; (try dsimp only at hSw); have hc0 := hSw.1.1 0 _ rfl; have hd0 := hSw.2.1 0 _ rfl; have hc1 := hSw.1.1 1 _ rfl; have hd1 := hSw.2.1 1 _ rfl; have hc2 := hSw.1.1 2 _ rfl; have hd2 := hSw.2.1 2 _ rfl; have hc3 := hSw.1.1 3 _ rfl; have hd3 := hSw.2.1 3 _ rfl; have hc4 := hSw.1.1 4 _ rfl; have hd4 := hSw.2.1 4 _ rfl; have hc5 := hSw.1.1 5 _ rfl; have hd5 := hSw.2.1 5 _ rfl; have hc6 := hSw.1.1 6 _ rfl; have hd6 := hSw.2.1 6 _ rfl; have hc7 := hSw.1.1 7 _ rfl; have hd7 := hSw.2.1 7 _ rfl; have hc8 := hSw.1.1 8 _ rfl; have hd8 := hSw.2.1 8 _ rfl; have hc9 := hSw.1.1 9 _ rfl; have hd9 := hSw.2.1 9 _ rfl; have hc10 := hSw.1.1 10 _ rfl; have hd10 := hSw.2.1 10 _ rfl; have hc11 := hSw.1.1 11 _ rfl; have hd11 := hSw.2.1 11 _ rfl; have hc12 := hSw.1.1 12 _ rfl; have hd12 := hSw.2.1 12 _ rfl; go_simp; try with_reducible rfl)
  simp only [Act.put, List.setIfInBounds_toArray, List.set_cons_zero, List.set_cons_succ]
  refine wpAnyH_ready (rs := [16]) (by kernel_rfl) (by simp) ?_
  refine AllReadyH.cons (o := ⟨some 21, _, _, _, _, _⟩) rfl (fun K hK => ?_) AllReadyH.nil
  go_simp
  refine (HLS.out _).mono ?_
  rintro e w' ⟨rfl, hb⟩
  (try go_wp2_with fail)
  refine hK.out _ _ (⟨hHeld.1.step hb, hHeld.2.step hb⟩) (fun hHeld2 => ?_)
  clear hK K hHeld
  have hHeld := hHeld2
  clear hHeld2
  (try simp only [Act.put, List.setIfInBounds_toArray, List.set_cons_zero, List.set_cons_succ])
  refine wpAnyH_ready (rs := [21]) (by kernel_rfl) (by simp) ?_
  refine AllReadyH.cons (o := ⟨some 26, _, _, _, _, _⟩) rfl (fun K hK => ?_) AllReadyH.nil
  go_simp
  refine (HRL.out _).mono ?_
  rintro e w' ⟨rfl, hb⟩
  (try go_wp2_with fail)
  refine hK.out _ _ (⟨hHeld.1.step hb, hHeld.2.step hb⟩) (fun hHeld2 => ?_)
  clear hK K hHeld
  have hHeld := hHeld2
  clear hHeld2
  (try simp only [Act.put, List.setIfInBounds_toArray, List.set_cons_zero, List.set_cons_succ])
  refine wpAnyH_take (i := 22) (oi := ⟨some 27, _, _, _, _, _⟩) (v := ?vs22) rfl (by kernel_rfl) (by kernel_rfl) (by kernel_rfl) (fun _ _ _ h => h) (Or.inl ⟨by rfl, ?hys22⟩) hHeld ?rests22
  case hys22 => (intro w hSw; (try dsimp only at hSw); have hc0 := hSw.1.1 0 _ rfl; have hd0 := hSw.2.1 0 _ rfl; have hc1 := hSw.1.1 1 _ rfl; have hd1 := hSw.2.1 1 _ rfl; have hc2 := hSw.1.1 2 _ rfl; have hd2 := hSw.2.1 2 _ rfl; have hc3 := hSw.1.1 3 _ rfl; have hd3 := hSw.2.1 3 _ rfl; have hc4 := hSw.1.1 4 _ rfl; have hd4 := hSw.2.1 4 _ rfl; have hc5 := hSw.1.1 5 _ rfl; have hd5 := hSw.2.1 5 _ rfl; have hc6 := hSw.1.1 6 _ rfl; have hd6 := hSw.2.1 6 _ rfl; have hc7 := hSw.1.1 7 _ rfl; have hd7 := hSw.2.1 7 _ rfl; have hc8 := hSw.1.1 8 _ rfl; have hd8 := hSw.2.1 8 _ rfl; have hc9 := hSw.1.1 9 _ rfl; have hd9 := hSw.2.1 9 _ rfl; have hc10 := hSw.1.1 10 _ rfl; have hd10 := hSw.2.1 10 _ rfl; have hc11 := hSw.1.1 11 _ rfl; have hd11 := hSw.2.1 11 _ rfl; have hc12 := hSw.1.1 12 _ rfl; have hd12 := hSw.2.1 12 _ rfl; go_simp; try with_reducible rfl)
  simp only [Act.put, List.setIfInBounds_toArray, List.set_cons_zero, List.set_cons_succ]
  refine wpAnyH_take (i := 23) (oi := ⟨some 28, _, _, _, _, _⟩) (v := ?vs23) rfl (by kernel_rfl) (by kernel_rfl) (by kernel_rfl) (fun _ _ _ h => h) (Or.inl ⟨by rfl, ?hys23⟩) hHeld ?rests23
  case hys23 => (intro w hSw; (try dsimp only at hSw); have hc0 := hSw.1.1 0 _ rfl; have hd0 := hSw.2.1 0 _ rfl; have hc1 := hSw.1.1 1 _ rfl; have hd1 := hSw.2.1 1 _ rfl; have hc2 := hSw.1.1 2 _ rfl; have hd2 := hSw.2.1 2 _ rfl; have hc3 := hSw.1.1 3 _ rfl; have hd3 := hSw.2.1 3 _ rfl; have hc4 := hSw.1.1 4 _ rfl; have hd4 := hSw.2.1 4 _ rfl; have hc5 := hSw.1.1 5 _ rfl; have hd5 := hSw.2.1 5 _ rfl; have hc6 := hSw.1.1 6 _ rfl; have hd6 := hSw.2.1 6 _ rfl; have hc7 := hSw.1.1 7 _ rfl; have hd7 := hSw.2.1 7 _ rfl; have hc8 := hSw.1.1 8 _ rfl; have hd8 := hSw.2.1 8 _ rfl; have hc9 := hSw.1.1 9 _ rfl; have hd9 := hSw.2.1 9 _ rfl; have hc10 := hSw.1.1 10 _ rfl; have hd10 := hSw.2.1 10 _ rfl; have hc11 := hSw.1.1 11 _ rfl; have hd11 := hSw.2.1 11 _ rfl; have hc12 := hSw.1.1 12 _ rfl; have hd12 := hSw.2.1 12 _ rfl; go_simp; try with_reducible rfl)
  simp only [Act.put, List.setIfInBounds_toArray, List.set_cons_zero, List.set_cons_succ]
  refine wpAnyH_take (i := 24) (oi := ⟨some 29, _, _, _, _, _⟩) (v := ?vs24) rfl (by kernel_rfl) (by kernel_rfl) (by kernel_rfl) (fun _ _ _ h => h) (Or.inl ⟨by rfl, ?hys24⟩) hHeld ?rests24
  case hys24 => (intro w hSw; (try dsimp only at hSw); have hc0 := hSw.1.1 0 _ rfl; have hd0 := hSw.2.1 0 _ rfl; have hc1 := hSw.1.1 1 _ rfl; have hd1 := hSw.2.1 1 _ rfl; have hc2 := hSw.1.1 2 _ rfl; have hd2 := hSw.2.1 2 _ rfl; have hc3 := hSw.1.1 3 _ rfl; have hd3 := hSw.2.1 3 _ rfl; have hc4 := hSw.1.1 4 _ rfl; have hd4 := hSw.2.1 4 _ rfl; have hc5 := hSw.1.1 5 _ rfl; have hd5 := hSw.2.1 5 _ rfl; have hc6 := hSw.1.1 6 _ rfl; have hd6 := hSw.2.1 6 _ rfl; have hc7 := hSw.1.1 7 _ rfl; have hd7 := hSw.2.1 7 _ rfl; have hc8 := hSw.1.1 8 _ rfl; have hd8 := hSw.2.1 8 _ rfl; have hc9 := hSw.1.1 9 _ rfl; have hd9 := hSw.2.1 9 _ rfl; have hc10 := hSw.1.1 10 _ rfl; have hd10 := hSw.2.1 10 _ rfl; have hc11 := hSw.1.1 11 _ rfl; have hd11 := hSw.2.1 11 _ rfl; have hc12 := hSw.1.1 12 _ rfl; have hd12 := hSw.2.1 12 _ rfl; go_simp; try with_reducible rfl)
  simp only [Act.put, List.setIfInBounds_toArray, List.set_cons_zero, List.set_cons_succ]
  refine wpAnyH_take (i := 25) (oi := ⟨some 30, _, _, _, _, _⟩) (v := ?vs25) rfl (by kernel_rfl) (by kernel_rfl) (by kernel_rfl) (fun _ _ _ h => h) (Or.inl ⟨by rfl, ?hys25⟩) hHeld ?rests25
  case hys25 => (intro w hSw; (try dsimp only at hSw); have hc0 := hSw.1.1 0 _ rfl; have hd0 := hSw.2.1 0 _ rfl; have hc1 := hSw.1.1 1 _ rfl; have hd1 := hSw.2.1 1 _ rfl; have hc2 := hSw.1.1 2 _ rfl; have hd2 := hSw.2.1 2 _ rfl; have hc3 := hSw.1.1 3 _ rfl; have hd3 := hSw.2.1 3 _ rfl; have hc4 := hSw.1.1 4 _ rfl; have hd4 := hSw.2.1 4 _ rfl; have hc5 := hSw.1.1 5 _ rfl; have hd5 := hSw.2.1 5 _ rfl; have hc6 := hSw.1.1 6 _ rfl; have hd6 := hSw.2.1 6 _ rfl; have hc7 := hSw.1.1 7 _ rfl; have hd7 := hSw.2.1 7 _ rfl; have hc8 := hSw.1.1 8 _ rfl; have hd8 := hSw.2.1 8 _ rfl; have hc9 := hSw.1.1 9 _ rfl; have hd9 := hSw.2.1 9 _ rfl; have hc10 := hSw.1.1 10 _ rfl; have hd10 := hSw.2.1 10 _ rfl; have hc11 := hSw.1.1 11 _ rfl; have hd11 := hSw.2.1 11 _ rfl; have hc12 := hSw.1.1 12 _ rfl; have hd12 := hSw.2.1 12 _ rfl; go_simp; try with_reducible rfl)
  simp only [Act.put, List.setIfInBounds_toArray, List.set_cons_zero, List.set_cons_succ]
  refine wpAnyH_take (i := 27) (oi := ⟨some 32, _, _, _, _, _⟩) (v := ?vs27) rfl (by kernel_rfl) (by kernel_rfl) (by kernel_rfl) (fun _ _ _ h => h) (Or.inl ⟨by rfl, ?hys27⟩) hHeld ?rests27
  case hys27 => (intro w hSw; (try dsimp only at hSw); have hc0 := hSw.1.1 0 _ rfl; have hd0 := hSw.2.1 0 _ rfl; have hc1 := hSw.1.1 1 _ rfl; have hd1 := hSw.2.1 1 _ rfl; have hc2 := hSw.1.1 2 _ rfl; have hd2 := hSw.2.1 2 _ rfl; have hc3 := hSw.1.1 3 _ rfl; have hd3 := hSw.2.1 3 _ rfl; have hc4 := hSw.1.1 4 _ rfl; have hd4 := hSw.2.1 4 _ rfl; have hc5 := hSw.1.1 5 _ rfl; have hd5 := hSw.2.1 5 _ rfl; have hc6 := hSw.1.1 6 _ rfl; have hd6 := hSw.2.1 6 _ rfl; have hc7 := hSw.1.1 7 _ rfl; have hd7 := hSw.2.1 7 _ rfl; have hc8 := hSw.1.1 8 _ rfl; have hd8 := hSw.2.1 8 _ rfl; have hc9 := hSw.1.1 9 _ rfl; have hd9 := hSw.2.1 9 _ rfl; have hc10 := hSw.1.1 10 _ rfl; have hd10 := hSw.2.1 10 _ rfl; have hc11 := hSw.1.1 11 _ rfl; have hd11 := hSw.2.1 11 _ rfl; have hc12 := hSw.1.1 12 _ rfl; have hd12 := hSw.2.1 12 _ rfl; go_simp; try with_reducible rfl)
  simp only [Act.put, List.setIfInBounds_toArray, List.set_cons_zero, List.set_cons_succ]
  refine wpAnyH_ready (rs := [26]) (by kernel_rfl) (by simp) ?_
  refine AllReadyH.cons (o := ⟨some 31, _, _, _, _, _⟩) rfl (fun K hK => ?_) AllReadyH.nil
  go_simp
  refine (HNA.out _).mono ?_
  rintro e w5 ⟨v5, rfl, ho5, hb⟩
  obtain ⟨a5, c5, e5⟩ := ho5.form
  subst e5
  have IS1 : Hid (S.IsS w5 (.slice a5 NL.length c5) NL) := ho5.isS (by omega)
  clear ho5
  (try go_wp2_with fail)
  refine hK.out _ _ (⟨hHeld.1.step hb, hHeld.2.step hb⟩) (fun hHeld2 => ?_)
  clear hK K hHeld
  have hHeld := hHeld2
  clear hHeld2
  (try simp only [Act.put, List.setIfInBounds_toArray, List.set_cons_zero, List.set_cons_succ])
  refine wpAnyH_ready (rs := [28]) (by kernel_rfl) (by simp) ?_
  refine AllReadyH.cons (o := ⟨some 33, _, _, _, _, _⟩) rfl (fun K hK => ?_) AllReadyH.nil
  go_simp
  refine (HNB.out _).mono ?_
  rintro e w6 ⟨v6, rfl, hi6, hb⟩
  obtain ⟨a6, c6, e6⟩ := hi6.form
  subst e6
  have IS2 : Hid (S.IsS w6 (.slice a6 NL.length c6) NL) := hi6
  have IS1b : Hid (S.IsS w6 (.slice a5 NL.length c5) NL) := IS1.out.below hb
  clear hi6
  (try go_wp2_with fail)
  refine hK.out _ _ (⟨hHeld.1.step hb, hHeld.2.step hb⟩) (fun hHeld2 => ?_)
  clear hK K hHeld
  have hHeld := hHeld2
  clear hHeld2
  (try simp only [Act.put, List.setIfInBounds_toArray, List.set_cons_zero, List.set_cons_succ])
  refine wpAnyH_ready (rs := [29]) (by kernel_rfl) (by simp) ?_
  refine AllReadyH.cons (o := ⟨some 34, _, _, _, _, _⟩) rfl (fun K hK => ?_) AllReadyH.nil
  go_simp
  refine (S.same_any _ _ NL NL _ IS1b.out IS2.out).mono ?_
  rintro e w7 ⟨rfl, hb⟩
  have dN : decide (NL = NL) = true := by simp
  rw [dN]
  (try go_wp2_with fail)
  refine hK.out _ _ (⟨hHeld.1.step hb, hHeld.2.step hb⟩) (fun hHeld2 => ?_)
  clear hK K hHeld
  have hHeld := hHeld2
  clear hHeld2
  (try simp only [Act.put, List.setIfInBounds_toArray, List.set_cons_zero, List.set_cons_succ])
  refine wpAnyH_take (i := 30) (oi := ⟨some 35, _, _, _, _, _⟩) (v := ?vs30) rfl (by kernel_rfl) (by kernel_rfl) (by kernel_rfl) (fun _ _ _ h => h) (Or.inl ⟨by rfl, ?hys30⟩) hHeld ?rests30
  case hys30 => (intro w hSw; (try dsimp only at hSw); have hc0 := hSw.1.1 0 _ rfl; have hd0 := hSw.2.1 0 _ rfl; have hc1 := hSw.1.1 1 _ rfl; have hd1 := hSw.2.1 1 _ rfl; have hc2 := hSw.1.1 2 _ rfl; have hd2 := hSw.2.1 2 _ rfl; have hc3 := hSw.1.1 3 _ rfl; have hd3 := hSw.2.1 3 _ rfl; have hc4 := hSw.1.1 4 _ rfl; have hd4 := hSw.2.1 4 _ rfl; have hc5 := hSw.1.1 5 _ rfl; have hd5 := hSw.2.1 5 _ rfl; have hc6 := hSw.1.1 6 _ rfl; have hd6 := hSw.2.1 6 _ rfl; have hc7 := hSw.1.1 7 _ rfl; have hd7 := hSw.2.1 7 _ rfl; have hc8 := hSw.1.1 8 _ rfl; have hd8 := hSw.2.1 8 _ rfl; have hc9 := hSw.1.1 9 _ rfl; have hd9 := hSw.2.1 9 _ rfl; have hc10 := hSw.1.1 10 _ rfl; have hd10 := hSw.2.1 10 _ rfl; have hc11 := hSw.1.1 11 _ rfl; have hd11 := hSw.2.1 11 _ rfl; have hc12 := hSw.1.1 12 _ rfl; have hd12 := hSw.2.1 12 _ rfl; go_simp; try with_reducible rfl)
  simp only [Act.put, List.setIfInBounds_toArray, List.set_cons_zero, List.set_cons_succ]
  refine wpAnyH_take (i := 31) (oi := ⟨some 36, _, _, _, _, _⟩) (v := ?vs31) rfl (by kernel_rfl) (by kernel_rfl) (by kernel_rfl) (fun _ _ _ h => h) (Or.inl ⟨by rfl, ?hys31⟩) hHeld ?rests31
  case hys31 => (intro w hSw; (try dsimp only at hSw); have hc0 := hSw.1.1 0 _ rfl; have hd0 := hSw.2.1 0 _ rfl; have hc1 := hSw.1.1 1 _ rfl; have hd1 := hSw.2.1 1 _ rfl; have hc2 := hSw.1.1 2 _ rfl; have hd2 := hSw.2.1 2 _ rfl; have hc3 := hSw.1.1 3 _ rfl; have hd3 := hSw.2.1 3 _ rfl; have hc4 := hSw.1.1 4 _ rfl; have hd4 := hSw.2.1 4 _ rfl; have hc5 := hSw.1.1 5 _ rfl; have hd5 := hSw.2.1 5 _ rfl; have hc6 := hSw.1.1 6 _ rfl; have hd6 := hSw.2.1 6 _ rfl; have hc7 := hSw.1.1 7 _ rfl; have hd7 := hSw.2.1 7 _ rfl; have hc8 := hSw.1.1 8 _ rfl; have hd8 := hSw.2.1 8 _ rfl; have hc9 := hSw.1.1 9 _ rfl; have hd9 := hSw.2.1 9 _ rfl; have hc10 := hSw.1.1 10 _ rfl; have hd10 := hSw.2.1 10 _ rfl; have hc11 := hSw.1.1 11 _ rfl; have hd11 := hSw.2.1 11 _ rfl; have hc12 := hSw.1.1 12 _ rfl; have hd12 := hSw.2.1 12 _ rfl; go_simp; try with_reducible rfl)
  simp only [Act.put, List.setIfInBounds_toArray, List.set_cons_zero, List.set_cons_succ]
  refine wpAnyH_ready (rs := [32]) (by kernel_rfl) (by simp) ?_
  refine AllReadyH.cons (o := ⟨some 37, _, _, _, _, _⟩) rfl (fun K hK => ?_) AllReadyH.nil
  go_simp
  refine (awake5_any _ (HEnv.out.below hHeld.1.2.2)).mono ?_
  rintro e w8 ⟨rfl, hb⟩
  (try go_wp2_with fail)
  refine hK.out _ _ (⟨hHeld.1.step hb, hHeld.2.step hb⟩) (fun hHeld2 => ?_)
  clear hK K hHeld
  have hHeld := hHeld2
  clear hHeld2
  (try simp only [Act.put, List.setIfInBounds_toArray, List.set_cons_zero, List.set_cons_succ])
  refine wpAnyH_take (i := 33) (oi := ⟨some 38, _, _, _, _, _⟩) (v := ?vs33) rfl (by kernel_rfl) (by kernel_rfl) (by kernel_rfl) (fun _ _ _ h => h) (Or.inl ⟨by rfl, ?hys33⟩) hHeld ?rests33
  case hys33 => (intro w hSw; (try dsimp only at hSw); have hc0 := hSw.1.1 0 _ rfl; have hd0 := hSw.2.1 0 _ rfl; have hc1 := hSw.1.1 1 _ rfl; have hd1 := hSw.2.1 1 _ rfl; have hc2 := hSw.1.1 2 _ rfl; have hd2 := hSw.2.1 2 _ rfl; have hc3 := hSw.1.1 3 _ rfl; have hd3 := hSw.2.1 3 _ rfl; have hc4 := hSw.1.1 4 _ rfl; have hd4 := hSw.2.1 4 _ rfl; have hc5 := hSw.1.1 5 _ rfl; have hd5 := hSw.2.1 5 _ rfl; have hc6 := hSw.1.1 6 _ rfl; have hd6 := hSw.2.1 6 _ rfl; have hc7 := hSw.1.1 7 _ rfl; have hd7 := hSw.2.1 7 _ rfl; have hc8 := hSw.1.1 8 _ rfl; have hd8 := hSw.2.1 8 _ rfl; have hc9 := hSw.1.1 9 _ rfl; have hd9 := hSw.2.1 9 _ rfl; have hc10 := hSw.1.1 10 _ rfl; have hd10 := hSw.2.1 10 _ rfl; have hc11 := hSw.1.1 11 _ rfl; have hd11 := hSw.2.1 11 _ rfl; have hc12 := hSw.1.1 12 _ rfl; have hd12 := hSw.2.1 12 _ rfl; go_simp; try with_reducible rfl)
  simp only [Act.put, List.setIfInBounds_toArray, List.set_cons_zero, List.set_cons_succ]
  refine wpAnyH_take (i := 34) (oi := ⟨some 4, _, _, _, _, _⟩) (v := ?vs34) rfl (by kernel_rfl) (by kernel_rfl) (by kernel_rfl) (fun _ _ _ h => h) (Or.inl ⟨by rfl, ?hys34⟩) hHeld ?rests34
  case hys34 => (intro w hSw; (try dsimp only at hSw); have hc0 := hSw.1.1 0 _ rfl; have hd0 := hSw.2.1 0 _ rfl; have hc1 := hSw.1.1 1 _ rfl; have hd1 := hSw.2.1 1 _ rfl; have hc2 := hSw.1.1 2 _ rfl; have hd2 := hSw.2.1 2 _ rfl; have hc3 := hSw.1.1 3 _ rfl; have hd3 := hSw.2.1 3 _ rfl; have hc4 := hSw.1.1 4 _ rfl; have hd4 := hSw.2.1 4 _ rfl; have hc5 := hSw.1.1 5 _ rfl; have hd5 := hSw.2.1 5 _ rfl; have hc6 := hSw.1.1 6 _ rfl; have hd6 := hSw.2.1 6 _ rfl; have hc7 := hSw.1.1 7 _ rfl; have hd7 := hSw.2.1 7 _ rfl; have hc8 := hSw.1.1 8 _ rfl; have hd8 := hSw.2.1 8 _ rfl; have hc9 := hSw.1.1 9 _ rfl; have hd9 := hSw.2.1 9 _ rfl; have hc10 := hSw.1.1 10 _ rfl; have hd10 := hSw.2.1 10 _ rfl; have hc11 := hSw.1.1 11 _ rfl; have hd11 := hSw.2.1 11 _ rfl; have hc12 := hSw.1.1 12 _ rfl; have hd12 := hSw.2.1 12 _ rfl; go_simp; try with_reducible rfl)
  simp only [Act.put, List.setIfInBounds_toArray, List.set_cons_zero, List.set_cons_succ]
  refine wpAnyH_done (by kernel_rfl) ?_ _
  have bz := hHeld.1.2.2
  clear hHeld
  go_wp2
  go_ret
  exact ⟨rfl, bz⟩

end Go.Proofs.YtaocjmipjibiaaaGreatDoor
