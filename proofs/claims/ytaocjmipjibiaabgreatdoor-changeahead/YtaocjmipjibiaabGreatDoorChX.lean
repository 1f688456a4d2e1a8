/- What Text makes of any change. -/
import Derived.Test.YtaocjmipjibiaabGreatDoorChT
namespace Go.Proofs.YtaocjmipjibiaabGreatDoor
open Go.RowKit
set_option linter.unusedVariables false
set_option linter.unusedSimpArgs false

set_option maxRecDepth 100000 in
set_option maxHeartbeats 8000000 in
theorem textCh_ok (ac ar sq : Int) (dv : Value) (kd nc nr pc pr fc fr : Int) (nm vl : ByteArray) (ds : List Int) (hs : nm.size ≤ 281474976710656) (w : World) (h1 : IsI w dv ds) (he : Env w) (hc : checkCh ⟨ac, ar, sq, ds, kd, nc, nr, pc, pr, fc, fr, nm, vl⟩ = 0) :
    Calls Tryz.prog 5 #[.agg #[.int .i64 ac, .int .i64 ar, .int .i64 sq, dv, .int .i64 kd, .int .i64 nc, .int .i64 nr, .int .i64 pc, .int .i64 pr, .int .i64 fc, .int .i64 fr, .string nm, .string vl]] w fun e w' => e = .returned (.tuple #[.string (txt (textCh ⟨ac, ar, sq, ds, kd, nc, nr, pc, pr, fc, fr, nm, vl⟩)), .int .i64 0]) ∧ Below w.heap.size w w' := by
  obtain ⟨i0, hi, hz0, hz1, hz2⟩ := info_parts infoStr
  have K0 := KeptC.start w #[.int .i64 ac, .int .i64 ar, .int .i64 sq, dv, .int .i64 kd, .int .i64 nc, .int .i64 nr, .int .i64 pc, .int .i64 pr, .int .i64 fc, .int .i64 fr, .string nm, .string vl].toList 26
  have H1 : Hid (IsI w dv ds) := h1
  have HEnv : Hid (Env w) := he
  have HL : Hid ((textCh ⟨ac, ar, sq, ds, kd, nc, nr, pc, pr, fc, fr, nm, vl⟩).length ≤ 4000) := textCh_len _ hc
  obtain ⟨c1, c2, c3, _, _, _, _, c8⟩ := checkCh_ok _ hc
  have hkd : kd = 1 ∨ kd = 2 ∨ kd = 3 ∨ kd = 4 ∨ kd = 5 := (fine _ hc).kind
  have hv : vl.size ≤ 256 := by unfold valueE at c8; split at c8 <;> (try split at c8) <;> first | omega | (simp at *; omega)
  have hsq : 1 ≤ sq ∧ sq ≤ 1099511627776 := by
    have h2 := c2
    unfold rightB at h2
    simp only [decide_eq_true_eq] at h2
    exact ⟨c3.1, by have := c3.2; simp at this; omega⟩
  obtain ⟨s1, s2⟩ := hsq
  clear h1 he c1 c2 c3 c8
  go_enter Tryz.func5, Tryz.ntmps5
  go_wp2_with fail
  refine (checkCh_any ac ar sq dv kd nc nr pc pr fc fr nm vl ds hs _ (H1.out.below K0.2.2)).mono ?_
  rintro e w1 ⟨rfl, hb1⟩
  rw [hc]
  have K1 := K0.step hb1
  clear hb1
  go_wp2_with fail
  refine wp_region_held_drew (S := fun W' => KeptC w w.heap.size #[.int .i64 ac, .int .i64 ar, .int .i64 sq, dv, .int .i64 kd, .int .i64 nc, .int .i64 nr, .int .i64 pc, .int .i64 pr, .int .i64 fc, .int .i64 fr, .string nm, .string vl].toList W') (by kernel_rfl) K1.drew (fun hHeld => ?_)
  refine wpAnyH_take (i := 0) (oi := ⟨some 12, _, _, _, _, _⟩) (v := ?va0) rfl (by kernel_rfl) (by kernel_rfl) (by kernel_rfl) (fun _ _ _ h => h) (Or.inl ⟨by rfl, ?hya0⟩) hHeld ?resta0
  case hya0 => (intro w hSw; (try dsimp only at hSw); have hc0 := hSw.1 0 _ rfl; have hc1 := hSw.1 1 _ rfl; have hc2 := hSw.1 2 _ rfl; have hc3 := hSw.1 3 _ rfl; have hc4 := hSw.1 4 _ rfl; go_simp; try with_reducible rfl)
  simp only [Act.put, List.setIfInBounds_toArray, List.set_cons_zero, List.set_cons_succ]
  refine wpAnyH_take (i := 1) (oi := ⟨some 13, _, _, _, _, _⟩) (v := ?va1) rfl (by kernel_rfl) (by kernel_rfl) (by kernel_rfl) (fun _ _ _ h => h) (Or.inl ⟨by rfl, ?hya1⟩) hHeld ?resta1
  case hya1 => (intro w hSw; (try dsimp only at hSw); have hc0 := hSw.1 0 _ rfl; have hc1 := hSw.1 1 _ rfl; have hc2 := hSw.1 2 _ rfl; have hc3 := hSw.1 3 _ rfl; have hc4 := hSw.1 4 _ rfl; go_simp; try with_reducible rfl)
  simp only [Act.put, List.setIfInBounds_toArray, List.set_cons_zero, List.set_cons_succ]
  refine wpAnyH_take (i := 3) (oi := ⟨some 15, _, _, _, _, _⟩) (v := ?va3) rfl (by kernel_rfl) (by kernel_rfl) (by kernel_rfl) (fun _ _ _ h => h) (Or.inl ⟨by rfl, ?hya3⟩) hHeld ?resta3
  case hya3 => (intro w hSw; (try dsimp only at hSw); have hc0 := hSw.1 0 _ rfl; have hc1 := hSw.1 1 _ rfl; have hc2 := hSw.1 2 _ rfl; have hc3 := hSw.1 3 _ rfl; have hc4 := hSw.1 4 _ rfl; go_simp; try with_reducible rfl)
  simp only [Act.put, List.setIfInBounds_toArray, List.set_cons_zero, List.set_cons_succ]
  refine wpAnyH_take (i := 4) (oi := ⟨some 16, _, _, _, _, _⟩) (v := ?va4) rfl (by kernel_rfl) (by kernel_rfl) (by kernel_rfl) (fun _ _ _ h => h) (Or.inl ⟨by rfl, ?hya4⟩) hHeld ?resta4
  case hya4 => (intro w hSw; (try dsimp only at hSw); have hc0 := hSw.1 0 _ rfl; have hc1 := hSw.1 1 _ rfl; have hc2 := hSw.1 2 _ rfl; have hc3 := hSw.1 3 _ rfl; have hc4 := hSw.1 4 _ rfl; go_simp; try with_reducible rfl)
  simp only [Act.put, List.setIfInBounds_toArray, List.set_cons_zero, List.set_cons_succ]
  refine wpAnyH_take (i := 6) (oi := ⟨some 18, _, _, _, _, _⟩) (v := ?va6) rfl (by kernel_rfl) (by kernel_rfl) (by kernel_rfl) (fun _ _ _ h => h) (Or.inl ⟨by rfl, ?hya6⟩) hHeld ?resta6
  case hya6 => (intro w hSw; (try dsimp only at hSw); have hc0 := hSw.1 0 _ rfl; have hc1 := hSw.1 1 _ rfl; have hc2 := hSw.1 2 _ rfl; have hc3 := hSw.1 3 _ rfl; have hc4 := hSw.1 4 _ rfl; go_simp; try with_reducible rfl)
  simp only [Act.put, List.setIfInBounds_toArray, List.set_cons_zero, List.set_cons_succ]
  refine wpAnyH_take (i := 7) (oi := ⟨some 19, _, _, _, _, _⟩) (v := ?va7) rfl (by kernel_rfl) (by kernel_rfl) (by kernel_rfl) (fun _ _ _ h => h) (Or.inl ⟨by rfl, ?hya7⟩) hHeld ?resta7
  case hya7 => (intro w hSw; (try dsimp only at hSw); have hc0 := hSw.1 0 _ rfl; have hc1 := hSw.1 1 _ rfl; have hc2 := hSw.1 2 _ rfl; have hc3 := hSw.1 3 _ rfl; have hc4 := hSw.1 4 _ rfl; go_simp; try with_reducible rfl)
  simp only [Act.put, List.setIfInBounds_toArray, List.set_cons_zero, List.set_cons_succ]
  refine wpAnyH_take (i := 9) (oi := ⟨some 21, _, _, _, _, _⟩) (v := ?va9) rfl (by kernel_rfl) (by kernel_rfl) (by kernel_rfl) (fun _ _ _ h => h) (Or.inl ⟨by rfl, ?hya9⟩) hHeld ?resta9
  case hya9 => (intro w hSw; (try dsimp only at hSw); have hc0 := hSw.1 0 _ rfl; have hc1 := hSw.1 1 _ rfl; have hc2 := hSw.1 2 _ rfl; have hc3 := hSw.1 3 _ rfl; have hc4 := hSw.1 4 _ rfl; go_simp; try with_reducible rfl)
  simp only [Act.put, List.setIfInBounds_toArray, List.set_cons_zero, List.set_cons_succ]
  refine wpAnyH_take (i := 10) (oi := ⟨some 22, _, _, _, _, _⟩) (v := ?va10) rfl (by kernel_rfl) (by kernel_rfl) (by kernel_rfl) (fun _ _ _ h => h) (Or.inl ⟨by rfl, ?hya10⟩) hHeld ?resta10
  case hya10 => (intro w hSw; (try dsimp only at hSw); have hc0 := hSw.1 0 _ rfl; have hc1 := hSw.1 1 _ rfl; have hc2 := hSw.1 2 _ rfl; have hc3 := hSw.1 3 _ rfl; have hc4 := hSw.1 4 _ rfl; go_simp; try with_reducible rfl)
  simp only [Act.put, List.setIfInBounds_toArray, List.set_cons_zero, List.set_cons_succ]
  refine wpAnyH_ready (rs := [2]) (by kernel_rfl) (by simp) ?_
  refine AllReadyH.cons (o := ⟨some 14, _, _, _, _, _⟩) rfl (fun K hK => ?_) AllReadyH.nil
  go_simp
  refine (kindText_any kd _).mono ?_
  rintro e w' ⟨rfl, hw⟩
  replace hw := hw.symm
  subst hw
  (try go_wp2_with fail)
  refine hK.out _ _ (hHeld) (fun hHeld2 => ?_)
  clear hK K hHeld
  have hHeld := hHeld2
  clear hHeld2
  (try simp only [Act.put, List.setIfInBounds_toArray, List.set_cons_zero, List.set_cons_succ])
  refine wpAnyH_ready (rs := [5]) (by kernel_rfl) (by simp) ?_
  refine AllReadyH.cons (o := ⟨some 17, _, _, _, _, _⟩) rfl (fun K hK => ?_) AllReadyH.nil
  go_simp
  refine (stampText_any ac ar _ (HEnv.out.below hHeld.2.2)).mono ?_
  rintro e w2 ⟨rfl, hb⟩
  (try go_wp2_with fail)
  refine hK.out _ _ (hHeld.step hb) (fun hHeld2 => ?_)
  clear hK K hHeld
  have hHeld := hHeld2
  clear hHeld2
  (try simp only [Act.put, List.setIfInBounds_toArray, List.set_cons_zero, List.set_cons_succ])
  refine wpAnyH_ready (rs := [8]) (by kernel_rfl) (by simp) ?_
  refine AllReadyH.cons (o := ⟨some 20, _, _, _, _, _⟩) rfl (fun K hK => ?_) AllReadyH.nil
  go_simp
  refine (itoa_any sq (by omega) (by omega) _ (HEnv.out.below hHeld.2.2)).mono ?_
  rintro e w3 ⟨rfl, hb⟩
  (try go_wp2_with fail)
  refine hK.out _ _ (hHeld.step hb) (fun hHeld2 => ?_)
  clear hK K hHeld
  have hHeld := hHeld2
  clear hHeld2
  (try simp only [Act.put, List.setIfInBounds_toArray, List.set_cons_zero, List.set_cons_succ])
  refine wpAnyH_ready (rs := [11]) (by kernel_rfl) (by simp) ?_
  refine AllReadyH.cons (o := ⟨some 23, _, _, _, _, _⟩) rfl (fun K hK => ?_) AllReadyH.nil
  go_simp
  refine (clockText_any dv ds _ (H1.out.below hHeld.2.2) (HEnv.out.below hHeld.2.2)).mono ?_
  rintro e w4 ⟨rfl, hb⟩
  (try go_wp2_with fail)
  refine hK.out _ _ (hHeld.step hb) (fun hHeld2 => ?_)
  clear hK K hHeld
  have hHeld := hHeld2
  clear hHeld2
  (try simp only [Act.put, List.setIfInBounds_toArray, List.set_cons_zero, List.set_cons_succ])
  refine wpAnyH_ready (rs := [12]) (by kernel_rfl) (by simp) ?_
  refine AllReadyH.cons (o := ⟨some 24, _, _, _, _, _⟩) rfl (fun K hK => ?_) AllReadyH.nil
  go_simp
  have hPrev := hHeld
  refine hK.out _ _ (hPrev.step ((Below.refl _ _).alloc (Nat.le_refl _) _)) (fun hHeld2 => ?_)
  clear hK K hHeld
  have hHeld := hHeld2
  clear hHeld2
  (try simp only [Act.put, List.setIfInBounds_toArray, List.set_cons_zero, List.set_cons_succ])
  refine wpAnyH_take (i := 13) (oi := ⟨some 5, _, _, _, _, _⟩) (v := ?va13) rfl (by kernel_rfl) (by kernel_rfl) (by kernel_rfl) (fun _ _ _ h => h) (Or.inl ⟨by rfl, ?hya13⟩) hHeld ?resta13
  case hya13 => (intro w hSw; (try dsimp only at hSw); have hc0 := hSw.1 0 _ rfl; have hc1 := hSw.1 1 _ rfl; have hc2 := hSw.1 2 _ rfl; have hc3 := hSw.1 3 _ rfl; have hc4 := hSw.1 4 _ rfl; go_simp; try with_reducible rfl)
  simp only [Act.put, List.setIfInBounds_toArray, List.set_cons_zero, List.set_cons_succ]
  refine wpAnyH_done (by kernel_rfl) ?_ _
  have HO4 : Hid (OwnW (w.heap.size + 1) (w4.alloc (.cells #[(Value.string (txt (kindL kd))), (Value.string (txt (textL ac ar))), (Value.string ⟨(Lib.itoa sq).toArray⟩), (Value.string (txt (textC ds)))] 9)) (.slice (some ⟨w4.heap.size, 0, none⟩) 4 4) 4 [txt (kindL kd), txt (textL ac ar), txt (Lib.itoa sq), txt (textC ds)]) := OwnW.made w4 [txt (kindL kd), txt (textL ac ar), txt (Lib.itoa sq), txt (textC ds)] 4 rfl (by omega) (Nat.succ_le_of_lt hPrev.2.1)
  have K4 := hHeld
  clear hHeld hPrev hb K1
  obtain ⟨W4, eW⟩ : ∃ W, W = w4.alloc (.cells #[(Value.string (txt (kindL kd))), (Value.string (txt (textL ac ar))), (Value.string ⟨(Lib.itoa sq).toArray⟩), (Value.string (txt (textC ds)))] 9) := ⟨_, rfl⟩
  rw [← eW] at HO4 K4 ⊢
  obtain ⟨g4, eg⟩ : ∃ g, g = w4.heap.size := ⟨_, rfl⟩
  have hg4 : g4 < W4.heap.size := by rw [eg, eW]; simp
  rw [← eg] at HO4 ⊢
  clear eW eg
  obtain ⟨k_0, k_1, k_2, k_3, k_4, k_5, k_6, k_7, k_8, k_9, k_10, k_11, k_12⟩ := K4.all
  go_wp2_with fail
  refine (fieldsOf_any kd _).mono ?_
  rintro e w5 ⟨rfl, hb5⟩
  have K5 := K4.step hb5
  have HO5 : Hid (OwnW (w.heap.size + 1) w5 (.slice (some ⟨g4, 0, none⟩) 4 4) 4 [txt (kindL kd), txt (textL ac ar), txt (Lib.itoa sq), txt (textC ds)]) := ownsRow_below HO4.out hb5
  have hg5 : g4 < w5.heap.size := Nat.lt_of_lt_of_le hg4 hb5.size
  clear k_0 k_1 k_2 k_3 k_4 k_5 k_6 k_7 k_8 k_9 k_10 k_11 k_12
  rcases hkd with rfl | rfl | rfl | rfl | rfl
  · rw [show hasNode 1 = false by decide, show hasPlace 1 = true by decide, show hasName 1 = true by decide, show hasValue 1 = false by decide]
    have ST0 : Hid (TxSt w [.int .i64 ac, .int .i64 ar, .int .i64 sq, dv, .int .i64 1, .int .i64 nc, .int .i64 nr, .int .i64 pc, .int .i64 pr, .int .i64 fc, .int .i64 fr, .string nm, .string vl] [.bool false, .bool true, .bool true, .bool false] w5.heap.size g4 4 4 [txt (kindL 1), txt (textL ac ar), txt (Lib.itoa sq), txt (textC ds)] (w5.alloc (.cells #[.bool false, .bool true, .bool true, .bool false] 45))) := ⟨K5.step ((Below.refl _ _).alloc (Nat.le_refl _) _), (KeptC.start w5 [.bool false, .bool true, .bool true, .bool false] _).1 |> fun a => ⟨a, by simp⟩, by omega, World.ownsRow.alloc HO5.out _⟩
    clear K5 HO5 hb5
    obtain ⟨k_0, k_1, k_2, k_3, k_4, k_5, k_6, k_7, k_8, k_9, k_10, k_11, k_12⟩ := ST0.out.1.all
    have b_0 := ST0.out.2.1.1 0 _ rfl
    have b_1 := ST0.out.2.1.1 1 _ rfl
    have b_2 := ST0.out.2.1.1 2 _ rfl
    have b_3 := ST0.out.2.1.1 3 _ rfl
    go_wp2_with fail
    refine wp_region_held_drew (S := fun W' => KeptC w w.heap.size [.int .i64 ac, .int .i64 ar, .int .i64 sq, dv, .int .i64 1, .int .i64 nc, .int .i64 nr, .int .i64 pc, .int .i64 pr, .int .i64 fc, .int .i64 fr, .string nm, .string vl] W') (by kernel_rfl) (ST0.out.1.step (Below.refl _ _).drew) (fun hHeld => ?_)
    refine wpAnyH_take (i := 0) (oi := ⟨some 38, _, _, _, _, _⟩) (v := ?vp1x0) rfl (by kernel_rfl) (by kernel_rfl) (by kernel_rfl) (fun _ _ _ h => h) (Or.inl ⟨by rfl, ?hyp1x0⟩) hHeld ?restp1x0
    case hyp1x0 => (intro w hSw; (try dsimp only at hSw); have hc7 := hSw.1 7 _ rfl; have hc8 := hSw.1 8 _ rfl; have hc9 := hSw.1 9 _ rfl; have hc10 := hSw.1 10 _ rfl; go_simp; try with_reducible rfl)
    simp only [Act.put, List.setIfInBounds_toArray, List.set_cons_zero, List.set_cons_succ]
    refine wpAnyH_take (i := 1) (oi := ⟨some 39, _, _, _, _, _⟩) (v := ?vp1x1) rfl (by kernel_rfl) (by kernel_rfl) (by kernel_rfl) (fun _ _ _ h => h) (Or.inl ⟨by rfl, ?hyp1x1⟩) hHeld ?restp1x1
    case hyp1x1 => (intro w hSw; (try dsimp only at hSw); have hc7 := hSw.1 7 _ rfl; have hc8 := hSw.1 8 _ rfl; have hc9 := hSw.1 9 _ rfl; have hc10 := hSw.1 10 _ rfl; go_simp; try with_reducible rfl)
    simp only [Act.put, List.setIfInBounds_toArray, List.set_cons_zero, List.set_cons_succ]
    refine wpAnyH_take (i := 2) (oi := ⟨some 40, _, _, _, _, _⟩) (v := ?vp1x2) rfl (by kernel_rfl) (by kernel_rfl) (by kernel_rfl) (fun _ _ _ h => h) (Or.inl ⟨by rfl, ?hyp1x2⟩) hHeld ?restp1x2
    case hyp1x2 => (intro w hSw; (try dsimp only at hSw); have hc7 := hSw.1 7 _ rfl; have hc8 := hSw.1 8 _ rfl; have hc9 := hSw.1 9 _ rfl; have hc10 := hSw.1 10 _ rfl; go_simp; try with_reducible rfl)
    simp only [Act.put, List.setIfInBounds_toArray, List.set_cons_zero, List.set_cons_succ]
    refine wpAnyH_take (i := 4) (oi := ⟨some 42, _, _, _, _, _⟩) (v := ?vp1x4) rfl (by kernel_rfl) (by kernel_rfl) (by kernel_rfl) (fun _ _ _ h => h) (Or.inl ⟨by rfl, ?hyp1x4⟩) hHeld ?restp1x4
    case hyp1x4 => (intro w hSw; (try dsimp only at hSw); have hc7 := hSw.1 7 _ rfl; have hc8 := hSw.1 8 _ rfl; have hc9 := hSw.1 9 _ rfl; have hc10 := hSw.1 10 _ rfl; go_simp; try with_reducible rfl)
    simp only [Act.put, List.setIfInBounds_toArray, List.set_cons_zero, List.set_cons_succ]
    refine wpAnyH_take (i := 5) (oi := ⟨some 43, _, _, _, _, _⟩) (v := ?vp1x5) rfl (by kernel_rfl) (by kernel_rfl) (by kernel_rfl) (fun _ _ _ h => h) (Or.inl ⟨by rfl, ?hyp1x5⟩) hHeld ?restp1x5
    case hyp1x5 => (intro w hSw; (try dsimp only at hSw); have hc7 := hSw.1 7 _ rfl; have hc8 := hSw.1 8 _ rfl; have hc9 := hSw.1 9 _ rfl; have hc10 := hSw.1 10 _ rfl; go_simp; try with_reducible rfl)
    simp only [Act.put, List.setIfInBounds_toArray, List.set_cons_zero, List.set_cons_succ]
    refine wpAnyH_ready (rs := [3]) (by kernel_rfl) (by simp) ?_
    refine AllReadyH.cons (o := ⟨some 41, _, _, _, _, _⟩) rfl (fun K hK => ?_) AllReadyH.nil
    go_simp
    refine (stampText_any pc pr _ (HEnv.out.below hHeld.2.2)).mono ?_
    rintro e w10 ⟨rfl, hb⟩
    have SP10 : Hid (TxSt w [.int .i64 ac, .int .i64 ar, .int .i64 sq, dv, .int .i64 1, .int .i64 nc, .int .i64 nr, .int .i64 pc, .int .i64 pr, .int .i64 fc, .int .i64 fr, .string nm, .string vl] [.bool false, .bool true, .bool true, .bool false] w5.heap.size g4 4 4 [txt (kindL 1), txt (textL ac ar), txt (Lib.itoa sq), txt (textC ds)] w10) := (ST0.out.below (Below.refl _ _).drew).below hb
    (try go_wp2_with fail)
    refine hK.out _ _ (hHeld.step hb) (fun hHeld2 => ?_)
    clear hK K hHeld
    have hHeld := hHeld2
    clear hHeld2
    (try simp only [Act.put, List.setIfInBounds_toArray, List.set_cons_zero, List.set_cons_succ])
    refine wpAnyH_ready (rs := [6]) (by kernel_rfl) (by simp) ?_
    refine AllReadyH.cons (o := ⟨some 44, _, _, _, _, _⟩) rfl (fun K hK => ?_) AllReadyH.nil
    go_simp
    refine (afterText_any fc fr _ (HEnv.out.below hHeld.2.2)).mono ?_
    rintro e w11 ⟨rfl, hb⟩
    have SP11 : Hid (TxSt w [.int .i64 ac, .int .i64 ar, .int .i64 sq, dv, .int .i64 1, .int .i64 nc, .int .i64 nr, .int .i64 pc, .int .i64 pr, .int .i64 fc, .int .i64 fr, .string nm, .string vl] [.bool false, .bool true, .bool true, .bool false] w5.heap.size g4 4 4 [txt (kindL 1), txt (textL ac ar), txt (Lib.itoa sq), txt (textC ds)] w11) := SP10.out.below hb
    (try go_wp2_with fail)
    refine hK.out _ _ (hHeld.step hb) (fun hHeld2 => ?_)
    clear hK K hHeld
    have hHeld := hHeld2
    clear hHeld2
    (try simp only [Act.put, List.setIfInBounds_toArray, List.set_cons_zero, List.set_cons_succ])
    refine wpAnyH_ready (rs := [7]) (by kernel_rfl) (by simp) ?_
    refine AllReadyH.cons (o := ⟨some 45, _, _, _, _, _⟩) rfl (fun K hK => ?_) AllReadyH.nil
    go_simp
    have hPrev := hHeld
    refine hK.out _ _ (hPrev.step ((Below.refl _ _).alloc (Nat.le_refl _) _)) (fun hHeld2 => ?_)
    clear hK K hHeld
    have hHeld := hHeld2
    clear hHeld2
    (try simp only [Act.put, List.setIfInBounds_toArray, List.set_cons_zero, List.set_cons_succ])
    refine wpAnyH_ready (rs := [8]) (by kernel_rfl) (by simp) ?_
    refine AllReadyH.cons (o := ⟨some 46, _, _, _, _, _⟩) rfl (fun K hK => ?_) AllReadyH.nil
    have SA : Hid (TxSt w [.int .i64 ac, .int .i64 ar, .int .i64 sq, dv, .int .i64 1, .int .i64 nc, .int .i64 nr, .int .i64 pc, .int .i64 pr, .int .i64 fc, .int .i64 fr, .string nm, .string vl] [.bool false, .bool true, .bool true, .bool false] w5.heap.size g4 4 4 [txt (kindL 1), txt (textL ac ar), txt (Lib.itoa sq), txt (textC ds)] (w11.alloc (.cells #[Value.string (txt (textL pc pr)), Value.string (txt (afterL fc fr))] 9))) := SP11.out.below ((Below.refl _ _).alloc (Nat.le_refl _) _)
    refine step_append_lies _ (by rfl) _ _ 43 (by rfl) (w.heap.size + 1) 9 i0 (.string ⟨#[]⟩) 1 16 Tryz.underlying43 hi hz0 hz1 hz2 rfl (by decide) (.slice (some ⟨g4, 0, none⟩) 4 4) 4 _ (by rfl) SA.out.2.2.2 ⟨w11.heap.size, 0, none⟩ 2 2 [Value.string (txt (textL pc pr)), Value.string (txt (afterL fc fr))] (by rfl) rfl (World.news_of_block (heap_alloc_new w11 _)) (fun x hx => by simp at hx; rcases hx with rfl | rfl <;> rfl) (by decide) (by unfold maxLen; omega) (by omega) (by have := SA.out.1.2.2.size; have := SA.out.1.2.1; omega) _ rfl ?_
    intro g12 c12 w12 ho12 hg12 hl12 ht12
    have ST12 : Hid (TxSt w [.int .i64 ac, .int .i64 ar, .int .i64 sq, dv, .int .i64 1, .int .i64 nc, .int .i64 nr, .int .i64 pc, .int .i64 pr, .int .i64 fc, .int .i64 fr, .string nm, .string vl] [.bool false, .bool true, .bool true, .bool false] w5.heap.size g12 c12 6 [txt (kindL 1), txt (textL ac ar), txt (Lib.itoa sq), txt (textC ds), txt (textL pc pr), txt (afterL fc fr)] w12) := SA.out.app ho12 hg12 hl12
    refine hK.out _ _ (ST12.out.1) (fun hHeld2 => ?_)
    clear hK K hHeld
    have hHeld := hHeld2
    clear hHeld2
    (try simp only [Act.put, List.setIfInBounds_toArray, List.set_cons_zero, List.set_cons_succ])
    refine wpAnyH_take (i := 9) (oi := ⟨some 5, _, _, _, _, _⟩) (v := ?vp1_3_6_7_8x9) rfl (by kernel_rfl) (by kernel_rfl) (by kernel_rfl) (fun _ _ _ h => h) (Or.inl ⟨by rfl, ?hyp1_3_6_7_8x9⟩) hHeld ?restp1_3_6_7_8x9
    case hyp1_3_6_7_8x9 => (intro w hSw; (try dsimp only at hSw); have hc7 := hSw.1 7 _ rfl; have hc8 := hSw.1 8 _ rfl; have hc9 := hSw.1 9 _ rfl; have hc10 := hSw.1 10 _ rfl; go_simp; try with_reducible rfl)
    simp only [Act.put, List.setIfInBounds_toArray, List.set_cons_zero, List.set_cons_succ]
    refine wpAnyH_done (by kernel_rfl) ?_ _
    clear hHeld hPrev ho12 hg12 hl12 ht12 SA SP10 SP11 ST0
    clear k_0 k_1 k_2 k_3 k_4 k_5 k_6 k_7 k_8 k_9 k_10 k_11 k_12 b_0 b_1 b_2 b_3
    obtain ⟨k_0, k_1, k_2, k_3, k_4, k_5, k_6, k_7, k_8, k_9, k_10, k_11, k_12⟩ := ST12.out.1.all
    have b_0 := ST12.out.2.1.1 0 _ rfl
    have b_1 := ST12.out.2.1.1 1 _ rfl
    have b_2 := ST12.out.2.1.1 2 _ rfl
    have b_3 := ST12.out.2.1.1 3 _ rfl
    go_wp2_with (first
      | (at_builtin; have SA : Hid (TxSt w [.int .i64 ac, .int .i64 ar, .int .i64 sq, dv, .int .i64 1, .int .i64 nc, .int .i64 nr, .int .i64 pc, .int .i64 pr, .int .i64 fc, .int .i64 fr, .string nm, .string vl] [.bool false, .bool true, .bool true, .bool false] w5.heap.size g12 c12 6 [txt (kindL 1), txt (textL ac ar), txt (Lib.itoa sq), txt (textC ds), txt (textL pc pr), txt (afterL fc fr)] (w12.alloc (.cells #[Value.string nm] 9))) := ST12.out.below ((Below.refl _ _).alloc (Nat.le_refl _) _); refine wpList_append_lies _ rfl _ _ 43 rfl (w.heap.size + 1) 9 i0 (.string ⟨#[]⟩) 1 16 Tryz.underlying43 hi hz0 hz1 hz2 rfl (by decide) _ _ _ rfl SA.out.2.2.2 ⟨w12.heap.size, 0, none⟩ 1 1 [Value.string nm] rfl rfl (cell_one_new _ _ _) (fun x hx => by simp at hx; subst hx; rfl) (by decide) (by unfold maxLen; omega) (by omega) (by have := SA.out.1.2.2.size; have := SA.out.1.2.1; omega) _ rfl ?_; intro g14 c14 w14 ho14 hg14 hl14 ht14; have ST14 : Hid (TxSt w [.int .i64 ac, .int .i64 ar, .int .i64 sq, dv, .int .i64 1, .int .i64 nc, .int .i64 nr, .int .i64 pc, .int .i64 pr, .int .i64 fc, .int .i64 fr, .string nm, .string vl] [.bool false, .bool true, .bool true, .bool false] w5.heap.size g14 c14 7 [txt (kindL 1), txt (textL ac ar), txt (Lib.itoa sq), txt (textC ds), txt (textL pc pr), txt (afterL fc fr), nm] w14) := SA.out.app ho14 hg14 hl14; clear SA ho14 hg14 hl14 ht14; clear k_0 k_1 k_2 k_3 k_4 k_5 k_6 k_7 k_8 k_9 k_10 k_11 k_12 b_0 b_1 b_2 b_3; obtain ⟨k_0, k_1, k_2, k_3, k_4, k_5, k_6, k_7, k_8, k_9, k_10, k_11, k_12⟩ := ST14.out.1.all; have b_0 := ST14.out.2.1.1 0 _ rfl; have b_1 := ST14.out.2.1.1 1 _ rfl; have b_2 := ST14.out.2.1.1 2 _ rfl; have b_3 := ST14.out.2.1.1 3 _ rfl))
    go_wp2_with fail
    have hj : Lib.join ([txt (kindL 1), txt (textL ac ar), txt (Lib.itoa sq), txt (textC ds), txt (textL pc pr), txt (afterL fc fr), nm].map (·.data.toList)) [32] = textCh ⟨ac, ar, sq, ds, 1, nc, nr, pc, pr, fc, fr, nm, vl⟩ := by rw [textCh_1 _ rfl]; simp [txt, join_two, Lib.join_one]
    refine (joinW_any _ g14 c14 7 [txt (kindL 1), txt (textL ac ar), txt (Lib.itoa sq), txt (textC ds), txt (textL pc pr), txt (afterL fc fr), nm] _ ST14.out.2.2.2 rfl (by omega) (by rw [hj]; have := HL.out; omega)).mono ?_
    rintro e wz ⟨rfl, hbz⟩
    have SZ := ST14.out.below hbz
    rw [hj]
    have bz := SZ.1.2.2
    clear SZ hbz hj ST14
    clear k_0 k_1 k_2 k_3 k_4 k_5 k_6 k_7 k_8 k_9 k_10 k_11 k_12 b_0 b_1 b_2 b_3
    go_wp2
    go_ret2
    exact ⟨rfl, bz⟩
  · rw [show hasNode 2 = true by decide, show hasPlace 2 = true by decide, show hasName 2 = false by decide, show hasValue 2 = false by decide]
    have ST0 : Hid (TxSt w [.int .i64 ac, .int .i64 ar, .int .i64 sq, dv, .int .i64 2, .int .i64 nc, .int .i64 nr, .int .i64 pc, .int .i64 pr, .int .i64 fc, .int .i64 fr, .string nm, .string vl] [.bool true, .bool true, .bool false, .bool false] w5.heap.size g4 4 4 [txt (kindL 2), txt (textL ac ar), txt (Lib.itoa sq), txt (textC ds)] (w5.alloc (.cells #[.bool true, .bool true, .bool false, .bool false] 45))) := ⟨K5.step ((Below.refl _ _).alloc (Nat.le_refl _) _), (KeptC.start w5 [.bool true, .bool true, .bool false, .bool false] _).1 |> fun a => ⟨a, by simp⟩, by omega, World.ownsRow.alloc HO5.out _⟩
    clear K5 HO5 hb5
    obtain ⟨k_0, k_1, k_2, k_3, k_4, k_5, k_6, k_7, k_8, k_9, k_10, k_11, k_12⟩ := ST0.out.1.all
    have b_0 := ST0.out.2.1.1 0 _ rfl
    have b_1 := ST0.out.2.1.1 1 _ rfl
    have b_2 := ST0.out.2.1.1 2 _ rfl
    have b_3 := ST0.out.2.1.1 3 _ rfl
    go_wp2_with fail
    refine (stampText_any nc nr _ (HEnv.out.below ST0.out.1.2.2)).mono ?_
    rintro e w10 ⟨rfl, hb10⟩
    have ST10 : Hid (TxSt w [.int .i64 ac, .int .i64 ar, .int .i64 sq, dv, .int .i64 2, .int .i64 nc, .int .i64 nr, .int .i64 pc, .int .i64 pr, .int .i64 fc, .int .i64 fr, .string nm, .string vl] [.bool true, .bool true, .bool false, .bool false] w5.heap.size g4 4 4 [txt (kindL 2), txt (textL ac ar), txt (Lib.itoa sq), txt (textC ds)] w10) := ST0.out.below hb10
    clear hb10 ST0
    clear k_0 k_1 k_2 k_3 k_4 k_5 k_6 k_7 k_8 k_9 k_10 k_11 k_12 b_0 b_1 b_2 b_3
    obtain ⟨k_0, k_1, k_2, k_3, k_4, k_5, k_6, k_7, k_8, k_9, k_10, k_11, k_12⟩ := ST10.out.1.all
    have b_0 := ST10.out.2.1.1 0 _ rfl
    have b_1 := ST10.out.2.1.1 1 _ rfl
    have b_2 := ST10.out.2.1.1 2 _ rfl
    have b_3 := ST10.out.2.1.1 3 _ rfl
    go_wp2_with (first
      | (at_builtin; have SA : Hid (TxSt w [.int .i64 ac, .int .i64 ar, .int .i64 sq, dv, .int .i64 2, .int .i64 nc, .int .i64 nr, .int .i64 pc, .int .i64 pr, .int .i64 fc, .int .i64 fr, .string nm, .string vl] [.bool true, .bool true, .bool false, .bool false] w5.heap.size g4 4 4 [txt (kindL 2), txt (textL ac ar), txt (Lib.itoa sq), txt (textC ds)] (w10.alloc (.cells #[Value.string (txt (textL nc nr))] 9))) := ST10.out.below ((Below.refl _ _).alloc (Nat.le_refl _) _); refine wpList_append_lies _ rfl _ _ 43 rfl (w.heap.size + 1) 9 i0 (.string ⟨#[]⟩) 1 16 Tryz.underlying43 hi hz0 hz1 hz2 rfl (by decide) _ _ _ rfl SA.out.2.2.2 ⟨w10.heap.size, 0, none⟩ 1 1 [Value.string (txt (textL nc nr))] rfl rfl (cell_one_new _ _ _) (fun x hx => by simp at hx; subst hx; rfl) (by decide) (by unfold maxLen; omega) (by omega) (by have := SA.out.1.2.2.size; have := SA.out.1.2.1; omega) _ rfl ?_; intro g11 c11 w11 ho11 hg11 hl11 ht11; have ST11 : Hid (TxSt w [.int .i64 ac, .int .i64 ar, .int .i64 sq, dv, .int .i64 2, .int .i64 nc, .int .i64 nr, .int .i64 pc, .int .i64 pr, .int .i64 fc, .int .i64 fr, .string nm, .string vl] [.bool true, .bool true, .bool false, .bool false] w5.heap.size g11 c11 5 [txt (kindL 2), txt (textL ac ar), txt (Lib.itoa sq), txt (textC ds), txt (textL nc nr)] w11) := SA.out.app ho11 hg11 hl11; clear SA ho11 hg11 hl11 ht11; clear k_0 k_1 k_2 k_3 k_4 k_5 k_6 k_7 k_8 k_9 k_10 k_11 k_12 b_0 b_1 b_2 b_3; obtain ⟨k_0, k_1, k_2, k_3, k_4, k_5, k_6, k_7, k_8, k_9, k_10, k_11, k_12⟩ := ST11.out.1.all; have b_0 := ST11.out.2.1.1 0 _ rfl; have b_1 := ST11.out.2.1.1 1 _ rfl; have b_2 := ST11.out.2.1.1 2 _ rfl; have b_3 := ST11.out.2.1.1 3 _ rfl))
    go_wp2_with fail
    refine wp_region_held_drew (S := fun W' => KeptC w w.heap.size [.int .i64 ac, .int .i64 ar, .int .i64 sq, dv, .int .i64 2, .int .i64 nc, .int .i64 nr, .int .i64 pc, .int .i64 pr, .int .i64 fc, .int .i64 fr, .string nm, .string vl] W') (by kernel_rfl) (ST11.out.1.step (Below.refl _ _).drew) (fun hHeld => ?_)
    refine wpAnyH_take (i := 0) (oi := ⟨some 38, _, _, _, _, _⟩) (v := ?vp2x0) rfl (by kernel_rfl) (by kernel_rfl) (by kernel_rfl) (fun _ _ _ h => h) (Or.inl ⟨by rfl, ?hyp2x0⟩) hHeld ?restp2x0
    case hyp2x0 => (intro w hSw; (try dsimp only at hSw); have hc7 := hSw.1 7 _ rfl; have hc8 := hSw.1 8 _ rfl; have hc9 := hSw.1 9 _ rfl; have hc10 := hSw.1 10 _ rfl; go_simp; try with_reducible rfl)
    simp only [Act.put, List.setIfInBounds_toArray, List.set_cons_zero, List.set_cons_succ]
    refine wpAnyH_take (i := 1) (oi := ⟨some 39, _, _, _, _, _⟩) (v := ?vp2x1) rfl (by kernel_rfl) (by kernel_rfl) (by kernel_rfl) (fun _ _ _ h => h) (Or.inl ⟨by rfl, ?hyp2x1⟩) hHeld ?restp2x1
    case hyp2x1 => (intro w hSw; (try dsimp only at hSw); have hc7 := hSw.1 7 _ rfl; have hc8 := hSw.1 8 _ rfl; have hc9 := hSw.1 9 _ rfl; have hc10 := hSw.1 10 _ rfl; go_simp; try with_reducible rfl)
    simp only [Act.put, List.setIfInBounds_toArray, List.set_cons_zero, List.set_cons_succ]
    refine wpAnyH_take (i := 2) (oi := ⟨some 40, _, _, _, _, _⟩) (v := ?vp2x2) rfl (by kernel_rfl) (by kernel_rfl) (by kernel_rfl) (fun _ _ _ h => h) (Or.inl ⟨by rfl, ?hyp2x2⟩) hHeld ?restp2x2
    case hyp2x2 => (intro w hSw; (try dsimp only at hSw); have hc7 := hSw.1 7 _ rfl; have hc8 := hSw.1 8 _ rfl; have hc9 := hSw.1 9 _ rfl; have hc10 := hSw.1 10 _ rfl; go_simp; try with_reducible rfl)
    simp only [Act.put, List.setIfInBounds_toArray, List.set_cons_zero, List.set_cons_succ]
    refine wpAnyH_take (i := 4) (oi := ⟨some 42, _, _, _, _, _⟩) (v := ?vp2x4) rfl (by kernel_rfl) (by kernel_rfl) (by kernel_rfl) (fun _ _ _ h => h) (Or.inl ⟨by rfl, ?hyp2x4⟩) hHeld ?restp2x4
    case hyp2x4 => (intro w hSw; (try dsimp only at hSw); have hc7 := hSw.1 7 _ rfl; have hc8 := hSw.1 8 _ rfl; have hc9 := hSw.1 9 _ rfl; have hc10 := hSw.1 10 _ rfl; go_simp; try with_reducible rfl)
    simp only [Act.put, List.setIfInBounds_toArray, List.set_cons_zero, List.set_cons_succ]
    refine wpAnyH_take (i := 5) (oi := ⟨some 43, _, _, _, _, _⟩) (v := ?vp2x5) rfl (by kernel_rfl) (by kernel_rfl) (by kernel_rfl) (fun _ _ _ h => h) (Or.inl ⟨by rfl, ?hyp2x5⟩) hHeld ?restp2x5
    case hyp2x5 => (intro w hSw; (try dsimp only at hSw); have hc7 := hSw.1 7 _ rfl; have hc8 := hSw.1 8 _ rfl; have hc9 := hSw.1 9 _ rfl; have hc10 := hSw.1 10 _ rfl; go_simp; try with_reducible rfl)
    simp only [Act.put, List.setIfInBounds_toArray, List.set_cons_zero, List.set_cons_succ]
    refine wpAnyH_ready (rs := [3]) (by kernel_rfl) (by simp) ?_
    refine AllReadyH.cons (o := ⟨some 41, _, _, _, _, _⟩) rfl (fun K hK => ?_) AllReadyH.nil
    go_simp
    refine (stampText_any pc pr _ (HEnv.out.below hHeld.2.2)).mono ?_
    rintro e w12 ⟨rfl, hb⟩
    have SP12 : Hid (TxSt w [.int .i64 ac, .int .i64 ar, .int .i64 sq, dv, .int .i64 2, .int .i64 nc, .int .i64 nr, .int .i64 pc, .int .i64 pr, .int .i64 fc, .int .i64 fr, .string nm, .string vl] [.bool true, .bool true, .bool false, .bool false] w5.heap.size g11 c11 5 [txt (kindL 2), txt (textL ac ar), txt (Lib.itoa sq), txt (textC ds), txt (textL nc nr)] w12) := (ST11.out.below (Below.refl _ _).drew).below hb
    (try go_wp2_with fail)
    refine hK.out _ _ (hHeld.step hb) (fun hHeld2 => ?_)
    clear hK K hHeld
    have hHeld := hHeld2
    clear hHeld2
    (try simp only [Act.put, List.setIfInBounds_toArray, List.set_cons_zero, List.set_cons_succ])
    refine wpAnyH_ready (rs := [6]) (by kernel_rfl) (by simp) ?_
    refine AllReadyH.cons (o := ⟨some 44, _, _, _, _, _⟩) rfl (fun K hK => ?_) AllReadyH.nil
    go_simp
    refine (afterText_any fc fr _ (HEnv.out.below hHeld.2.2)).mono ?_
    rintro e w13 ⟨rfl, hb⟩
    have SP13 : Hid (TxSt w [.int .i64 ac, .int .i64 ar, .int .i64 sq, dv, .int .i64 2, .int .i64 nc, .int .i64 nr, .int .i64 pc, .int .i64 pr, .int .i64 fc, .int .i64 fr, .string nm, .string vl] [.bool true, .bool true, .bool false, .bool false] w5.heap.size g11 c11 5 [txt (kindL 2), txt (textL ac ar), txt (Lib.itoa sq), txt (textC ds), txt (textL nc nr)] w13) := SP12.out.below hb
    (try go_wp2_with fail)
    refine hK.out _ _ (hHeld.step hb) (fun hHeld2 => ?_)
    clear hK K hHeld
    have hHeld := hHeld2
    clear hHeld2
    (try simp only [Act.put, List.setIfInBounds_toArray, List.set_cons_zero, List.set_cons_succ])
    refine wpAnyH_ready (rs := [7]) (by kernel_rfl) (by simp) ?_
    refine AllReadyH.cons (o := ⟨some 45, _, _, _, _, _⟩) rfl (fun K hK => ?_) AllReadyH.nil
    go_simp
    have hPrev := hHeld
    refine hK.out _ _ (hPrev.step ((Below.refl _ _).alloc (Nat.le_refl _) _)) (fun hHeld2 => ?_)
    clear hK K hHeld
    have hHeld := hHeld2
    clear hHeld2
    (try simp only [Act.put, List.setIfInBounds_toArray, List.set_cons_zero, List.set_cons_succ])
    refine wpAnyH_ready (rs := [8]) (by kernel_rfl) (by simp) ?_
    refine AllReadyH.cons (o := ⟨some 46, _, _, _, _, _⟩) rfl (fun K hK => ?_) AllReadyH.nil
    have SA : Hid (TxSt w [.int .i64 ac, .int .i64 ar, .int .i64 sq, dv, .int .i64 2, .int .i64 nc, .int .i64 nr, .int .i64 pc, .int .i64 pr, .int .i64 fc, .int .i64 fr, .string nm, .string vl] [.bool true, .bool true, .bool false, .bool false] w5.heap.size g11 c11 5 [txt (kindL 2), txt (textL ac ar), txt (Lib.itoa sq), txt (textC ds), txt (textL nc nr)] (w13.alloc (.cells #[Value.string (txt (textL pc pr)), Value.string (txt (afterL fc fr))] 9))) := SP13.out.below ((Below.refl _ _).alloc (Nat.le_refl _) _)
    refine step_append_lies _ (by rfl) _ _ 43 (by rfl) (w.heap.size + 1) 9 i0 (.string ⟨#[]⟩) 1 16 Tryz.underlying43 hi hz0 hz1 hz2 rfl (by decide) (.slice (some ⟨g11, 0, none⟩) 5 c11) 5 _ (by rfl) SA.out.2.2.2 ⟨w13.heap.size, 0, none⟩ 2 2 [Value.string (txt (textL pc pr)), Value.string (txt (afterL fc fr))] (by rfl) rfl (World.news_of_block (heap_alloc_new w13 _)) (fun x hx => by simp at hx; rcases hx with rfl | rfl <;> rfl) (by decide) (by unfold maxLen; omega) (by omega) (by have := SA.out.1.2.2.size; have := SA.out.1.2.1; omega) _ rfl ?_
    intro g14 c14 w14 ho14 hg14 hl14 ht14
    have ST14 : Hid (TxSt w [.int .i64 ac, .int .i64 ar, .int .i64 sq, dv, .int .i64 2, .int .i64 nc, .int .i64 nr, .int .i64 pc, .int .i64 pr, .int .i64 fc, .int .i64 fr, .string nm, .string vl] [.bool true, .bool true, .bool false, .bool false] w5.heap.size g14 c14 7 [txt (kindL 2), txt (textL ac ar), txt (Lib.itoa sq), txt (textC ds), txt (textL nc nr), txt (textL pc pr), txt (afterL fc fr)] w14) := SA.out.app ho14 hg14 hl14
    refine hK.out _ _ (ST14.out.1) (fun hHeld2 => ?_)
    clear hK K hHeld
    have hHeld := hHeld2
    clear hHeld2
    (try simp only [Act.put, List.setIfInBounds_toArray, List.set_cons_zero, List.set_cons_succ])
    refine wpAnyH_take (i := 9) (oi := ⟨some 5, _, _, _, _, _⟩) (v := ?vp2_3_6_7_8x9) rfl (by kernel_rfl) (by kernel_rfl) (by kernel_rfl) (fun _ _ _ h => h) (Or.inl ⟨by rfl, ?hyp2_3_6_7_8x9⟩) hHeld ?restp2_3_6_7_8x9
    case hyp2_3_6_7_8x9 => (intro w hSw; (try dsimp only at hSw); have hc7 := hSw.1 7 _ rfl; have hc8 := hSw.1 8 _ rfl; have hc9 := hSw.1 9 _ rfl; have hc10 := hSw.1 10 _ rfl; go_simp; try with_reducible rfl)
    simp only [Act.put, List.setIfInBounds_toArray, List.set_cons_zero, List.set_cons_succ]
    refine wpAnyH_done (by kernel_rfl) ?_ _
    clear hHeld hPrev ho14 hg14 hl14 ht14 SA SP12 SP13 ST11
    clear k_0 k_1 k_2 k_3 k_4 k_5 k_6 k_7 k_8 k_9 k_10 k_11 k_12 b_0 b_1 b_2 b_3
    obtain ⟨k_0, k_1, k_2, k_3, k_4, k_5, k_6, k_7, k_8, k_9, k_10, k_11, k_12⟩ := ST14.out.1.all
    have b_0 := ST14.out.2.1.1 0 _ rfl
    have b_1 := ST14.out.2.1.1 1 _ rfl
    have b_2 := ST14.out.2.1.1 2 _ rfl
    have b_3 := ST14.out.2.1.1 3 _ rfl
    go_wp2_with fail
    have hj : Lib.join ([txt (kindL 2), txt (textL ac ar), txt (Lib.itoa sq), txt (textC ds), txt (textL nc nr), txt (textL pc pr), txt (afterL fc fr)].map (·.data.toList)) [32] = textCh ⟨ac, ar, sq, ds, 2, nc, nr, pc, pr, fc, fr, nm, vl⟩ := by rw [textCh_2 _ rfl]; simp [txt, join_two, Lib.join_one]
    refine (joinW_any _ g14 c14 7 [txt (kindL 2), txt (textL ac ar), txt (Lib.itoa sq), txt (textC ds), txt (textL nc nr), txt (textL pc pr), txt (afterL fc fr)] _ ST14.out.2.2.2 rfl (by omega) (by rw [hj]; have := HL.out; omega)).mono ?_
    rintro e wz ⟨rfl, hbz⟩
    have SZ := ST14.out.below hbz
    rw [hj]
    have bz := SZ.1.2.2
    clear SZ hbz hj ST14
    clear k_0 k_1 k_2 k_3 k_4 k_5 k_6 k_7 k_8 k_9 k_10 k_11 k_12 b_0 b_1 b_2 b_3
    go_wp2
    go_ret2
    exact ⟨rfl, bz⟩
  · rw [show hasNode 3 = true by decide, show hasPlace 3 = false by decide, show hasName 3 = true by decide, show hasValue 3 = true by decide]
    have ST0 : Hid (TxSt w [.int .i64 ac, .int .i64 ar, .int .i64 sq, dv, .int .i64 3, .int .i64 nc, .int .i64 nr, .int .i64 pc, .int .i64 pr, .int .i64 fc, .int .i64 fr, .string nm, .string vl] [.bool true, .bool false, .bool true, .bool true] w5.heap.size g4 4 4 [txt (kindL 3), txt (textL ac ar), txt (Lib.itoa sq), txt (textC ds)] (w5.alloc (.cells #[.bool true, .bool false, .bool true, .bool true] 45))) := ⟨K5.step ((Below.refl _ _).alloc (Nat.le_refl _) _), (KeptC.start w5 [.bool true, .bool false, .bool true, .bool true] _).1 |> fun a => ⟨a, by simp⟩, by omega, World.ownsRow.alloc HO5.out _⟩
    clear K5 HO5 hb5
    obtain ⟨k_0, k_1, k_2, k_3, k_4, k_5, k_6, k_7, k_8, k_9, k_10, k_11, k_12⟩ := ST0.out.1.all
    have b_0 := ST0.out.2.1.1 0 _ rfl
    have b_1 := ST0.out.2.1.1 1 _ rfl
    have b_2 := ST0.out.2.1.1 2 _ rfl
    have b_3 := ST0.out.2.1.1 3 _ rfl
    go_wp2_with fail
    refine (stampText_any nc nr _ (HEnv.out.below ST0.out.1.2.2)).mono ?_
    rintro e w10 ⟨rfl, hb10⟩
    have ST10 : Hid (TxSt w [.int .i64 ac, .int .i64 ar, .int .i64 sq, dv, .int .i64 3, .int .i64 nc, .int .i64 nr, .int .i64 pc, .int .i64 pr, .int .i64 fc, .int .i64 fr, .string nm, .string vl] [.bool true, .bool false, .bool true, .bool true] w5.heap.size g4 4 4 [txt (kindL 3), txt (textL ac ar), txt (Lib.itoa sq), txt (textC ds)] w10) := ST0.out.below hb10
    clear hb10 ST0
    clear k_0 k_1 k_2 k_3 k_4 k_5 k_6 k_7 k_8 k_9 k_10 k_11 k_12 b_0 b_1 b_2 b_3
    obtain ⟨k_0, k_1, k_2, k_3, k_4, k_5, k_6, k_7, k_8, k_9, k_10, k_11, k_12⟩ := ST10.out.1.all
    have b_0 := ST10.out.2.1.1 0 _ rfl
    have b_1 := ST10.out.2.1.1 1 _ rfl
    have b_2 := ST10.out.2.1.1 2 _ rfl
    have b_3 := ST10.out.2.1.1 3 _ rfl
    go_wp2_with (first
      | (at_builtin; have SA : Hid (TxSt w [.int .i64 ac, .int .i64 ar, .int .i64 sq, dv, .int .i64 3, .int .i64 nc, .int .i64 nr, .int .i64 pc, .int .i64 pr, .int .i64 fc, .int .i64 fr, .string nm, .string vl] [.bool true, .bool false, .bool true, .bool true] w5.heap.size g4 4 4 [txt (kindL 3), txt (textL ac ar), txt (Lib.itoa sq), txt (textC ds)] (w10.alloc (.cells #[Value.string (txt (textL nc nr))] 9))) := ST10.out.below ((Below.refl _ _).alloc (Nat.le_refl _) _); refine wpList_append_lies _ rfl _ _ 43 rfl (w.heap.size + 1) 9 i0 (.string ⟨#[]⟩) 1 16 Tryz.underlying43 hi hz0 hz1 hz2 rfl (by decide) _ _ _ rfl SA.out.2.2.2 ⟨w10.heap.size, 0, none⟩ 1 1 [Value.string (txt (textL nc nr))] rfl rfl (cell_one_new _ _ _) (fun x hx => by simp at hx; subst hx; rfl) (by decide) (by unfold maxLen; omega) (by omega) (by have := SA.out.1.2.2.size; have := SA.out.1.2.1; omega) _ rfl ?_; intro g11 c11 w11 ho11 hg11 hl11 ht11; have ST11 : Hid (TxSt w [.int .i64 ac, .int .i64 ar, .int .i64 sq, dv, .int .i64 3, .int .i64 nc, .int .i64 nr, .int .i64 pc, .int .i64 pr, .int .i64 fc, .int .i64 fr, .string nm, .string vl] [.bool true, .bool false, .bool true, .bool true] w5.heap.size g11 c11 5 [txt (kindL 3), txt (textL ac ar), txt (Lib.itoa sq), txt (textC ds), txt (textL nc nr)] w11) := SA.out.app ho11 hg11 hl11; clear SA ho11 hg11 hl11 ht11; clear k_0 k_1 k_2 k_3 k_4 k_5 k_6 k_7 k_8 k_9 k_10 k_11 k_12 b_0 b_1 b_2 b_3; obtain ⟨k_0, k_1, k_2, k_3, k_4, k_5, k_6, k_7, k_8, k_9, k_10, k_11, k_12⟩ := ST11.out.1.all; have b_0 := ST11.out.2.1.1 0 _ rfl; have b_1 := ST11.out.2.1.1 1 _ rfl; have b_2 := ST11.out.2.1.1 2 _ rfl; have b_3 := ST11.out.2.1.1 3 _ rfl)
      | (at_builtin; have SA : Hid (TxSt w [.int .i64 ac, .int .i64 ar, .int .i64 sq, dv, .int .i64 3, .int .i64 nc, .int .i64 nr, .int .i64 pc, .int .i64 pr, .int .i64 fc, .int .i64 fr, .string nm, .string vl] [.bool true, .bool false, .bool true, .bool true] w5.heap.size g11 c11 5 [txt (kindL 3), txt (textL ac ar), txt (Lib.itoa sq), txt (textC ds), txt (textL nc nr)] (w11.alloc (.cells #[Value.string nm] 9))) := ST11.out.below ((Below.refl _ _).alloc (Nat.le_refl _) _); refine wpList_append_lies _ rfl _ _ 43 rfl (w.heap.size + 1) 9 i0 (.string ⟨#[]⟩) 1 16 Tryz.underlying43 hi hz0 hz1 hz2 rfl (by decide) _ _ _ rfl SA.out.2.2.2 ⟨w11.heap.size, 0, none⟩ 1 1 [Value.string nm] rfl rfl (cell_one_new _ _ _) (fun x hx => by simp at hx; subst hx; rfl) (by decide) (by unfold maxLen; omega) (by omega) (by have := SA.out.1.2.2.size; have := SA.out.1.2.1; omega) _ rfl ?_; intro g12 c12 w12 ho12 hg12 hl12 ht12; have ST12 : Hid (TxSt w [.int .i64 ac, .int .i64 ar, .int .i64 sq, dv, .int .i64 3, .int .i64 nc, .int .i64 nr, .int .i64 pc, .int .i64 pr, .int .i64 fc, .int .i64 fr, .string nm, .string vl] [.bool true, .bool false, .bool true, .bool true] w5.heap.size g12 c12 6 [txt (kindL 3), txt (textL ac ar), txt (Lib.itoa sq), txt (textC ds), txt (textL nc nr), nm] w12) := SA.out.app ho12 hg12 hl12; clear SA ho12 hg12 hl12 ht12; clear k_0 k_1 k_2 k_3 k_4 k_5 k_6 k_7 k_8 k_9 k_10 k_11 k_12 b_0 b_1 b_2 b_3; obtain ⟨k_0, k_1, k_2, k_3, k_4, k_5, k_6, k_7, k_8, k_9, k_10, k_11, k_12⟩ := ST12.out.1.all; have b_0 := ST12.out.2.1.1 0 _ rfl; have b_1 := ST12.out.2.1.1 1 _ rfl; have b_2 := ST12.out.2.1.1 2 _ rfl; have b_3 := ST12.out.2.1.1 3 _ rfl))
    go_wp2_with fail
    refine (quote_any vl (by omega) _).mono ?_
    rintro e w13 ⟨rfl, hb13⟩
    have ST13 : Hid (TxSt w [.int .i64 ac, .int .i64 ar, .int .i64 sq, dv, .int .i64 3, .int .i64 nc, .int .i64 nr, .int .i64 pc, .int .i64 pr, .int .i64 fc, .int .i64 fr, .string nm, .string vl] [.bool true, .bool false, .bool true, .bool true] w5.heap.size g12 c12 6 [txt (kindL 3), txt (textL ac ar), txt (Lib.itoa sq), txt (textC ds), txt (textL nc nr), nm] w13) := ST12.out.below hb13
    clear hb13 ST12
    clear k_0 k_1 k_2 k_3 k_4 k_5 k_6 k_7 k_8 k_9 k_10 k_11 k_12 b_0 b_1 b_2 b_3
    obtain ⟨k_0, k_1, k_2, k_3, k_4, k_5, k_6, k_7, k_8, k_9, k_10, k_11, k_12⟩ := ST13.out.1.all
    have b_0 := ST13.out.2.1.1 0 _ rfl
    have b_1 := ST13.out.2.1.1 1 _ rfl
    have b_2 := ST13.out.2.1.1 2 _ rfl
    have b_3 := ST13.out.2.1.1 3 _ rfl
    go_wp2_with (first
      | (at_builtin; have SA : Hid (TxSt w [.int .i64 ac, .int .i64 ar, .int .i64 sq, dv, .int .i64 3, .int .i64 nc, .int .i64 nr, .int .i64 pc, .int .i64 pr, .int .i64 fc, .int .i64 fr, .string nm, .string vl] [.bool true, .bool false, .bool true, .bool true] w5.heap.size g12 c12 6 [txt (kindL 3), txt (textL ac ar), txt (Lib.itoa sq), txt (textC ds), txt (textL nc nr), nm] (w13.alloc (.cells #[Value.string (txt (quoteL vl.data.toList))] 9))) := ST13.out.below ((Below.refl _ _).alloc (Nat.le_refl _) _); refine wpList_append_lies _ rfl _ _ 43 rfl (w.heap.size + 1) 9 i0 (.string ⟨#[]⟩) 1 16 Tryz.underlying43 hi hz0 hz1 hz2 rfl (by decide) _ _ _ rfl SA.out.2.2.2 ⟨w13.heap.size, 0, none⟩ 1 1 [Value.string (txt (quoteL vl.data.toList))] rfl rfl (cell_one_new _ _ _) (fun x hx => by simp at hx; subst hx; rfl) (by decide) (by unfold maxLen; omega) (by omega) (by have := SA.out.1.2.2.size; have := SA.out.1.2.1; omega) _ rfl ?_; intro g14 c14 w14 ho14 hg14 hl14 ht14; have ST14 : Hid (TxSt w [.int .i64 ac, .int .i64 ar, .int .i64 sq, dv, .int .i64 3, .int .i64 nc, .int .i64 nr, .int .i64 pc, .int .i64 pr, .int .i64 fc, .int .i64 fr, .string nm, .string vl] [.bool true, .bool false, .bool true, .bool true] w5.heap.size g14 c14 7 [txt (kindL 3), txt (textL ac ar), txt (Lib.itoa sq), txt (textC ds), txt (textL nc nr), nm, txt (quoteL vl.data.toList)] w14) := SA.out.app ho14 hg14 hl14; clear SA ho14 hg14 hl14 ht14; clear k_0 k_1 k_2 k_3 k_4 k_5 k_6 k_7 k_8 k_9 k_10 k_11 k_12 b_0 b_1 b_2 b_3; obtain ⟨k_0, k_1, k_2, k_3, k_4, k_5, k_6, k_7, k_8, k_9, k_10, k_11, k_12⟩ := ST14.out.1.all; have b_0 := ST14.out.2.1.1 0 _ rfl; have b_1 := ST14.out.2.1.1 1 _ rfl; have b_2 := ST14.out.2.1.1 2 _ rfl; have b_3 := ST14.out.2.1.1 3 _ rfl))
    go_wp2_with fail
    have hj : Lib.join ([txt (kindL 3), txt (textL ac ar), txt (Lib.itoa sq), txt (textC ds), txt (textL nc nr), nm, txt (quoteL vl.data.toList)].map (·.data.toList)) [32] = textCh ⟨ac, ar, sq, ds, 3, nc, nr, pc, pr, fc, fr, nm, vl⟩ := by rw [textCh_3 _ rfl]; simp [txt, join_two, Lib.join_one]
    refine (joinW_any _ g14 c14 7 [txt (kindL 3), txt (textL ac ar), txt (Lib.itoa sq), txt (textC ds), txt (textL nc nr), nm, txt (quoteL vl.data.toList)] _ ST14.out.2.2.2 rfl (by omega) (by rw [hj]; have := HL.out; omega)).mono ?_
    rintro e wz ⟨rfl, hbz⟩
    have SZ := ST14.out.below hbz
    rw [hj]
    have bz := SZ.1.2.2
    clear SZ hbz hj ST14
    clear k_0 k_1 k_2 k_3 k_4 k_5 k_6 k_7 k_8 k_9 k_10 k_11 k_12 b_0 b_1 b_2 b_3
    go_wp2
    go_ret2
    exact ⟨rfl, bz⟩
  · rw [show hasNode 4 = true by decide, show hasPlace 4 = false by decide, show hasName 4 = true by decide, show hasValue 4 = false by decide]
    have ST0 : Hid (TxSt w [.int .i64 ac, .int .i64 ar, .int .i64 sq, dv, .int .i64 4, .int .i64 nc, .int .i64 nr, .int .i64 pc, .int .i64 pr, .int .i64 fc, .int .i64 fr, .string nm, .string vl] [.bool true, .bool false, .bool true, .bool false] w5.heap.size g4 4 4 [txt (kindL 4), txt (textL ac ar), txt (Lib.itoa sq), txt (textC ds)] (w5.alloc (.cells #[.bool true, .bool false, .bool true, .bool false] 45))) := ⟨K5.step ((Below.refl _ _).alloc (Nat.le_refl _) _), (KeptC.start w5 [.bool true, .bool false, .bool true, .bool false] _).1 |> fun a => ⟨a, by simp⟩, by omega, World.ownsRow.alloc HO5.out _⟩
    clear K5 HO5 hb5
    obtain ⟨k_0, k_1, k_2, k_3, k_4, k_5, k_6, k_7, k_8, k_9, k_10, k_11, k_12⟩ := ST0.out.1.all
    have b_0 := ST0.out.2.1.1 0 _ rfl
    have b_1 := ST0.out.2.1.1 1 _ rfl
    have b_2 := ST0.out.2.1.1 2 _ rfl
    have b_3 := ST0.out.2.1.1 3 _ rfl
    go_wp2_with fail
    refine (stampText_any nc nr _ (HEnv.out.below ST0.out.1.2.2)).mono ?_
    rintro e w10 ⟨rfl, hb10⟩
    have ST10 : Hid (TxSt w [.int .i64 ac, .int .i64 ar, .int .i64 sq, dv, .int .i64 4, .int .i64 nc, .int .i64 nr, .int .i64 pc, .int .i64 pr, .int .i64 fc, .int .i64 fr, .string nm, .string vl] [.bool true, .bool false, .bool true, .bool false] w5.heap.size g4 4 4 [txt (kindL 4), txt (textL ac ar), txt (Lib.itoa sq), txt (textC ds)] w10) := ST0.out.below hb10
    clear hb10 ST0
    clear k_0 k_1 k_2 k_3 k_4 k_5 k_6 k_7 k_8 k_9 k_10 k_11 k_12 b_0 b_1 b_2 b_3
    obtain ⟨k_0, k_1, k_2, k_3, k_4, k_5, k_6, k_7, k_8, k_9, k_10, k_11, k_12⟩ := ST10.out.1.all
    have b_0 := ST10.out.2.1.1 0 _ rfl
    have b_1 := ST10.out.2.1.1 1 _ rfl
    have b_2 := ST10.out.2.1.1 2 _ rfl
    have b_3 := ST10.out.2.1.1 3 _ rfl
    go_wp2_with (first
      | (at_builtin; have SA : Hid (TxSt w [.int .i64 ac, .int .i64 ar, .int .i64 sq, dv, .int .i64 4, .int .i64 nc, .int .i64 nr, .int .i64 pc, .int .i64 pr, .int .i64 fc, .int .i64 fr, .string nm, .string vl] [.bool true, .bool false, .bool true, .bool false] w5.heap.size g4 4 4 [txt (kindL 4), txt (textL ac ar), txt (Lib.itoa sq), txt (textC ds)] (w10.alloc (.cells #[Value.string (txt (textL nc nr))] 9))) := ST10.out.below ((Below.refl _ _).alloc (Nat.le_refl _) _); refine wpList_append_lies _ rfl _ _ 43 rfl (w.heap.size + 1) 9 i0 (.string ⟨#[]⟩) 1 16 Tryz.underlying43 hi hz0 hz1 hz2 rfl (by decide) _ _ _ rfl SA.out.2.2.2 ⟨w10.heap.size, 0, none⟩ 1 1 [Value.string (txt (textL nc nr))] rfl rfl (cell_one_new _ _ _) (fun x hx => by simp at hx; subst hx; rfl) (by decide) (by unfold maxLen; omega) (by omega) (by have := SA.out.1.2.2.size; have := SA.out.1.2.1; omega) _ rfl ?_; intro g11 c11 w11 ho11 hg11 hl11 ht11; have ST11 : Hid (TxSt w [.int .i64 ac, .int .i64 ar, .int .i64 sq, dv, .int .i64 4, .int .i64 nc, .int .i64 nr, .int .i64 pc, .int .i64 pr, .int .i64 fc, .int .i64 fr, .string nm, .string vl] [.bool true, .bool false, .bool true, .bool false] w5.heap.size g11 c11 5 [txt (kindL 4), txt (textL ac ar), txt (Lib.itoa sq), txt (textC ds), txt (textL nc nr)] w11) := SA.out.app ho11 hg11 hl11; clear SA ho11 hg11 hl11 ht11; clear k_0 k_1 k_2 k_3 k_4 k_5 k_6 k_7 k_8 k_9 k_10 k_11 k_12 b_0 b_1 b_2 b_3; obtain ⟨k_0, k_1, k_2, k_3, k_4, k_5, k_6, k_7, k_8, k_9, k_10, k_11, k_12⟩ := ST11.out.1.all; have b_0 := ST11.out.2.1.1 0 _ rfl; have b_1 := ST11.out.2.1.1 1 _ rfl; have b_2 := ST11.out.2.1.1 2 _ rfl; have b_3 := ST11.out.2.1.1 3 _ rfl)
      | (at_builtin; have SA : Hid (TxSt w [.int .i64 ac, .int .i64 ar, .int .i64 sq, dv, .int .i64 4, .int .i64 nc, .int .i64 nr, .int .i64 pc, .int .i64 pr, .int .i64 fc, .int .i64 fr, .string nm, .string vl] [.bool true, .bool false, .bool true, .bool false] w5.heap.size g11 c11 5 [txt (kindL 4), txt (textL ac ar), txt (Lib.itoa sq), txt (textC ds), txt (textL nc nr)] (w11.alloc (.cells #[Value.string nm] 9))) := ST11.out.below ((Below.refl _ _).alloc (Nat.le_refl _) _); refine wpList_append_lies _ rfl _ _ 43 rfl (w.heap.size + 1) 9 i0 (.string ⟨#[]⟩) 1 16 Tryz.underlying43 hi hz0 hz1 hz2 rfl (by decide) _ _ _ rfl SA.out.2.2.2 ⟨w11.heap.size, 0, none⟩ 1 1 [Value.string nm] rfl rfl (cell_one_new _ _ _) (fun x hx => by simp at hx; subst hx; rfl) (by decide) (by unfold maxLen; omega) (by omega) (by have := SA.out.1.2.2.size; have := SA.out.1.2.1; omega) _ rfl ?_; intro g12 c12 w12 ho12 hg12 hl12 ht12; have ST12 : Hid (TxSt w [.int .i64 ac, .int .i64 ar, .int .i64 sq, dv, .int .i64 4, .int .i64 nc, .int .i64 nr, .int .i64 pc, .int .i64 pr, .int .i64 fc, .int .i64 fr, .string nm, .string vl] [.bool true, .bool false, .bool true, .bool false] w5.heap.size g12 c12 6 [txt (kindL 4), txt (textL ac ar), txt (Lib.itoa sq), txt (textC ds), txt (textL nc nr), nm] w12) := SA.out.app ho12 hg12 hl12; clear SA ho12 hg12 hl12 ht12; clear k_0 k_1 k_2 k_3 k_4 k_5 k_6 k_7 k_8 k_9 k_10 k_11 k_12 b_0 b_1 b_2 b_3; obtain ⟨k_0, k_1, k_2, k_3, k_4, k_5, k_6, k_7, k_8, k_9, k_10, k_11, k_12⟩ := ST12.out.1.all; have b_0 := ST12.out.2.1.1 0 _ rfl; have b_1 := ST12.out.2.1.1 1 _ rfl; have b_2 := ST12.out.2.1.1 2 _ rfl; have b_3 := ST12.out.2.1.1 3 _ rfl))
    go_wp2_with fail
    have hj : Lib.join ([txt (kindL 4), txt (textL ac ar), txt (Lib.itoa sq), txt (textC ds), txt (textL nc nr), nm].map (·.data.toList)) [32] = textCh ⟨ac, ar, sq, ds, 4, nc, nr, pc, pr, fc, fr, nm, vl⟩ := by rw [textCh_4 _ rfl]; simp [txt, join_two, Lib.join_one]
    refine (joinW_any _ g12 c12 6 [txt (kindL 4), txt (textL ac ar), txt (Lib.itoa sq), txt (textC ds), txt (textL nc nr), nm] _ ST12.out.2.2.2 rfl (by omega) (by rw [hj]; have := HL.out; omega)).mono ?_
    rintro e wz ⟨rfl, hbz⟩
    have SZ := ST12.out.below hbz
    rw [hj]
    have bz := SZ.1.2.2
    clear SZ hbz hj ST12
    clear k_0 k_1 k_2 k_3 k_4 k_5 k_6 k_7 k_8 k_9 k_10 k_11 k_12 b_0 b_1 b_2 b_3
    go_wp2
    go_ret2
    exact ⟨rfl, bz⟩
  · rw [show hasNode 5 = true by decide, show hasPlace 5 = false by decide, show hasName 5 = false by decide, show hasValue 5 = true by decide]
    have ST0 : Hid (TxSt w [.int .i64 ac, .int .i64 ar, .int .i64 sq, dv, .int .i64 5, .int .i64 nc, .int .i64 nr, .int .i64 pc, .int .i64 pr, .int .i64 fc, .int .i64 fr, .string nm, .string vl] [.bool true, .bool false, .bool false, .bool true] w5.heap.size g4 4 4 [txt (kindL 5), txt (textL ac ar), txt (Lib.itoa sq), txt (textC ds)] (w5.alloc (.cells #[.bool true, .bool false, .bool false, .bool true] 45))) := ⟨K5.step ((Below.refl _ _).alloc (Nat.le_refl _) _), (KeptC.start w5 [.bool true, .bool false, .bool false, .bool true] _).1 |> fun a => ⟨a, by simp⟩, by omega, World.ownsRow.alloc HO5.out _⟩
    clear K5 HO5 hb5
    obtain ⟨k_0, k_1, k_2, k_3, k_4, k_5, k_6, k_7, k_8, k_9, k_10, k_11, k_12⟩ := ST0.out.1.all
    have b_0 := ST0.out.2.1.1 0 _ rfl
    have b_1 := ST0.out.2.1.1 1 _ rfl
    have b_2 := ST0.out.2.1.1 2 _ rfl
    have b_3 := ST0.out.2.1.1 3 _ rfl
    go_wp2_with fail
    refine (stampText_any nc nr _ (HEnv.out.below ST0.out.1.2.2)).mono ?_
    rintro e w10 ⟨rfl, hb10⟩
    have ST10 : Hid (TxSt w [.int .i64 ac, .int .i64 ar, .int .i64 sq, dv, .int .i64 5, .int .i64 nc, .int .i64 nr, .int .i64 pc, .int .i64 pr, .int .i64 fc, .int .i64 fr, .string nm, .string vl] [.bool true, .bool false, .bool false, .bool true] w5.heap.size g4 4 4 [txt (kindL 5), txt (textL ac ar), txt (Lib.itoa sq), txt (textC ds)] w10) := ST0.out.below hb10
    clear hb10 ST0
    clear k_0 k_1 k_2 k_3 k_4 k_5 k_6 k_7 k_8 k_9 k_10 k_11 k_12 b_0 b_1 b_2 b_3
    obtain ⟨k_0, k_1, k_2, k_3, k_4, k_5, k_6, k_7, k_8, k_9, k_10, k_11, k_12⟩ := ST10.out.1.all
    have b_0 := ST10.out.2.1.1 0 _ rfl
    have b_1 := ST10.out.2.1.1 1 _ rfl
    have b_2 := ST10.out.2.1.1 2 _ rfl
    have b_3 := ST10.out.2.1.1 3 _ rfl
    go_wp2_with (first
      | (at_builtin; have SA : Hid (TxSt w [.int .i64 ac, .int .i64 ar, .int .i64 sq, dv, .int .i64 5, .int .i64 nc, .int .i64 nr, .int .i64 pc, .int .i64 pr, .int .i64 fc, .int .i64 fr, .string nm, .string vl] [.bool true, .bool false, .bool false, .bool true] w5.heap.size g4 4 4 [txt (kindL 5), txt (textL ac ar), txt (Lib.itoa sq), txt (textC ds)] (w10.alloc (.cells #[Value.string (txt (textL nc nr))] 9))) := ST10.out.below ((Below.refl _ _).alloc (Nat.le_refl _) _); refine wpList_append_lies _ rfl _ _ 43 rfl (w.heap.size + 1) 9 i0 (.string ⟨#[]⟩) 1 16 Tryz.underlying43 hi hz0 hz1 hz2 rfl (by decide) _ _ _ rfl SA.out.2.2.2 ⟨w10.heap.size, 0, none⟩ 1 1 [Value.string (txt (textL nc nr))] rfl rfl (cell_one_new _ _ _) (fun x hx => by simp at hx; subst hx; rfl) (by decide) (by unfold maxLen; omega) (by omega) (by have := SA.out.1.2.2.size; have := SA.out.1.2.1; omega) _ rfl ?_; intro g11 c11 w11 ho11 hg11 hl11 ht11; have ST11 : Hid (TxSt w [.int .i64 ac, .int .i64 ar, .int .i64 sq, dv, .int .i64 5, .int .i64 nc, .int .i64 nr, .int .i64 pc, .int .i64 pr, .int .i64 fc, .int .i64 fr, .string nm, .string vl] [.bool true, .bool false, .bool false, .bool true] w5.heap.size g11 c11 5 [txt (kindL 5), txt (textL ac ar), txt (Lib.itoa sq), txt (textC ds), txt (textL nc nr)] w11) := SA.out.app ho11 hg11 hl11; clear SA ho11 hg11 hl11 ht11; clear k_0 k_1 k_2 k_3 k_4 k_5 k_6 k_7 k_8 k_9 k_10 k_11 k_12 b_0 b_1 b_2 b_3; obtain ⟨k_0, k_1, k_2, k_3, k_4, k_5, k_6, k_7, k_8, k_9, k_10, k_11, k_12⟩ := ST11.out.1.all; have b_0 := ST11.out.2.1.1 0 _ rfl; have b_1 := ST11.out.2.1.1 1 _ rfl; have b_2 := ST11.out.2.1.1 2 _ rfl; have b_3 := ST11.out.2.1.1 3 _ rfl))
    go_wp2_with fail
    refine (quote_any vl (by omega) _).mono ?_
    rintro e w12 ⟨rfl, hb12⟩
    have ST12 : Hid (TxSt w [.int .i64 ac, .int .i64 ar, .int .i64 sq, dv, .int .i64 5, .int .i64 nc, .int .i64 nr, .int .i64 pc, .int .i64 pr, .int .i64 fc, .int .i64 fr, .string nm, .string vl] [.bool true, .bool false, .bool false, .bool true] w5.heap.size g11 c11 5 [txt (kindL 5), txt (textL ac ar), txt (Lib.itoa sq), txt (textC ds), txt (textL nc nr)] w12) := ST11.out.below hb12
    clear hb12 ST11
    clear k_0 k_1 k_2 k_3 k_4 k_5 k_6 k_7 k_8 k_9 k_10 k_11 k_12 b_0 b_1 b_2 b_3
    obtain ⟨k_0, k_1, k_2, k_3, k_4, k_5, k_6, k_7, k_8, k_9, k_10, k_11, k_12⟩ := ST12.out.1.all
    have b_0 := ST12.out.2.1.1 0 _ rfl
    have b_1 := ST12.out.2.1.1 1 _ rfl
    have b_2 := ST12.out.2.1.1 2 _ rfl
    have b_3 := ST12.out.2.1.1 3 _ rfl
    go_wp2_with (first
      | (at_builtin; have SA : Hid (TxSt w [.int .i64 ac, .int .i64 ar, .int .i64 sq, dv, .int .i64 5, .int .i64 nc, .int .i64 nr, .int .i64 pc, .int .i64 pr, .int .i64 fc, .int .i64 fr, .string nm, .string vl] [.bool true, .bool false, .bool false, .bool true] w5.heap.size g11 c11 5 [txt (kindL 5), txt (textL ac ar), txt (Lib.itoa sq), txt (textC ds), txt (textL nc nr)] (w12.alloc (.cells #[Value.string (txt (quoteL vl.data.toList))] 9))) := ST12.out.below ((Below.refl _ _).alloc (Nat.le_refl _) _); refine wpList_append_lies _ rfl _ _ 43 rfl (w.heap.size + 1) 9 i0 (.string ⟨#[]⟩) 1 16 Tryz.underlying43 hi hz0 hz1 hz2 rfl (by decide) _ _ _ rfl SA.out.2.2.2 ⟨w12.heap.size, 0, none⟩ 1 1 [Value.string (txt (quoteL vl.data.toList))] rfl rfl (cell_one_new _ _ _) (fun x hx => by simp at hx; subst hx; rfl) (by decide) (by unfold maxLen; omega) (by omega) (by have := SA.out.1.2.2.size; have := SA.out.1.2.1; omega) _ rfl ?_; intro g13 c13 w13 ho13 hg13 hl13 ht13; have ST13 : Hid (TxSt w [.int .i64 ac, .int .i64 ar, .int .i64 sq, dv, .int .i64 5, .int .i64 nc, .int .i64 nr, .int .i64 pc, .int .i64 pr, .int .i64 fc, .int .i64 fr, .string nm, .string vl] [.bool true, .bool false, .bool false, .bool true] w5.heap.size g13 c13 6 [txt (kindL 5), txt (textL ac ar), txt (Lib.itoa sq), txt (textC ds), txt (textL nc nr), txt (quoteL vl.data.toList)] w13) := SA.out.app ho13 hg13 hl13; clear SA ho13 hg13 hl13 ht13; clear k_0 k_1 k_2 k_3 k_4 k_5 k_6 k_7 k_8 k_9 k_10 k_11 k_12 b_0 b_1 b_2 b_3; obtain ⟨k_0, k_1, k_2, k_3, k_4, k_5, k_6, k_7, k_8, k_9, k_10, k_11, k_12⟩ := ST13.out.1.all; have b_0 := ST13.out.2.1.1 0 _ rfl; have b_1 := ST13.out.2.1.1 1 _ rfl; have b_2 := ST13.out.2.1.1 2 _ rfl; have b_3 := ST13.out.2.1.1 3 _ rfl))
    go_wp2_with fail
    have hj : Lib.join ([txt (kindL 5), txt (textL ac ar), txt (Lib.itoa sq), txt (textC ds), txt (textL nc nr), txt (quoteL vl.data.toList)].map (·.data.toList)) [32] = textCh ⟨ac, ar, sq, ds, 5, nc, nr, pc, pr, fc, fr, nm, vl⟩ := by rw [textCh_5 _ rfl]; simp [txt, join_two, Lib.join_one]
    refine (joinW_any _ g13 c13 6 [txt (kindL 5), txt (textL ac ar), txt (Lib.itoa sq), txt (textC ds), txt (textL nc nr), txt (quoteL vl.data.toList)] _ ST13.out.2.2.2 rfl (by omega) (by rw [hj]; have := HL.out; omega)).mono ?_
    rintro e wz ⟨rfl, hbz⟩
    have SZ := ST13.out.below hbz
    rw [hj]
    have bz := SZ.1.2.2
    clear SZ hbz hj ST13
    clear k_0 k_1 k_2 k_3 k_4 k_5 k_6 k_7 k_8 k_9 k_10 k_11 k_12 b_0 b_1 b_2 b_3
    go_wp2
    go_ret2
    exact ⟨rfl, bz⟩

set_option maxRecDepth 100000 in
set_option maxHeartbeats 4000000 in
/-- change.Text. -/
theorem textCh_any (ac ar sq : Int) (dv : Value) (kd nc nr pc pr fc fr : Int) (nm vl : ByteArray) (ds : List Int) (hs : nm.size ≤ 281474976710656) (w : World) (h1 : IsI w dv ds) (he : Env w) :
    Calls Tryz.prog 5 #[.agg #[.int .i64 ac, .int .i64 ar, .int .i64 sq, dv, .int .i64 kd, .int .i64 nc, .int .i64 nr, .int .i64 pc, .int .i64 pr, .int .i64 fc, .int .i64 fr, .string nm, .string vl]] w fun e w' => e = .returned (.tuple #[.string (txt (if checkCh ⟨ac, ar, sq, ds, kd, nc, nr, pc, pr, fc, fr, nm, vl⟩ = 0 then textCh ⟨ac, ar, sq, ds, kd, nc, nr, pc, pr, fc, fr, nm, vl⟩ else [])), .int .i64 (checkCh ⟨ac, ar, sq, ds, kd, nc, nr, pc, pr, fc, fr, nm, vl⟩)]) ∧ Below w.heap.size w w' := by
  by_cases hc : checkCh ⟨ac, ar, sq, ds, kd, nc, nr, pc, pr, fc, fr, nm, vl⟩ = 0
  · rw [if_pos hc, hc]
    exact textCh_ok ac ar sq dv kd nc nr pc pr fc fr nm vl ds hs w h1 he hc
  · rw [if_neg hc]
    have K0 := KeptC.start w #[.int .i64 ac, .int .i64 ar, .int .i64 sq, dv, .int .i64 kd, .int .i64 nc, .int .i64 nr, .int .i64 pc, .int .i64 pr, .int .i64 fc, .int .i64 fr, .string nm, .string vl].toList 26
    have H1 : Hid (IsI w dv ds) := h1
    have q : (checkCh ⟨ac, ar, sq, ds, kd, nc, nr, pc, pr, fc, fr, nm, vl⟩ != 0) = true := by simp [hc]
    clear h1 he hc
    go_enter Tryz.func5, Tryz.ntmps5
    go_wp2_with fail
    refine (checkCh_any ac ar sq dv kd nc nr pc pr fc fr nm vl ds hs _ (H1.out.below K0.2.2)).mono ?_
    rintro e w1 ⟨rfl, hb1⟩
    have K1 := K0.step hb1
    clear hb1
    go_wp2
    go_ret2
    exact ⟨rfl, K1.2.2⟩

end Go.Proofs.YtaocjmipjibiaabGreatDoor
