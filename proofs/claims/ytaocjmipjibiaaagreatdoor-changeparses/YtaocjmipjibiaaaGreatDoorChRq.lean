/- What the document's plain, digit and Quote make of any text. -/
import Derived.Test.YtaocjmipjibiaaaGreatDoorChQ
namespace Go.Proofs.YtaocjmipjibiaaaGreatDoor
open Go.RowKit
set_option linter.unusedVariables false
set_option linter.unusedSimpArgs false

set_option maxHeartbeats 1000000 in
theorem refPlain_any (b : UInt8) (w : World) :
    Calls Tryz.prog 53 #[.int .u8 (b.toNat : Int)] w fun e w' => e = .returned (.bool (plainB b)) ∧ w' = w := by
  rw [plainB_eq]
  by_cases h0 : (32 : Int) ≤ (b.toNat : Int)
  · by_cases h1 : (b.toNat : Int) ≤ 126
    · cases h2 : ((b.toNat : Int) != 34)
      · go_enter Tryz.func53, Tryz.ntmps53
        go_wp2
        go_ret
        exact ⟨ret_bool (by simp [h0, h1]), rfl⟩
      · go_enter Tryz.func53, Tryz.ntmps53
        go_wp2
        go_ret
        exact ⟨ret_bool (by simp [h0, h1]), rfl⟩
    · go_enter Tryz.func53, Tryz.ntmps53
      go_wp2
      go_ret
      exact ⟨ret_bool (by rw [decide_eq_false (show ¬ (b.toNat : Int) ≤ 126 by omega)]; simp), rfl⟩
  · go_enter Tryz.func53, Tryz.ntmps53
    go_wp2
    go_ret
    exact ⟨ret_bool (by rw [decide_eq_false (show ¬ (32 : Int) ≤ (b.toNat : Int) by omega)]; simp), rfl⟩

theorem hexC_low {n : Nat} (h : n < 10) : ((hexC n).toNat : Int) = 48 + (n : Int) := by
  unfold hexC
  rw [if_pos h, UInt8.toNat_ofNat', Nat.mod_eq_of_lt (by omega)]
  omega
theorem hexC_high {n : Nat} (h : ¬ n < 10) (h2 : n < 16) : ((hexC n).toNat : Int) = 97 + (n : Int) - 10 := by
  unfold hexC
  rw [if_neg h, UInt8.toNat_ofNat', Nat.mod_eq_of_lt (by omega)]
  omega

set_option maxHeartbeats 1000000 in
theorem refDigit_any (n : Nat) (h : n < 16) (w : World) :
    Calls Tryz.prog 54 #[.int .u8 (n : Int)] w fun e w' => e = .returned (.int .u8 ((hexC n).toNat : Int)) ∧ w' = w := by
  by_cases h10 : n < 10
  · rw [hexC_low h10]
    have q : (n : Int) < 10 := by omega
    have r : IntKind.u8.wrap (48 + (n : Int)) = 48 + (n : Int) := by rw [IntKind.wrap_u8]; omega
    go_enter Tryz.func54, Tryz.ntmps54
    go_wp2
    go_ret
    exact ⟨rfl, rfl⟩
  · rw [hexC_high h10 h]
    have q : ¬ (n : Int) < 10 := by omega
    have r : IntKind.u8.wrap (97 + (n : Int)) = 97 + (n : Int) := by rw [IntKind.wrap_u8]; omega
    have r2 : IntKind.u8.wrap (97 + (n : Int) - 10) = 97 + (n : Int) - 10 := by rw [IntKind.wrap_u8]; omega
    go_enter Tryz.func54, Tryz.ntmps54
    go_wp2
    go_ret
    exact ⟨by first | rfl | (simp only [Array.getD]; congr 2; omega), rfl⟩

set_option maxHeartbeats 4000000 in
set_option maxRecDepth 100000 in
/-- The document's Quote. -/
theorem refQuote_any (s : ByteArray) (hs : s.size ≤ 35184372088832) (w : World) :
    Calls Tryz.prog 26 #[.string s] w fun e w' => e = .returned (.string (txt (quoteL s.data.toList))) ∧ Below w.heap.size w w' := by
  obtain ⟨i0, hi, hz0, hz1, hz2⟩ := info_parts infoByte
  have hsl : s.data.toList.length = s.size := by simp
  have HSL : Hid (s.data.toList.length = s.size) := hsl
  clear hsl
  have HO0 : Hid (OwnB w.heap.size (w.alloc (.cells #[.int .u8 34] 5)) (.slice (some ⟨w.heap.size, 0, none⟩) 1 1) (34 :: bodyL (s.data.toList.take 0))) := OwnB.made w [34] _ rfl (by simp) (Nat.le_refl _)
  have HB0 : Hid (Below w.heap.size w (w.alloc (.cells #[.int .u8 34] 5))) := (Below.refl _ _).alloc (Nat.le_refl _) _
  go_enter Tryz.func26, Tryz.ntmps26
  go_wp2
  go_loopw [3, 4] (fun ov i wr => ∃ k : Nat, k ≤ s.size ∧ i = .int .i64 (k : Int) ∧ Hid (OwnB w.heap.size wr ov (34 :: bodyL (s.data.toList.take k))) ∧ Hid (Below w.heap.size w wr)) (fun _ i _ => s.size - (intOf i).toNat)
  case atStart => exact ⟨0, Nat.zero_le _, rfl, HO0, HB0⟩
  case round =>
    obtain ⟨k, hk, rfl, HO, HB⟩ := hrel
    have hsz := HB.out.size
    obtain ⟨ao, co, e0⟩ := HO.out.form
    have hlen : (34 :: bodyL (s.data.toList.take k)).length ≤ 3 * k + 1 := by
      have := (bodyL_len (s.data.toList.take k)).2
      rw [List.length_take] at this
      rw [List.length_cons]
      omega
    by_cases hlt : k < s.size
    · have k1 : (k : Int) < (s.size : Int) := by omega
      have k0 : (0 : Int) ≤ (k : Int) := by omega
      have hkl : k < s.data.toList.length := by rw [HSL.out]; exact hlt
      have HTS : Hid (34 :: bodyL (s.data.toList.take (k + 1)) = (34 :: bodyL (s.data.toList.take k)) ++ escL s[k]) := by
        show _ = _
        rw [List.take_succ_eq_append_getElem hkl, bodyL_snoc]
        rfl
      generalize 34 :: bodyL (s.data.toList.take k) = D at *
      subst e0
      cases hp : plainB s[k]
      · have HTE : Hid (escL s[k] = [92, hexC (s[k].toNat / 16), hexC (s[k].toNat % 16)]) := escL_not hp
        have hx := s[k].toNat_lt
        have HW1 : Hid (IntKind.u8.wrap ((s[k].toNat : Int) / 16) = ((s[k].toNat / 16 : Nat) : Int)) := by show _ = _; rw [IntKind.wrap_u8]; omega
        have HW2 : Hid ((s[k].toNat : Int).tmod 16 = ((s[k].toNat % 16 : Nat) : Int)) := by show _ = _; rw [Int.tmod_eq_emod_of_nonneg (by omega)]; omega
        have HN1 : Hid (s[k].toNat / 16 < 16) := by show _ < _; omega
        have HN2 : Hid (s[k].toNat % 16 < 16) := by show _ < _; omega
        go_wp2_with fail
        refine (refPlain_any _ _).mono ?_
        rintro e w' ⟨rfl, hw⟩
        replace hw := hw.symm
        subst hw
        rw [hp]
        go_wp2_with fail
        refine wp_region_held_drew (S := fun W' => Below w.heap.size w W') (by kernel_rfl) HB.out.drew (fun hHeld => ?_)
        refine wpAnyH_take (i := 0) (oi := ⟨some 22, _, _, _, _, _⟩) (v := ?vqx0) rfl (by kernel_rfl) (by kernel_rfl) (by kernel_rfl) (fun _ _ _ h => h) (Or.inl ⟨by rfl, ?hyqx0⟩) hHeld ?restqx0
        case hyqx0 => (intro w hSw; (try dsimp only at hSw); go_simp; try with_reducible rfl)
        simp only [Act.put, List.setIfInBounds_toArray, List.set_cons_zero, List.set_cons_succ]
        refine wpAnyH_take (i := 1) (oi := ⟨some 23, _, _, _, _, _⟩) (v := ?vqx1) rfl (by kernel_rfl) (by kernel_rfl) (by kernel_rfl) (fun _ _ _ h => h) (Or.inl ⟨by rfl, ?hyqx1⟩) hHeld ?restqx1
        case hyqx1 => (intro w hSw; (try dsimp only at hSw); go_simp; try with_reducible rfl)
        simp only [Act.put, List.setIfInBounds_toArray, List.set_cons_zero, List.set_cons_succ]
        refine wpAnyH_take (i := 2) (oi := ⟨some 24, _, _, _, _, _⟩) (v := ?vqx2) rfl (by kernel_rfl) (by kernel_rfl) (by kernel_rfl) (fun _ _ _ h => h) (Or.inl ⟨by rfl, ?hyqx2⟩) hHeld ?restqx2
        case hyqx2 => (intro w hSw; (try dsimp only at hSw); go_simp; try with_reducible rfl)
        simp only [Act.put, List.setIfInBounds_toArray, List.set_cons_zero, List.set_cons_succ]
        refine wpAnyH_take (i := 3) (oi := ⟨some 25, _, _, _, _, _⟩) (v := ?vqx3) rfl (by kernel_rfl) (by kernel_rfl) (by kernel_rfl) (fun _ _ _ h => h) (Or.inl ⟨by rfl, ?hyqx3⟩) hHeld ?restqx3
        case hyqx3 => (intro w hSw; (try dsimp only at hSw); go_simp; try with_reducible rfl)
        simp only [Act.put, List.setIfInBounds_toArray, List.set_cons_zero, List.set_cons_succ]
        refine wpAnyH_take (i := 4) (oi := ⟨some 26, _, _, _, _, _⟩) (v := ?vqx4) rfl (by kernel_rfl) (by kernel_rfl) (by kernel_rfl) (fun _ _ _ h => h) (Or.inl ⟨by rfl, ?hyqx4⟩) hHeld ?restqx4
        case hyqx4 => (intro w hSw; (try dsimp only at hSw); go_simp; try with_reducible rfl)
        simp only [Act.put, List.setIfInBounds_toArray, List.set_cons_zero, List.set_cons_succ]
        refine wpAnyH_take (i := 6) (oi := ⟨some 28, _, _, _, _, _⟩) (v := ?vqx6) rfl (by kernel_rfl) (by kernel_rfl) (by kernel_rfl) (fun _ _ _ h => h) (Or.inl ⟨by rfl, ?hyqx6⟩) hHeld ?restqx6
        case hyqx6 => (intro w hSw; (try dsimp only at hSw); go_simp; try with_reducible rfl)
        simp only [Act.put, List.setIfInBounds_toArray, List.set_cons_zero, List.set_cons_succ]
        refine wpAnyH_take (i := 7) (oi := ⟨some 29, _, _, _, _, _⟩) (v := ?vqx7) rfl (by kernel_rfl) (by kernel_rfl) (by kernel_rfl) (fun _ _ _ h => h) (Or.inl ⟨by rfl, ?hyqx7⟩) hHeld ?restqx7
        case hyqx7 => (intro w hSw; (try dsimp only at hSw); go_simp; try with_reducible rfl)
        simp only [Act.put, List.setIfInBounds_toArray, List.set_cons_zero, List.set_cons_succ]
        refine wpAnyH_take (i := 8) (oi := ⟨some 30, _, _, _, _, _⟩) (v := ?vqx8) rfl (by kernel_rfl) (by kernel_rfl) (by kernel_rfl) (fun _ _ _ h => h) (Or.inl ⟨by rfl, ?hyqx8⟩) hHeld ?restqx8
        case hyqx8 => (intro w hSw; (try dsimp only at hSw); go_simp; try with_reducible rfl)
        simp only [Act.put, List.setIfInBounds_toArray, List.set_cons_zero, List.set_cons_succ]
        refine wpAnyH_take (i := 9) (oi := ⟨some 31, _, _, _, _, _⟩) (v := ?vqx9) rfl (by kernel_rfl) (by kernel_rfl) (by kernel_rfl) (fun _ _ _ h => h) (Or.inl ⟨by rfl, ?hyqx9⟩) hHeld ?restqx9
        case hyqx9 => (intro w hSw; (try dsimp only at hSw); go_simp; try with_reducible rfl)
        simp only [Act.put, List.setIfInBounds_toArray, List.set_cons_zero, List.set_cons_succ]
        refine wpAnyH_ready (rs := [5]) (by kernel_rfl) (by simp) ?_
        refine AllReadyH.cons (o := ⟨some 27, _, _, _, _, _⟩) rfl (fun K hK => ?_) AllReadyH.nil
        go_simp
        rw [HW1.out]
        refine (refDigit_any (s[k].toNat / 16) HN1.out _).mono ?_
        rintro e w' ⟨rfl, hw⟩
        replace hw := hw.symm
        subst hw
        (try go_wp2_with fail)
        refine hK.out _ _ (hHeld) (fun hHeld2 => ?_)
        clear hK K hHeld
        have hHeld := hHeld2
        clear hHeld2
        (try simp only [Act.put, List.setIfInBounds_toArray, List.set_cons_zero, List.set_cons_succ])
        refine wpAnyH_ready (rs := [10]) (by kernel_rfl) (by simp) ?_
        refine AllReadyH.cons (o := ⟨some 32, _, _, _, _, _⟩) rfl (fun K hK => ?_) AllReadyH.nil
        go_simp
        rw [HW2.out]
        refine (refDigit_any (s[k].toNat % 16) HN2.out _).mono ?_
        rintro e w' ⟨rfl, hw⟩
        replace hw := hw.symm
        subst hw
        (try go_wp2_with fail)
        refine hK.out _ _ (hHeld) (fun hHeld2 => ?_)
        clear hK K hHeld
        have hHeld := hHeld2
        clear hHeld2
        (try simp only [Act.put, List.setIfInBounds_toArray, List.set_cons_zero, List.set_cons_succ])
        refine wpAnyH_ready (rs := [11]) (by kernel_rfl) (by simp) ?_
        refine AllReadyH.cons (o := ⟨some 33, _, _, _, _, _⟩) rfl (fun K hK => ?_) AllReadyH.nil
        go_simp
        have hPrev := hHeld
        refine hK.out _ _ (hPrev.alloc hPrev.size _) (fun hHeld2 => ?_)
        clear hK K hHeld
        have hHeld := hHeld2
        clear hHeld2
        (try simp only [Act.put, List.setIfInBounds_toArray, List.set_cons_zero, List.set_cons_succ])
        refine wpAnyH_ready (rs := [12]) (by kernel_rfl) (by simp) ?_
        refine AllReadyH.cons (o := ⟨some 34, _, _, _, _, _⟩) rfl (fun K hK => ?_) AllReadyH.nil
        refine step_appS (by rfl) _ _ (by rfl) w.heap.size (.slice ao D.length co) D (by rfl) (World.ownsRow.alloc (OwnB.drew HO.out) _) (by simp; omega) ⟨wr.heap.size, 0, none⟩ 3 3 [92, hexC (s[k].toNat / 16), hexC (s[k].toNat % 16)] (by rfl) (isB_new3 wr.drew _ _ _) (by simp; omega) ?_
        intro v3 w3 ho3 hg3
        refine hK.out _ _ ((HB.out.drew.alloc (by simp; omega) _).grown hg3 (by simp; omega) (fun j e => HO.out.block j e)) (fun hHeld2 => ?_)
        clear hK K hHeld
        have hHeld := hHeld2
        clear hHeld2
        (try simp only [Act.put, List.setIfInBounds_toArray, List.set_cons_zero, List.set_cons_succ])
        refine wpAnyH_take (i := 13) (oi := ⟨some 3, _, _, _, _, _⟩) (v := ?vq_5_10_11_12x13) rfl (by kernel_rfl) (by kernel_rfl) (by kernel_rfl) (fun _ _ _ h => h) (Or.inl ⟨by rfl, ?hyq_5_10_11_12x13⟩) hHeld ?restq_5_10_11_12x13
        case hyq_5_10_11_12x13 => (intro w hSw; (try dsimp only at hSw); go_simp; try with_reducible rfl)
        simp only [Act.put, List.setIfInBounds_toArray, List.set_cons_zero, List.set_cons_succ]
        refine wpAnyH_done (by kernel_rfl) ?_ _
        have HO3 : Hid (OwnB w.heap.size w3 v3 (D ++ [92, hexC (s[k].toNat / 16), hexC (s[k].toNat % 16)])) := ho3
        have HB3 : Hid (Below w.heap.size w w3) := hHeld
        clear hHeld ho3 hg3 hPrev
        go_wp2
        go_roundw
        case rel =>
          refine ⟨k + 1, by omega, by go_num, ?_, HB3⟩
          show OwnB _ _ _ _
          rw [HTS.out, HTE.out]
          exact HO3.out
        case measure => simp [intOf]; omega
      · have HTE : Hid (escL s[k] = [s[k]]) := escL_plain hp
        go_wp2_with fail
        refine (refPlain_any _ _).mono ?_
        rintro e w' ⟨rfl, hw⟩
        replace hw := hw.symm
        subst hw
        rw [hp]
        go_wp2_with (at_builtin; refine wpList_append_own _ rfl _ _ 56 rfl w.heap.size 5 i0 (.int .u8 0) 1 1 Tryz.underlying56 hi hz0 hz1 hz2 rfl (by decide) _ _ _ rfl (World.ownsRow.alloc HO.out _) ⟨wr.heap.size, 0, none⟩ 1 1 [_] rfl rfl (cell_one_new _ _ _) (fun x hx => by simp at hx; subst hx; rfl) (by unfold maxLen; simp; omega) (by simp; omega) (by simp; omega) ?_; intro v' w3 hown' hgrow3 hnil3)
        go_roundw
        case rel =>
          refine ⟨k + 1, by omega, by go_num, ?_, (HB.out.alloc (by omega) _).grown hgrow3 (by simp; omega) (fun j e => HO.out.block j e)⟩
          show OwnB _ _ _ _
          rw [HTS.out, HTE.out]
          exact OwnB.more hown' rfl rfl
        case measure => simp [intOf]; omega
    · obtain rfl : k = s.size := by omega
      have HTK : Hid (quoteL s.data.toList = (34 :: bodyL (s.data.toList.take s.size)) ++ [34]) := by
        show _ = _
        rw [List.take_of_length_le (by rw [HSL.out]; exact Nat.le_refl _)]
        rfl
      generalize 34 :: bodyL (s.data.toList.take s.size) = D at *
      subst e0
      go_wp2_with (at_builtin; refine wpList_append_own _ rfl _ _ 56 rfl w.heap.size 5 i0 (.int .u8 0) 1 1 Tryz.underlying56 hi hz0 hz1 hz2 rfl (by decide) _ _ _ rfl (World.ownsRow.alloc HO.out _) ⟨wr.heap.size, 0, none⟩ 1 1 [_] rfl rfl (cell_one_new _ _ _) (fun x hx => by simp at hx; subst hx; rfl) (by unfold maxLen; simp; omega) (by simp; omega) (by simp; omega) ?_; intro v' w3 hown' hgrow3 hnil3; have HO3 : Hid (OwnB w.heap.size w3 v' (D ++ [34])) := OwnB.more hown' rfl rfl; have cv := conv_txt (HO3.out.isB (by simp; omega)))
      go_ret
      exact ⟨congrArg (fun x => Ending.returned (Value.string (txt x))) HTK.out.symm, (HB.out.alloc (by omega) _).grown hgrow3 (by simp; omega) (fun j e => HO.out.block j e)⟩

end Go.Proofs.YtaocjmipjibiaaaGreatDoor
