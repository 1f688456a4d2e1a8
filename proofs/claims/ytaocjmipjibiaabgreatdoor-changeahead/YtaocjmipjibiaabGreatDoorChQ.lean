/- What isPlain and Quote make of any text. -/
import Derived.Test.YtaocjmipjibiaabGreatDoorRowY
import Derived.Test.YtaocjmipjibiaabGreatDoorPlainQ
import Derived.Test.YtaocjmipjibiaabGreatDoorWalksA
import Derived.Deep.RegionHeld
import Derived.Deep.SlicePairs
namespace Go.Proofs.YtaocjmipjibiaabGreatDoor
open Go.RowKit
set_option linter.unusedVariables false
set_option linter.unusedSimpArgs false

theorem plainB_eq (b : UInt8) : plainB b = (decide ((32 : Int) ≤ (b.toNat : Int)) && (decide ((b.toNat : Int) ≤ 126) && (((b.toNat : Int) != 34) && ((b.toNat : Int) != 92)))) := by
  unfold plainB; rw [Bool.eq_iff_iff]; simp; omega

set_option maxHeartbeats 1000000 in
theorem isPlain_any (b : UInt8) (w : World) :
    Calls Tryz.prog 41 #[.int .u8 (b.toNat : Int)] w fun e w' => e = .returned (.bool (plainB b)) ∧ w' = w := by
  rw [plainB_eq]
  by_cases h0 : (32 : Int) ≤ (b.toNat : Int)
  · by_cases h1 : (b.toNat : Int) ≤ 126
    · cases h2 : ((b.toNat : Int) != 34)
      · go_enter Tryz.func41, Tryz.ntmps41
        go_wp2
        go_ret
        exact ⟨ret_bool (by simp [h0, h1]), rfl⟩
      · go_enter Tryz.func41, Tryz.ntmps41
        go_wp2
        go_ret
        exact ⟨ret_bool (by simp [h0, h1]), rfl⟩
    · go_enter Tryz.func41, Tryz.ntmps41
      go_wp2
      go_ret
      exact ⟨ret_bool (by rw [decide_eq_false (show ¬ (b.toNat : Int) ≤ 126 by omega)]; simp), rfl⟩
  · go_enter Tryz.func41, Tryz.ntmps41
    go_wp2
    go_ret
    exact ⟨ret_bool (by rw [decide_eq_false (show ¬ (32 : Int) ≤ (b.toNat : Int) by omega)]; simp), rfl⟩

theorem OwnB.drew {B : Nat} {w : World} {v : Value} {D : List UInt8} (h : OwnB B w v D) : OwnB B w.drew v D := h.below (Below.refl _ _).drew
theorem isB_new3 (w : World) (a b c : UInt8) : IsB (w.alloc (.cells #[.int .u8 (a.toNat : Int), .int .u8 (b.toNat : Int), .int .u8 (c.toNat : Int)] 5)) (.slice (some ⟨w.heap.size, 0, none⟩) 3 3) [a, b, c] :=
  (OwnB.made w [a, b, c] _ rfl (by simp) (Nat.le_refl _)).isB (by simp)
/-- The digits of base 16, as a constant. -/
theorem hexIx (n : Nat) (hn : n < 16) (x : Int) (hx : x = (n : Int)) {h : x.toNat < (⟨#[48, 49, 50, 51, 52, 53, 54, 55, 56, 57, 97, 98, 99, 100, 101, 102]⟩ : ByteArray).size} :
    (⟨#[48, 49, 50, 51, 52, 53, 54, 55, 56, 57, 97, 98, 99, 100, 101, 102]⟩ : ByteArray)[x.toNat]'h = hexC n := by
  subst hx
  have key : ∀ m : Fin 16, (⟨#[48, 49, 50, 51, 52, 53, 54, 55, 56, 57, 97, 98, 99, 100, 101, 102]⟩ : ByteArray)[m.1]'m.2 = hexC m.1 := by decide
  exact key ⟨n, hn⟩

set_option maxHeartbeats 4000000 in
set_option maxRecDepth 100000 in
/-- change.Quote. -/
theorem quote_any (s : ByteArray) (hs : s.size ≤ 35184372088832) (w : World) :
    Calls Tryz.prog 19 #[.string s] w fun e w' => e = .returned (.string (txt (quoteL s.data.toList))) ∧ Below w.heap.size w w' := by
  obtain ⟨i0, hi, hz0, hz1, hz2⟩ := info_parts infoByte
  have hsl : s.data.toList.length = s.size := by simp
  have HSL : Hid (s.data.toList.length = s.size) := hsl
  clear hsl
  have HO0 : Hid (OwnB w.heap.size (w.alloc (.cells #[.int .u8 34] 5)) (.slice (some ⟨w.heap.size, 0, none⟩) 1 1) (34 :: bodyL (s.data.toList.take 0))) := OwnB.made w [34] _ rfl (by simp) (Nat.le_refl _)
  have HB0 : Hid (Below w.heap.size w (w.alloc (.cells #[.int .u8 34] 5))) := (Below.refl _ _).alloc (Nat.le_refl _) _
  go_enter Tryz.func19, Tryz.ntmps19
  go_wp2
  go_loopw [3, 8] (fun ov i wr => ∃ k : Nat, k ≤ s.size ∧ i = .int .i64 (k : Int) ∧ Hid (OwnB w.heap.size wr ov (34 :: bodyL (s.data.toList.take k))) ∧ Hid (Below w.heap.size w wr)) (fun _ i _ => s.size - (intOf i).toNat)
  case atStart => exact ⟨0, Nat.zero_le _, rfl, HO0, HB0⟩
  case round =>
    obtain ⟨k, hk, rfl, HO, HB⟩ := hrel
    have hsz := HB.out.size
    obtain ⟨ao, co, e0⟩ := HO.out.form
    have hlen : (34 :: bodyL (s.data.toList.take k)).length ≤ 3 * k + 1 := by
      have := (bodyL_len (s.data.toList.take k)).2
      rw [List.length_take] at this
      rw [List.length_cons]
      omega
    by_cases hlt : k < s.size
    · have k1 : (k : Int) < (s.size : Int) := by omega
      have k0 : (0 : Int) ≤ (k : Int) := by omega
      have hkl : k < s.data.toList.length := by rw [HSL.out]; exact hlt
      have HTS : Hid (34 :: bodyL (s.data.toList.take (k + 1)) = (34 :: bodyL (s.data.toList.take k)) ++ escL s[k]) := by
        show _ = _
        rw [List.take_succ_eq_append_getElem hkl, bodyL_snoc]
        rfl
      generalize 34 :: bodyL (s.data.toList.take k) = D at *
      subst e0
      cases hp : plainB s[k]
      · have HTE : Hid (escL s[k] = [92, hexC (s[k].toNat / 16), hexC (s[k].toNat % 16)]) := escL_not hp
        have hx := s[k].toNat_lt
        have HW1 : Hid (IntKind.u8.wrap ((s[k].toNat : Int) / 16) = ((s[k].toNat / 16 : Nat) : Int)) := by show _ = _; rw [IntKind.wrap_u8]; omega
        have HW2 : Hid ((s[k].toNat : Int).tmod 16 = ((s[k].toNat % 16 : Nat) : Int)) := by show _ = _; rw [Int.tmod_eq_emod_of_nonneg (by omega)]; omega
        have HN1 : Hid (s[k].toNat / 16 < 16) := by show _ < _; omega
        have HN2 : Hid (s[k].toNat % 16 < 16) := by show _ < _; omega
        have HX1 : Hid (IntKind.u8.wrap ((s[k].toNat : Int) / 16) < 16) := by show _ < _; rw [HW1.out]; omega
        have HX2 : Hid (0 ≤ (s[k].toNat : Int).tmod 16 ∧ (s[k].toNat : Int).tmod 16 < 16) := by show _ ∧ _; rw [HW2.out]; omega
        go_wp2_with fail
        refine (isPlain_any _ _).mono ?_
        rintro e w' ⟨rfl, hw⟩
        replace hw := hw.symm
        subst hw
        rw [hp]
        go_wp2_with fail
        -- REGION
        refine wp_region_held_drew (S := fun W' => Below w.heap.size w W') (by kernel_rfl) HB.out.drew (fun hHeld => ?_)
        refine wpAnyH_take (i := 0) (oi := ⟨some 21, _, _, _, _, _⟩) (v := ?vqx0) rfl (by kernel_rfl) (by kernel_rfl) (by kernel_rfl) (fun _ _ _ h => h) (Or.inl ⟨by rfl, ?hyqx0⟩) hHeld ?restqx0
        case hyqx0 => (intro w hSw; (try dsimp only at hSw); go_simp; try with_reducible rfl)
        simp only [Act.put, List.setIfInBounds_toArray, List.set_cons_zero, List.set_cons_succ]
        refine wpAnyH_take (i := 1) (oi := ⟨some 22, _, _, _, _, _⟩) (v := ?vqx1) rfl (by kernel_rfl) (by kernel_rfl) (by kernel_rfl) (fun _ _ _ h => h) (Or.inl ⟨by rfl, ?hyqx1⟩) hHeld ?restqx1
        case hyqx1 => (intro w hSw; (try dsimp only at hSw); go_simp; try with_reducible rfl)
        simp only [Act.put, List.setIfInBounds_toArray, List.set_cons_zero, List.set_cons_succ]
        refine wpAnyH_take (i := 2) (oi := ⟨some 23, _, _, _, _, _⟩) (v := ?vqx2) rfl (by kernel_rfl) (by kernel_rfl) (by kernel_rfl) (fun _ _ _ h => h) (Or.inl ⟨by rfl, ?hyqx2⟩) hHeld ?restqx2
        case hyqx2 => (intro w hSw; (try dsimp only at hSw); go_simp; try with_reducible rfl)
        simp only [Act.put, List.setIfInBounds_toArray, List.set_cons_zero, List.set_cons_succ]
        refine wpAnyH_take (i := 3) (oi := ⟨some 24, _, _, _, _, _⟩) (v := ?vqx3) rfl (by kernel_rfl) (by kernel_rfl) (by kernel_rfl) (fun _ _ _ h => h) (Or.inl ⟨by rfl, ?hyqx3⟩) hHeld ?restqx3
        case hyqx3 => (intro w hSw; (try dsimp only at hSw); go_simp; try with_reducible rfl)
        simp only [Act.put, List.setIfInBounds_toArray, List.set_cons_zero, List.set_cons_succ]
        refine wpAnyH_take (i := 4) (oi := ⟨some 25, _, _, _, _, _⟩) (v := ?vqx4) rfl (by kernel_rfl) (by kernel_rfl) (by kernel_rfl) (fun _ _ _ h => h) (Or.inl ⟨by rfl, ?hyqx4⟩) hHeld ?restqx4
        case hyqx4 => (intro w hSw; (try dsimp only at hSw); go_simp; try with_reducible rfl)
        simp only [Act.put, List.setIfInBounds_toArray, List.set_cons_zero, List.set_cons_succ]
        refine wpAnyH_take (i := 5) (oi := ⟨some 26, _, _, _, _, _⟩) (v := ?vqx5) rfl (by kernel_rfl) (by kernel_rfl) (by kernel_rfl) (fun _ _ _ h => h) (Or.inl ⟨by rfl, ?hyqx5⟩) hHeld ?restqx5
        case hyqx5 => (intro w hSw; (try dsimp only at hSw); go_simp; rw [dif_pos HX1.out, hexIx _ HN1.out _ HW1.out]; rfl)
        simp only [Act.put, List.setIfInBounds_toArray, List.set_cons_zero, List.set_cons_succ]
        refine wpAnyH_take (i := 6) (oi := ⟨some 27, _, _, _, _, _⟩) (v := ?vqx6) rfl (by kernel_rfl) (by kernel_rfl) (by kernel_rfl) (fun _ _ _ h => h) (Or.inl ⟨by rfl, ?hyqx6⟩) hHeld ?restqx6
        case hyqx6 => (intro w hSw; (try dsimp only at hSw); go_simp; try with_reducible rfl)
        simp only [Act.put, List.setIfInBounds_toArray, List.set_cons_zero, List.set_cons_succ]
        refine wpAnyH_take (i := 7) (oi := ⟨some 28, _, _, _, _, _⟩) (v := ?vqx7) rfl (by kernel_rfl) (by kernel_rfl) (by kernel_rfl) (fun _ _ _ h => h) (Or.inl ⟨by rfl, ?hyqx7⟩) hHeld ?restqx7
        case hyqx7 => (intro w hSw; (try dsimp only at hSw); go_simp; try with_reducible rfl)
        simp only [Act.put, List.setIfInBounds_toArray, List.set_cons_zero, List.set_cons_succ]
        refine wpAnyH_take (i := 8) (oi := ⟨some 29, _, _, _, _, _⟩) (v := ?vqx8) rfl (by kernel_rfl) (by kernel_rfl) (by kernel_rfl) (fun _ _ _ h => h) (Or.inl ⟨by rfl, ?hyqx8⟩) hHeld ?restqx8
        case hyqx8 => (intro w hSw; (try dsimp only at hSw); go_simp; try with_reducible rfl)
        simp only [Act.put, List.setIfInBounds_toArray, List.set_cons_zero, List.set_cons_succ]
        refine wpAnyH_take (i := 9) (oi := ⟨some 30, _, _, _, _, _⟩) (v := ?vqx9) rfl (by kernel_rfl) (by kernel_rfl) (by kernel_rfl) (fun _ _ _ h => h) (Or.inl ⟨by rfl, ?hyqx9⟩) hHeld ?restqx9
        case hyqx9 => (intro w hSw; (try dsimp only at hSw); go_simp; try with_reducible rfl)
        simp only [Act.put, List.setIfInBounds_toArray, List.set_cons_zero, List.set_cons_succ]
        refine wpAnyH_take (i := 10) (oi := ⟨some 31, _, _, _, _, _⟩) (v := ?vqx10) rfl (by kernel_rfl) (by kernel_rfl) (by kernel_rfl) (fun _ _ _ h => h) (Or.inl ⟨by rfl, ?hyqx10⟩) hHeld ?restqx10
        case hyqx10 => (intro w hSw; (try dsimp only at hSw); go_simp; rw [dif_pos HX2.out, hexIx _ HN2.out _ HW2.out]; rfl)
        simp only [Act.put, List.setIfInBounds_toArray, List.set_cons_zero, List.set_cons_succ]
        refine wpAnyH_ready (rs := [11]) (by kernel_rfl) (by simp) ?_
        refine AllReadyH.cons (o := ⟨some 32, _, _, _, _, _⟩) rfl (fun K hK => ?_) AllReadyH.nil
        go_simp
        
        have hPrev := hHeld
        refine hK.out _ _ (hPrev.alloc hPrev.size _) (fun hHeld2 => ?_)
        clear hK K hHeld
        have hHeld := hHeld2
        clear hHeld2
        (try simp only [Act.put, List.setIfInBounds_toArray, List.set_cons_zero, List.set_cons_succ])
        refine wpAnyH_ready (rs := [12]) (by kernel_rfl) (by simp) ?_
        refine AllReadyH.cons (o := ⟨some 33, _, _, _, _, _⟩) rfl (fun K hK => ?_) AllReadyH.nil
        refine step_appS (by rfl) _ _ (by rfl) w.heap.size (.slice ao D.length co) D (by rfl) (World.ownsRow.alloc (OwnB.drew HO.out) _) (by simp; omega) ⟨wr.heap.size, 0, none⟩ 3 3 [92, hexC (s[k].toNat / 16), hexC (s[k].toNat % 16)] (by rfl) (isB_new3 wr.drew _ _ _) (by simp; omega) ?_
        intro v3 w3 ho3 hg3
        refine hK.out _ _ ((HB.out.drew.alloc (by simp; omega) _).grown hg3 (by simp; omega) (fun j e => HO.out.block j e)) (fun hHeld2 => ?_)
        clear hK K hHeld
        have hHeld := hHeld2
        clear hHeld2
        (try simp only [Act.put, List.setIfInBounds_toArray, List.set_cons_zero, List.set_cons_succ])
        refine wpAnyH_take (i := 13) (oi := ⟨some 3, _, _, _, _, _⟩) (v := ?vq_11_12x13) rfl (by kernel_rfl) (by kernel_rfl) (by kernel_rfl) (fun _ _ _ h => h) (Or.inl ⟨by rfl, ?hyq_11_12x13⟩) hHeld ?restq_11_12x13
        case hyq_11_12x13 => (intro w hSw; (try dsimp only at hSw); go_simp; try with_reducible rfl)
        simp only [Act.put, List.setIfInBounds_toArray, List.set_cons_zero, List.set_cons_succ]
        refine wpAnyH_done (by kernel_rfl) ?_ _
        have HO3 : Hid (OwnB w.heap.size w3 v3 (D ++ [92, hexC (s[k].toNat / 16), hexC (s[k].toNat % 16)])) := ho3
        have HB3 : Hid (Below w.heap.size w w3) := hHeld
        clear hHeld ho3 hg3 hPrev
        go_wp2
        go_roundw
        case rel =>
          refine ⟨k + 1, by omega, by go_num, ?_, HB3⟩
          show OwnB _ _ _ _
          rw [HTS.out, HTE.out]
          exact HO3.out
        case measure => simp [intOf]; omega
        -- END REGION
      · have HTE : Hid (escL s[k] = [s[k]]) := escL_plain hp
        go_wp2_with fail
        refine (isPlain_any _ _).mono ?_
        rintro e w' ⟨rfl, hw⟩
        replace hw := hw.symm
        subst hw
        rw [hp]
        go_wp2_with (at_builtin; refine wpList_append_own _ rfl _ _ 60 rfl w.heap.size 5 i0 (.int .u8 0) 1 1 Tryz.underlying60 hi hz0 hz1 hz2 rfl (by decide) _ _ _ rfl (World.ownsRow.alloc HO.out _) ⟨wr.heap.size, 0, none⟩ 1 1 [_] rfl rfl (cell_one_new _ _ _) (fun x hx => by simp at hx; subst hx; rfl) (by unfold maxLen; simp; omega) (by simp; omega) (by simp; omega) ?_; intro v' w3 hown' hgrow3 hnil3)
        go_roundw
        case rel =>
          refine ⟨k + 1, by omega, by go_num, ?_, (HB.out.alloc (by omega) _).grown hgrow3 (by simp; omega) (fun j e => HO.out.block j e)⟩
          show OwnB _ _ _ _
          rw [HTS.out, HTE.out]
          exact OwnB.more hown' rfl rfl
        case measure => simp [intOf]; omega
    · obtain rfl : k = s.size := by omega
      have HTK : Hid (quoteL s.data.toList = (34 :: bodyL (s.data.toList.take s.size)) ++ [34]) := by
        show _ = _
        rw [List.take_of_length_le (by rw [HSL.out]; exact Nat.le_refl _)]
        rfl
      generalize 34 :: bodyL (s.data.toList.take s.size) = D at *
      subst e0
      go_wp2_with (at_builtin; refine wpList_append_own _ rfl _ _ 60 rfl w.heap.size 5 i0 (.int .u8 0) 1 1 Tryz.underlying60 hi hz0 hz1 hz2 rfl (by decide) _ _ _ rfl (World.ownsRow.alloc HO.out _) ⟨wr.heap.size, 0, none⟩ 1 1 [_] rfl rfl (cell_one_new _ _ _) (fun x hx => by simp at hx; subst hx; rfl) (by unfold maxLen; simp; omega) (by simp; omega) (by simp; omega) ?_; intro v' w3 hown' hgrow3 hnil3; have HO3 : Hid (OwnB w.heap.size w3 v' (D ++ [34])) := OwnB.more hown' rfl rfl; have cv := conv_txt (HO3.out.isB (by simp; omega)))
      go_ret
      exact ⟨congrArg (fun x => Ending.returned (Value.string (txt x))) HTK.out.symm, (HB.out.alloc (by omega) _).grown hgrow3 (by simp; omega) (fun j e => HO.out.block j e)⟩

end Go.Proofs.YtaocjmipjibiaabGreatDoor
