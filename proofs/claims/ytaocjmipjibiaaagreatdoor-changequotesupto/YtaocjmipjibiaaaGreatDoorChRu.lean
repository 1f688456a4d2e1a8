/- What the document's value, Unquoted (from a text's first place on) and Unquote make of any text. -/
import Derived.Test.YtaocjmipjibiaaaGreatDoorChUq
import Derived.Test.YtaocjmipjibiaaaGreatDoorChRq
import Derived.Test.YtaocjmipjibiaaaGreatDoorPlainW
import Derived.OwnWalk
namespace Go.Proofs.YtaocjmipjibiaaaGreatDoor
open Go.RowKit
set_option linter.unusedVariables false
set_option linter.unusedSimpArgs false

set_option maxHeartbeats 1000000 in
theorem refValue_any (b : UInt8) (w : World) :
    Calls Tryz.prog 85 #[.int .u8 (b.toNat : Int)] w fun e w' => e = .returned (.int .i64 (hexV b : Int)) ∧ w' = w := by
  have hb := b.toNat_lt
  by_cases h0 : 48 ≤ b.toNat ∧ b.toNat ≤ 57
  · have q0 : (48 : Int) ≤ (b.toNat : Int) := by omega
    have q1 : (b.toNat : Int) ≤ 57 := by omega
    have HV : Hid ((hexV b : Int) = (b.toNat : Int) - 48) := by show _ = _; unfold hexV; rw [if_pos h0]; omega
    have r : IntKind.u8.wrap ((b.toNat : Int) - 48) = (b.toNat : Int) - 48 := by rw [IntKind.wrap_u8]; omega
    clear h0
    go_enter Tryz.func85, Tryz.ntmps85
    go_wp2
    go_ret
    exact ⟨by rw [HV.out]; first | rfl | (simp only [Array.getD]; congr 2; omega), rfl⟩
  · by_cases h1 : 97 ≤ b.toNat ∧ b.toNat ≤ 102
    · have q0 : (97 : Int) ≤ (b.toNat : Int) := by omega
      have q1 : (b.toNat : Int) ≤ 102 := by omega
      have q2 : (48 : Int) ≤ (b.toNat : Int) := by omega
      have q3 : ¬ (b.toNat : Int) ≤ 57 := by omega
      have HV : Hid ((hexV b : Int) = (b.toNat : Int) - 97 + 10) := by show _ = _; unfold hexV; rw [if_neg h0, if_pos h1]; omega
      have r : IntKind.u8.wrap ((b.toNat : Int) - 97) = (b.toNat : Int) - 97 := by rw [IntKind.wrap_u8]; omega
      clear h0 h1
      go_enter Tryz.func85, Tryz.ntmps85
      go_wp2
      go_ret
      exact ⟨by rw [HV.out]; first | rfl | (simp only [Array.getD]; congr 2; omega), rfl⟩
    · have HV : Hid ((hexV b : Int) = 16) := by show _ = _; unfold hexV; rw [if_neg h0, if_neg h1]; rfl
      by_cases a0 : (48 : Int) ≤ (b.toNat : Int)
      · have a1 : ¬ (b.toNat : Int) ≤ 57 := by omega
        by_cases a2 : (97 : Int) ≤ (b.toNat : Int)
        · have a3 : ¬ (b.toNat : Int) ≤ 102 := by omega
          clear h0 h1
          go_enter Tryz.func85, Tryz.ntmps85
          go_wp2
          go_ret
          exact ⟨by rw [HV.out]; rfl, rfl⟩
        · clear h0 h1
          go_enter Tryz.func85, Tryz.ntmps85
          go_wp2
          go_ret
          exact ⟨by rw [HV.out]; rfl, rfl⟩
      · have a2 : ¬ (97 : Int) ≤ (b.toNat : Int) := by omega
        clear h0 h1
        go_enter Tryz.func85, Tryz.ntmps85
        go_wp2
        go_ret
        exact ⟨by rw [HV.out]; rfl, rfl⟩

def UnqdPost (l : List UInt8) (w : World) (e : Ending) (w' : World) : Prop := ∃ (t : List UInt8) (n : Nat) (b : Bool), e = .returned (.tuple #[.string (txt t), .int .i64 (n : Int), .bool b]) ∧ UnqdIs l t n b ∧ t.length ≤ l.length ∧ Below w.heap.size w w'
theorem u8_ne {x y : UInt8} {n : Nat} (hy : y.toNat = n) (h : x ≠ y) : ((x.toNat : Int) != (n : Int)) = true := by
  simp only [bne_iff_ne, ne_eq]
  intro e
  exact h (UInt8.toNat_inj.1 (by rw [hy]; omega))
theorem drop_at (s : ByteArray) (k : Nat) (h : k < s.size) : s.data.toList.drop k = s[k] :: s.data.toList.drop (k + 1) := by
  have h0 : k < s.data.toList.length := by simpa using h
  rw [List.drop_eq_getElem_cons h0]
  rfl

set_option maxHeartbeats 4000000 in
set_option maxRecDepth 100000 in
/-- The document's Unquoted, from the first place on. -/
theorem refUnquoted_any (s : ByteArray) (hs : s.size ≤ 140737488355328) (w : World) :
    Calls Tryz.prog 51 #[.string s, .int .i64 0] w fun e w' => UnqdPost s.data.toList w e w' := by
  obtain ⟨i0, hi, hz0, hz1, hz2⟩ := info_parts infoByte
  have hsl : s.data.toList.length = s.size := by simp
  by_cases hz : s.size = 0
  · have HE : Hid (UnqdIs s.data.toList [] 0 false) := unqd_none (List.eq_nil_of_length_eq_zero (by omega))
    have q : (s.size : Int) ≤ 0 := by omega
    clear hsl
    go_enter Tryz.func51, Tryz.ntmps51
    go_wp2
    go_ret3
    exact ⟨[], 0, false, rfl, HE.out, Nat.zero_le _, Below.refl _ _⟩
  · have q : ¬ (s.size : Int) ≤ 0 := by omega
    have z0 : (0 : Int) < (s.size : Int) := by omega
    have n0 : 0 < s.size := by omega
    by_cases h34 : s[0] = 34
    · have q1 : ((s[0].toNat : Int) != 34) = false := by rw [h34]; rfl
      have HSL : Hid (s.data.toList.length = s.size) := hsl
      have HS0 : Hid (s.data.toList = 34 :: (bodyL [] ++ s.data.toList.drop 1)) := by show _ = _; have := list_one s n0; rw [h34] at this; exact this
      have HO0 : Hid (OwnB w.heap.size (w.alloc (.cells #[] 5)) (.slice (some ⟨w.heap.size, 0, none⟩) 0 0) []) := OwnB.made w [] _ rfl (by simp) (Nat.le_refl _)
      have HB0 : Hid (Below w.heap.size w (w.alloc (.cells #[] 5))) := (Below.refl _ _).alloc (Nat.le_refl _) _
      clear h34 hsl
      go_enter Tryz.func51, Tryz.ntmps51
      go_wp2
      go_loopw [7, 8] (fun ov iv wr => ∃ (k : Nat) (out : List UInt8), iv = .int .i64 (k : Int) ∧ k ≤ s.size ∧ k = (bodyL out).length + 1 ∧ Hid (s.data.toList = 34 :: (bodyL out ++ s.data.toList.drop k)) ∧ Hid (OwnB w.heap.size wr ov out) ∧ Hid (Below w.heap.size w wr)) (fun _ iv _ => s.size - (intOf iv).toNat)
      case atStart => exact ⟨1, [], rfl, by omega, rfl, HS0, HO0, HB0⟩
      case round =>
        obtain ⟨k, out, rfl, hk, hkb, HS, HO, HB⟩ := hrel
        have hol := (bodyL_len out).1
        have hout : out.length < k := by omega
        have HKB : Hid (k = (bodyL out).length + 1) := hkb
        clear hkb hol
        have hsz := HB.out.size
        have k0 : (0 : Int) ≤ (k : Int) := by omega
        obtain ⟨ao, co, e0⟩ := HO.out.form
        subst e0
        by_cases hlt : k < s.size
        · have k1 : (k : Int) < (s.size : Int) := by omega
          have k2 : ¬ (s.size : Int) ≤ (k : Int) := by omega
          have HD : Hid (s.data.toList.drop k = s[k] :: s.data.toList.drop (k + 1)) := drop_at s k hlt
          by_cases h34 : s[k] = 34
          · have q34 : ((s[k].toNat : Int) != 34) = false := by rw [h34]; rfl
            have HE : Hid (UnqdIs s.data.toList out (k + 1) true) := by
              show UnqdIs _ _ _ _
              rw [HS.out, HD.out, h34, HKB.out]
              exact unqd_good
            have cv := conv_txt (HO.out.isB (by omega))
            clear h34
            go_wp2
            go_ret3
            exact ⟨out, k + 1, true, by go_num, HE.out, by rw [HSL.out]; omega, HB.out⟩
          · have q34 : ((s[k].toNat : Int) != 34) = true := u8_ne (y := 34) rfl h34
            have HN : Hid (s[k] ≠ 34) := h34
            clear h34
            cases hp : plainB s[k]
            · by_cases h92 : s[k] = 92
              · have q92 : ((s[k].toNat : Int) != 92) = false := by rw [h92]; rfl
                by_cases hsh : s.size ≤ k + 2
                · have qs : (s.size : Int) ≤ (k : Int) + 2 := by omega
                  have HE : Hid (UnqdIs s.data.toList [] 0 false) := by
                    show UnqdIs _ _ _ _
                    rw [HS.out]
                    exact unqd_bad (b := 0) HD.out HN.out (by rw [HD.out, h92]; exact byteIs_short (by rw [List.length_drop, HSL.out]; omega))
                  clear h92
                  go_wp2_with fail
                  refine (refPlain_any _ _).mono ?_
                  rintro e w' ⟨rfl, hw⟩
                  replace hw := hw.symm
                  subst hw
                  rw [hp]
                  go_wp2
                  go_ret3
                  exact ⟨[], 0, false, rfl, HE.out, Nat.zero_le _, HB.out⟩
                · have qs : ¬ (s.size : Int) ≤ (k : Int) + 2 := by omega
                  have a1 : (0 : Int) ≤ (k : Int) + 1 := by omega
                  have a2 : (k : Int) + 1 < (s.size : Int) := by omega
                  have a3 : ((k : Int) + 1).toNat = k + 1 := by omega
                  have b1 : (0 : Int) ≤ (k : Int) + 2 := by omega
                  have b2 : (k : Int) + 2 < (s.size : Int) := by omega
                  have b3 : ((k : Int) + 2).toNat = k + 2 := by omega
                  have m1 : k + 1 < s.size := by omega
                  have m2 : k + 2 < s.size := by omega
                  have HL : Hid (s.data.toList.drop k = (92 : UInt8) :: s[k + 1] :: s[k + 2] :: s.data.toList.drop (k + 3)) := by
                    show _ = _
                    rw [HD.out, h92, drop_at s (k + 1) m1, drop_at s (k + 2) m2]
                  clear h92
                  have x1 := hexV_le s[k + 1]
                  have x2 := hexV_le s[k + 2]
                  by_cases hx : hexV s[k + 1] = 16
                  · have HE : Hid (UnqdIs s.data.toList [] 0 false) := by
                      show UnqdIs _ _ _ _
                      rw [HS.out]
                      exact unqd_bad (b := 0) HD.out HN.out (by rw [HL.out]; exact byteIs_digit (.inl hx))
                    have qx : ((hexV s[k + 1] : Int) == 16) = true := by rw [hx]; rfl
                    go_wp2_with fail
                    refine (refPlain_any _ _).mono ?_
                    rintro e w' ⟨rfl, hw⟩
                    replace hw := hw.symm
                    subst hw
                    rw [hp]
                    go_wp2_with fail
                    refine (refValue_any s[k + 1] _).mono ?_
                    rintro e w' ⟨rfl, hw⟩
                    replace hw := hw.symm
                    subst hw
                    go_wp2
                    go_ret3
                    exact ⟨[], 0, false, rfl, HE.out, Nat.zero_le _, HB.out⟩
                  · have qx : ((hexV s[k + 1] : Int) == 16) = false := by rw [beq_eq_false_iff_ne]; omega
                    by_cases hy : hexV s[k + 2] = 16
                    · have HE : Hid (UnqdIs s.data.toList [] 0 false) := by
                        show UnqdIs _ _ _ _
                        rw [HS.out]
                        exact unqd_bad (b := 0) HD.out HN.out (by rw [HL.out]; exact byteIs_digit (.inr hy))
                      have qy : ((hexV s[k + 2] : Int) == 16) = true := by rw [hy]; rfl
                      go_wp2_with fail
                      refine (refPlain_any _ _).mono ?_
                      rintro e w' ⟨rfl, hw⟩
                      replace hw := hw.symm
                      subst hw
                      rw [hp]
                      go_wp2_with fail
                      refine (refValue_any s[k + 1] _).mono ?_
                      rintro e w' ⟨rfl, hw⟩
                      replace hw := hw.symm
                      subst hw
                      go_wp2_with fail
                      refine (refValue_any s[k + 2] _).mono ?_
                      rintro e w' ⟨rfl, hw⟩
                      replace hw := hw.symm
                      subst hw
                      go_wp2
                      go_ret3
                      exact ⟨[], 0, false, rfl, HE.out, Nat.zero_le _, HB.out⟩
                    · have qy : ((hexV s[k + 2] : Int) == 16) = false := by rw [beq_eq_false_iff_ne]; omega
                      have l1 : hexV s[k + 1] < 16 := by omega
                      have l2 : hexV s[k + 2] < 16 := by omega
                      have HBV : Hid ((16 : Int) * (hexV s[k + 1] : Int) + (hexV s[k + 2] : Int) = ((UInt8.ofNat (16 * hexV s[k + 1] + hexV s[k + 2])).toNat : Int)) := by show _ = _; rw [byte_of l1 l2]; omega
                      have HXY : Hid (hexV s[k + 1] < 16 ∧ hexV s[k + 2] < 16) := ⟨l1, l2⟩
                      go_wp2_with fail
                      refine (refPlain_any _ _).mono ?_
                      rintro e w' ⟨rfl, hw⟩
                      replace hw := hw.symm
                      subst hw
                      rw [hp]
                      go_wp2_with fail
                      refine (refValue_any s[k + 1] _).mono ?_
                      rintro e w' ⟨rfl, hw⟩
                      replace hw := hw.symm
                      subst hw
                      go_wp2_with fail
                      refine (refValue_any s[k + 2] _).mono ?_
                      rintro e w' ⟨rfl, hw⟩
                      replace hw := hw.symm
                      subst hw
                      go_wp2
                      have HX : Hid (∀ W, Calls Tryz.prog 85 #[.int .u8 (s[k + 1].toNat : Int)] W fun e w' => e = .returned (.int .i64 (hexV s[k + 1] : Int)) ∧ w' = W) := fun W => refValue_any s[k + 1] W
                      have HY : Hid (∀ W, Calls Tryz.prog 85 #[.int .u8 (s[k + 2].toNat : Int)] W fun e w' => e = .returned (.int .i64 (hexV s[k + 2] : Int)) ∧ w' = W) := fun W => refValue_any s[k + 2] W
                      go_quiet (first
                        | (go_at_call 85; with_reducible exact Calls.quiet_of_same (HX.out _))
                        | (go_at_call 85; with_reducible exact Calls.quiet_of_same (HY.out _)))
                      go_wp2_with fail
                      rw [HBV.out]
                      cases hq : plainB (UInt8.ofNat (16 * hexV s[k + 1] + hexV s[k + 2]))
                      · have HBY : Hid (ByteIs (s.data.toList.drop k) (UInt8.ofNat (16 * hexV s[k + 1] + hexV s[k + 2])) 3) := by show ByteIs _ _ _; rw [HL.out]; exact byteIs_esc HXY.out.1 HXY.out.2 hq
                        have HEL : Hid (escL (UInt8.ofNat (16 * hexV s[k + 1] + hexV s[k + 2])) = [92, s[k + 1], s[k + 2]]) := by
                          show _ = _
                          rcases HBY.out with ⟨h, _⟩ | ⟨h, h2⟩
                          · cases h
                          · rw [HL.out] at h2
                            have := congrArg (List.take 3) h2
                            rw [List.take_left' h.symm] at this
                            exact this.symm
                        refine (refPlain_any _ _).mono ?_
                        rintro e w' ⟨rfl, hw⟩
                        rw [hq]
                        generalize UInt8.ofNat (16 * hexV s[k + 1] + hexV s[k + 2]) = nb at *
                        have HB1 : Hid (Below w.heap.size w w') := by show Below _ _ _; rw [hw]; exact below_drewN HB.out _
                        have HO1 : Hid (OwnB w.heap.size w' (.slice ao out.length co) out) := by show OwnB _ _ _ _; rw [hw]; exact HO.out.below (below_drewN (Below.refl _ _) _)
                        clear hw
                        have hsz1 := HB1.out.size
                        go_wp2_with (at_builtin; refine wpList_append_own _ rfl _ _ 56 rfl w.heap.size 5 i0 (.int .u8 0) 1 1 Tryz.underlying56 hi hz0 hz1 hz2 rfl (by decide) _ _ _ rfl (World.ownsRow.alloc HO1.out _) ⟨w'.heap.size, 0, none⟩ 1 1 [_] rfl rfl (cell_one_new _ _ _) (fun x hx => by simp at hx; subst hx; rfl) (by unfold maxLen; simp; omega) (by simp; omega) (by simp; omega) ?_; intro v' w3 hown' hgrow3 hnil3)
                        go_roundw
                        case rel =>
                          refine ⟨k + 3, out ++ [nb], by go_num, by omega, ?_, ?_, OwnB.more hown' rfl rfl, (HB1.out.alloc (by omega) _).grown hgrow3 (by simp; omega) (fun j e => HO1.out.block j e)⟩
                          · rw [bodyL_snoc, List.length_append, HEL.out]; have := HKB.out; simp; omega
                          · show _ = _
                            rw [bodyL_snoc, HEL.out]
                            conv => lhs; rw [HS.out, HL.out]
                            simp
                        case measure => simp [intOf]; omega
                      · have HE : Hid (UnqdIs s.data.toList [] 0 false) := by
                          show UnqdIs _ _ _ _
                          rw [HS.out]
                          exact unqd_bad (b := 0) HD.out HN.out (by rw [HL.out]; exact byteIs_plainly HXY.out.1 HXY.out.2 hq)
                        refine (refPlain_any _ _).mono ?_
                        rintro e w' ⟨rfl, hw⟩
                        rw [hq]
                        have HB1 : Hid (Below w.heap.size w w') := by show Below _ _ _; rw [hw]; exact below_drewN HB.out _
                        clear hw
                        go_wp2
                        go_ret3
                        exact ⟨[], 0, false, rfl, HE.out, Nat.zero_le _, HB1.out⟩
              · have q92 : ((s[k].toNat : Int) != 92) = true := u8_ne (y := 92) rfl h92
                have HE : Hid (UnqdIs s.data.toList [] 0 false) := by
                  show UnqdIs _ _ _ _
                  rw [HS.out]
                  exact unqd_bad (b := 0) HD.out HN.out (by rw [HD.out]; exact byteIs_other hp h92)
                clear h92
                go_wp2_with fail
                refine (refPlain_any _ _).mono ?_
                rintro e w' ⟨rfl, hw⟩
                replace hw := hw.symm
                subst hw
                rw [hp]
                go_wp2
                go_ret3
                exact ⟨[], 0, false, rfl, HE.out, Nat.zero_le _, HB.out⟩
            · have HTE : Hid (escL s[k] = [s[k]]) := escL_plain hp
              go_wp2_with fail
              refine (refPlain_any _ _).mono ?_
              rintro e w' ⟨rfl, hw⟩
              replace hw := hw.symm
              subst hw
              rw [hp]
              go_wp2_with (at_builtin; refine wpList_append_own _ rfl _ _ 56 rfl w.heap.size 5 i0 (.int .u8 0) 1 1 Tryz.underlying56 hi hz0 hz1 hz2 rfl (by decide) _ _ _ rfl (World.ownsRow.alloc HO.out _) ⟨wr.heap.size, 0, none⟩ 1 1 [_] rfl rfl (cell_one_new _ _ _) (fun x hx => by simp at hx; subst hx; rfl) (by unfold maxLen; simp; omega) (by simp; omega) (by simp; omega) ?_; intro v' w3 hown' hgrow3 hnil3)
              go_roundw
              case rel =>
                refine ⟨k + 1, out ++ [s[k]], by go_num, by omega, ?_, ?_, OwnB.more hown' rfl rfl, (HB.out.alloc (by omega) _).grown hgrow3 (by simp; omega) (fun j e => HO.out.block j e)⟩
                · rw [bodyL_snoc, List.length_append, HTE.out]; have := HKB.out; simp; omega
                · show _ = _
                  rw [bodyL_snoc, HTE.out]
                  conv => lhs; rw [HS.out, HD.out]
                  simp
              case measure => simp [intOf]; omega
        · have k1 : ¬ (k : Int) < (s.size : Int) := by omega
          have k2 : (s.size : Int) ≤ (k : Int) := by omega
          have HE : Hid (UnqdIs s.data.toList [] 0 false) := by
            show UnqdIs _ _ _ _
            rw [HS.out, List.drop_of_length_le (by rw [HSL.out]; omega)]
            exact unqd_end
          go_wp2
          go_ret3
          exact ⟨[], 0, false, rfl, HE.out, Nat.zero_le _, HB.out⟩
    · have HE : Hid (UnqdIs s.data.toList [] 0 false) := by show UnqdIs _ _ _ _; rw [list_one s n0]; exact unqd_head h34
      have q1 : ((s[0].toNat : Int) != 34) = true := u8_ne (y := 34) rfl h34
      clear h34 hsl
      go_enter Tryz.func51, Tryz.ntmps51
      go_wp2
      go_ret3
      exact ⟨[], 0, false, rfl, HE.out, Nat.zero_le _, Below.refl _ _⟩

set_option maxHeartbeats 2000000 in
set_option maxRecDepth 100000 in
/-- The document's Unquote. -/
theorem refUnquote_any (s : ByteArray) (hs : s.size ≤ 140737488355328) (w : World) :
    Calls Tryz.prog 24 #[.string s] w fun e w' => UnqPost s.data.toList w e w' := by
  have hsl : s.data.toList.length = s.size := by simp
  have HSL : Hid (s.data.toList.length = s.size) := hsl
  clear hsl
  go_enter Tryz.func24, Tryz.ntmps24
  go_wp2_with fail
  refine (refUnquoted_any s hs _).mono ?_
  rintro e w' ⟨t, n, b, rfl, hu, ht, hb⟩
  have HU : Hid (UnqdIs s.data.toList t n b) := hu
  have HT : Hid (t.length ≤ s.data.toList.length) := ht
  clear hu ht
  cases b
  · go_wp2
    go_ret2
    exact ⟨[], false, rfl, HU.out.bad, Nat.zero_le _, hb⟩
  · by_cases hn : n = s.size
    · have q : ((n : Int) != (s.size : Int)) = false := by rw [hn]; simp
      have HE : Hid (UnqIs s.data.toList t true) := HU.out.good (by rw [HSL.out]; exact hn)
      clear hn
      go_wp2
      go_ret2
      exact ⟨t, true, rfl, HE.out, HT.out, hb⟩
    · have q : ((n : Int) != (s.size : Int)) = true := by simp only [bne_iff_ne, ne_eq]; omega
      have HE : Hid (UnqIs s.data.toList [] false) := HU.out.more (by rw [HSL.out]; exact hn)
      clear hn
      go_wp2
      go_ret2
      exact ⟨[], false, rfl, HE.out, Nat.zero_le _, hb⟩

end Go.Proofs.YtaocjmipjibiaaaGreatDoor
