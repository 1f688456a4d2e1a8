/- What readByte and Unquote make of any text. -/
import Derived.Test.YtaocjmipjibiaabGreatDoorChQ
import Derived.Test.YtaocjmipjibiaabGreatDoorLays
import Derived.Lib.IndexLaws
import Derived.Deep.QuietTactic
import Derived.BigQuiet
namespace Go.Proofs.YtaocjmipjibiaabGreatDoor
open Go.RowKit
set_option linter.unusedVariables false
set_option linter.unusedSimpArgs false

theorem below_drewN {k : Nat} {w w' : World} (h : Below k w w') (m : Nat) : Below k w (w'.drewN m) := ⟨h.os, h.tape, h.output, h.size, h.block⟩
def hexI (x : UInt8) : Int := if hexV x < 16 then (hexV x : Int) else -1
theorem hexI_eq (x : UInt8) : Lib.indexByte [48, 49, 50, 51, 52, 53, 54, 55, 56, 57, 97, 98, 99, 100, 101, 102] x = hexI x := by
  have key : ∀ n : Fin 256, Lib.indexByte [48, 49, 50, 51, 52, 53, 54, 55, 56, 57, 97, 98, 99, 100, 101, 102] (UInt8.ofNat n.1) = hexI (UInt8.ofNat n.1) := by decide +kernel
  have := key ⟨x.toNat, x.toNat_lt⟩
  rwa [show UInt8.ofNat x.toNat = x from UInt8.ofNat_toNat] at this
theorem hexIndex_any (x : UInt8) (w : World) :
    Calls Tryz.prog 88 #[.string ⟨#[48, 49, 50, 51, 52, 53, 54, 55, 56, 57, 97, 98, 99, 100, 101, 102]⟩, .int .u8 (x.toNat : Int)] w fun e w' => e = .returned (.int .i64 (hexI x)) ∧ w' = w := by
  refine (Any.strings_IndexByte Tryz.lays137 _ (x.toNat : Int) w).mono ?_
  rintro e w' ⟨rfl, rfl⟩
  refine ⟨?_, rfl⟩
  have e1 : ((x.toNat : Int).toNat).toUInt8 = x := by simp
  rw [e1, ← hexI_eq]

def ReadPost (l : List UInt8) (w : World) (e : Ending) (w' : World) : Prop := ∃ (b : UInt8) (n : Nat), e = .returned (.tuple #[.int .u8 (b.toNat : Int), .int .i64 (n : Int)]) ∧ ByteIs l b n ∧ n ≤ l.length ∧ Below w.heap.size w w'
theorem list_three (s : ByteArray) (h : 3 ≤ s.size) : s.data.toList = s[0] :: s[1] :: s[2] :: s.data.toList.drop 3 := by
  have h0 : 0 < s.data.toList.length := by simp; omega
  have h1 : 1 < s.data.toList.length := by simp; omega
  have h2 : 2 < s.data.toList.length := by simp; omega
  conv => lhs; rw [← List.drop_zero (l := s.data.toList), List.drop_eq_getElem_cons h0, List.drop_eq_getElem_cons h1, List.drop_eq_getElem_cons h2]
  rfl
theorem list_one (s : ByteArray) (h : 0 < s.size) : s.data.toList = s[0] :: s.data.toList.drop 1 := by
  have h0 : 0 < s.data.toList.length := by simp; omega
  conv => lhs; rw [← List.drop_zero (l := s.data.toList), List.drop_eq_getElem_cons h0]
  rfl

set_option maxHeartbeats 4000000 in
set_option maxRecDepth 100000 in
/-- change.readByte. -/
theorem readByte_any (s : ByteArray) (h0 : 0 < s.size) (hs : s.size ≤ 140737488355328) (w : World) :
    Calls Tryz.prog 71 #[.string s] w fun e w' => ReadPost s.data.toList w e w' := by
  have hsl : s.data.toList.length = s.size := by simp
  have z0 : (0 : Int) < (s.size : Int) := by omega
  cases hp : plainB s[0]
  · by_cases h92 : s[0] = 92
    · by_cases h3 : s.size < 3
      · have HE : Hid (ByteIs s.data.toList 0 0) := by
          show ByteIs _ _ _
          rw [list_one s h0, h92]
          exact byteIs_short (by rw [List.length_drop, hsl]; omega)
        have q1 : ((s[0].toNat : Int) != 92) = false := by rw [h92]; rfl
        have q3 : (s.size : Int) < 3 := by omega
        clear h92 hsl
        go_enter Tryz.func71, Tryz.ntmps71
        go_wp2_with fail
        refine (isPlain_any _ _).mono ?_
        rintro e w' ⟨rfl, hw⟩
        replace hw := hw.symm
        subst hw
        rw [hp]
        go_wp2
        go_ret2
        exact ⟨0, 0, rfl, HE.out, Nat.zero_le _, Below.refl _ _⟩
      · have q1 : ((s[0].toNat : Int) != 92) = false := by rw [h92]; rfl
        have q3 : ¬ (s.size : Int) < 3 := by omega
        have z1 : (1 : Int) < (s.size : Int) := by omega
        have z2 : (2 : Int) < (s.size : Int) := by omega
        have n1 : 1 < s.size := by omega
        have n2 : 2 < s.size := by omega
        have HL : Hid (s.data.toList = (92 : UInt8) :: s[1] :: s[2] :: s.data.toList.drop 3) := by
          show _ = _
          have := list_three s (by omega)
          rw [h92] at this
          exact this
        have HSL : Hid (s.data.toList.length = s.size) := hsl
        clear h92 hsl
        by_cases hx : hexV s[1] < 16
        · have HX : Hid (∀ W, Calls Tryz.prog 88 #[.string ⟨#[48, 49, 50, 51, 52, 53, 54, 55, 56, 57, 97, 98, 99, 100, 101, 102]⟩, .int .u8 (s[1].toNat : Int)] W fun e w' => e = .returned (.int .i64 (hexV s[1] : Int)) ∧ w' = W) := fun W => by
            have := hexIndex_any s[1] W
            rw [show hexI s[1] = (hexV s[1] : Int) by unfold hexI; rw [if_pos hx]] at this
            exact this
          by_cases hy : hexV s[2] < 16
          · have HY : Hid (∀ W, Calls Tryz.prog 88 #[.string ⟨#[48, 49, 50, 51, 52, 53, 54, 55, 56, 57, 97, 98, 99, 100, 101, 102]⟩, .int .u8 (s[2].toNat : Int)] W fun e w' => e = .returned (.int .i64 (hexV s[2] : Int)) ∧ w' = W) := fun W => by
              have := hexIndex_any s[2] W
              rw [show hexI s[2] = (hexV s[2] : Int) by unfold hexI; rw [if_pos hy]] at this
              exact this
            have HBV : Hid ((16 : Int) * (hexV s[1] : Int) + (hexV s[2] : Int) = ((UInt8.ofNat (16 * hexV s[1] + hexV s[2])).toNat : Int)) := by show _ = _; rw [byte_of hx hy]; omega
            cases hq : plainB (UInt8.ofNat (16 * hexV s[1] + hexV s[2]))
            · have HE : Hid (ByteIs s.data.toList (UInt8.ofNat (16 * hexV s[1] + hexV s[2])) 3) := by show ByteIs _ _ _; rw [HL.out]; exact byteIs_esc hx hy hq
              have HP : Hid (plainB (UInt8.ofNat (16 * hexV s[1] + hexV s[2])) = false) := hq
              clear hq
              go_enter Tryz.func71, Tryz.ntmps71
              go_wp2_with fail
              refine (isPlain_any _ _).mono ?_
              rintro e w' ⟨rfl, hw⟩
              replace hw := hw.symm
              subst hw
              rw [hp]
              go_wp2
              go_quiet (first
                | (go_at_call 88; exact Calls.quiet_of_same (HX.out _))
                | (go_at_call 88; exact Calls.quiet_of_same (HY.out _)))
              go_wp2_with fail
              rw [HBV.out]
              refine (isPlain_any _ _).mono ?_
              rintro e w' ⟨rfl, hw⟩
              rw [HP.out]
              have bel : Below w.heap.size w w' := by rw [hw]; exact below_drewN (Below.refl _ _) _
              clear hw
              go_wp2
              go_ret2
              exact ⟨UInt8.ofNat (16 * hexV s[1] + hexV s[2]), 3, rfl, HE.out, by rw [HSL.out]; omega, bel⟩
            · have HE : Hid (ByteIs s.data.toList 0 0) := by show ByteIs _ _ _; rw [HL.out]; exact byteIs_plainly hx hy hq
              have HP : Hid (plainB (UInt8.ofNat (16 * hexV s[1] + hexV s[2])) = true) := hq
              clear hq
              go_enter Tryz.func71, Tryz.ntmps71
              go_wp2_with fail
              refine (isPlain_any _ _).mono ?_
              rintro e w' ⟨rfl, hw⟩
              replace hw := hw.symm
              subst hw
              rw [hp]
              go_wp2
              go_quiet (first
                | (go_at_call 88; exact Calls.quiet_of_same (HX.out _))
                | (go_at_call 88; exact Calls.quiet_of_same (HY.out _)))
              go_wp2_with fail
              rw [HBV.out]
              refine (isPlain_any _ _).mono ?_
              rintro e w' ⟨rfl, hw⟩
              rw [HP.out]
              have bel : Below w.heap.size w w' := by rw [hw]; exact below_drewN (Below.refl _ _) _
              clear hw
              go_wp2
              go_ret2
              exact ⟨0, 0, rfl, HE.out, Nat.zero_le _, bel⟩
          · have HY : Hid (∀ W, Calls Tryz.prog 88 #[.string ⟨#[48, 49, 50, 51, 52, 53, 54, 55, 56, 57, 97, 98, 99, 100, 101, 102]⟩, .int .u8 (s[2].toNat : Int)] W fun e w' => e = .returned (.int .i64 (-1)) ∧ w' = W) := fun W => by
              have := hexIndex_any s[2] W
              rw [show hexI s[2] = -1 by unfold hexI; rw [if_neg hy]] at this
              exact this
            have HE : Hid (ByteIs s.data.toList 0 0) := by show ByteIs _ _ _; rw [HL.out]; exact byteIs_digit (.inr (by have := hexV_le s[2]; omega))
            go_enter Tryz.func71, Tryz.ntmps71
            go_wp2_with fail
            refine (isPlain_any _ _).mono ?_
            rintro e w' ⟨rfl, hw⟩
            replace hw := hw.symm
            subst hw
            rw [hp]
            go_wp2
            go_quiet (first
              | (go_at_call 88; exact Calls.quiet_of_same (HX.out _))
              | (go_at_call 88; exact Calls.quiet_of_same (HY.out _)))
            go_wp2
            go_ret2
            exact ⟨0, 0, rfl, HE.out, Nat.zero_le _, below_drewN (Below.refl _ _) _⟩
        · have HX : Hid (∀ W, Calls Tryz.prog 88 #[.string ⟨#[48, 49, 50, 51, 52, 53, 54, 55, 56, 57, 97, 98, 99, 100, 101, 102]⟩, .int .u8 (s[1].toNat : Int)] W fun e w' => e = .returned (.int .i64 (-1)) ∧ w' = W) := fun W => by
            have := hexIndex_any s[1] W
            rw [show hexI s[1] = -1 by unfold hexI; rw [if_neg hx]] at this
            exact this
          have HY : Hid (∀ W, Calls Tryz.prog 88 #[.string ⟨#[48, 49, 50, 51, 52, 53, 54, 55, 56, 57, 97, 98, 99, 100, 101, 102]⟩, .int .u8 (s[2].toNat : Int)] W fun e w' => e = .returned (.int .i64 (hexI s[2])) ∧ w' = W) := fun W => by
            have := hexIndex_any s[2] W
            exact this
          have HE : Hid (ByteIs s.data.toList 0 0) := by show ByteIs _ _ _; rw [HL.out]; exact byteIs_digit (.inl (by have := hexV_le s[1]; omega))
          go_enter Tryz.func71, Tryz.ntmps71
          go_wp2_with fail
          refine (isPlain_any _ _).mono ?_
          rintro e w' ⟨rfl, hw⟩
          replace hw := hw.symm
          subst hw
          rw [hp]
          go_wp2
          go_quiet (first
            | (go_at_call 88; exact Calls.quiet_of_same (HX.out _))
            | (go_at_call 88; exact Calls.quiet_of_same (HY.out _)))
          go_wp2
          go_ret2
          exact ⟨0, 0, rfl, HE.out, Nat.zero_le _, below_drewN (Below.refl _ _) _⟩
    · have HE : Hid (ByteIs s.data.toList 0 0) := by show ByteIs _ _ _; rw [list_one s h0]; exact byteIs_other hp h92
      have q1 : ((s[0].toNat : Int) != 92) = true := by
        simp only [bne_iff_ne, ne_eq]
        intro e
        exact h92 (UInt8.toNat_inj.1 (by have : s[0].toNat = 92 := by omega
                                         rw [this]; rfl))
      clear h92 hsl
      go_enter Tryz.func71, Tryz.ntmps71
      go_wp2_with fail
      refine (isPlain_any _ _).mono ?_
      rintro e w' ⟨rfl, hw⟩
      replace hw := hw.symm
      subst hw
      rw [hp]
      go_wp2
      go_ret2
      exact ⟨0, 0, rfl, HE.out, Nat.zero_le _, Below.refl _ _⟩
  · have HE : Hid (ByteIs s.data.toList s[0] 1) := by show ByteIs _ _ _; rw [list_one s h0]; exact byteIs_plain hp
    have hln : 1 ≤ s.data.toList.length := by omega
    clear hsl
    go_enter Tryz.func71, Tryz.ntmps71
    go_wp2_with fail
    refine (isPlain_any _ _).mono ?_
    rintro e w' ⟨rfl, hw⟩
    replace hw := hw.symm
    subst hw
    rw [hp]
    go_wp2
    go_ret2
    exact ⟨s[0], 1, rfl, HE.out, hln, Below.refl _ _⟩

end Go.Proofs.YtaocjmipjibiaabGreatDoor
