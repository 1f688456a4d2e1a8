/- What isLetter, isDigit, Name and the document's Name do. -/
import Derived.Test.YtljmlbidbacdjabPlainNm
import Derived.Test.YtljmlbidbacdjabWalksK
namespace Go.Proofs.Ytljmlbidbacdjab
open Go.RowKit
set_option linter.unusedVariables false
set_option linter.unusedSimpArgs false

set_option maxHeartbeats 400000 in
theorem isLetter_any (c : UInt8) (w : World) :
    Calls Try.prog 98 #[.int .u8 (c.toNat : Int)] w fun e w' => e = .returned (.bool (letB c)) ∧ w' = w := by
  by_cases h0 : (97 : Int) ≤ (c.toNat : Int)
  · by_cases h1 : (c.toNat : Int) ≤ 122
    all_goals
      go_enter Try.func98, Try.ntmps98
      go_wp2
      go_ret
      exact ⟨ret_bool (by unfold letB; rw [Bool.eq_iff_iff]; simp; omega), rfl⟩
  · go_enter Try.func98, Try.ntmps98
    go_wp2
    go_ret
    exact ⟨ret_bool (by unfold letB; rw [Bool.eq_iff_iff]; simp; omega), rfl⟩

set_option maxHeartbeats 400000 in
theorem isDigit_any (c : UInt8) (w : World) :
    Calls Try.prog 99 #[.int .u8 (c.toNat : Int)] w fun e w' => e = .returned (.bool (decB c)) ∧ w' = w := by
  by_cases h0 : (48 : Int) ≤ (c.toNat : Int)
  · by_cases h1 : (c.toNat : Int) ≤ 57
    all_goals
      go_enter Try.func99, Try.ntmps99
      go_wp2
      go_ret
      exact ⟨ret_bool (by unfold decB; rw [Bool.eq_iff_iff]; simp; omega), rfl⟩
  · go_enter Try.func99, Try.ntmps99
    go_wp2
    go_ret
    exact ⟨ret_bool (by unfold decB; rw [Bool.eq_iff_iff]; simp; omega), rfl⟩

theorem namB_take {l : List UInt8} {k : Nat} (h : k < l.length) (h1 : (l.take k).all namB = true) (h2 : namB l[k] = true) : (l.take (k + 1)).all namB = true := by
  rw [List.take_succ_eq_append_getElem h, List.all_append, h1]; simp [h2]
theorem namB_no {l : List UInt8} {k : Nat} (h : k < l.length) (h2 : namB l[k] = false) : l.all namB = false := by
  rw [List.all_eq_false]; exact ⟨_, List.getElem_mem h, by simp [h2]⟩

set_option maxHeartbeats 4000000 in
set_option maxRecDepth 100000 in
/-- change.Name. -/
theorem name_any (s : ByteArray) (hs : s.size ≤ 281474976710656) (w : World) :
    Calls Try.prog 82 #[.string s] w fun e w' => e = .returned (.bool (nameL s.data.toList)) ∧ w' = w := by
  have hsl : s.data.toList.length = s.size := by simp
  by_cases h0 : s.size = 0
  · have HE : Hid (nameL s.data.toList = false) := by show _ = _; unfold nameL; rw [hsl, h0]; rfl
    have q1 : (s.size : Int) < 1 := by omega
    clear hsl h0
    go_enter Try.func82, Try.ntmps82
    go_wp2
    go_ret
    exact ⟨ret_bool HE.out.symm, rfl⟩
  · by_cases h32 : 32 < s.size
    · have HE : Hid (nameL s.data.toList = false) := by show _ = _; unfold nameL; rw [hsl, decide_eq_false (by omega)]; rfl
      have q1 : ¬ (s.size : Int) < 1 := by omega
      have q2 : (32 : Int) < (s.size : Int) := by omega
      clear hsl h0
      go_enter Try.func82, Try.ntmps82
      go_wp2
      go_ret
      exact ⟨ret_bool HE.out.symm, rfl⟩
    · have q1 : ¬ (s.size : Int) < 1 := by omega
      have q2 : ¬ (32 : Int) < (s.size : Int) := by omega
      have z0 : 0 < s.size := by omega
      have q3 : (0 : Int) < (s.size : Int) := by omega
      have hh : s.data.toList.headD 0 = s[0] := by
        have hz : 0 < s.data.toList.length := by omega
        rw [show s[0] = s.data.toList[0]'hz from rfl]
        generalize s.data.toList = l at hz
        cases l with
        | nil => simp at hz
        | cons x y => rfl
      cases hl : letB s[0]
      · have HE : Hid (nameL s.data.toList = false) := by show _ = _; unfold nameL; rw [hh, hl]; simp
        clear hh hsl
        go_enter Try.func82, Try.ntmps82
        go_wp2_with fail
        refine (isLetter_any _ _).mono ?_
        rintro e w' ⟨rfl, hw⟩
        replace hw := hw.symm
        subst hw
        rw [hl]
        go_wp2
        go_ret
        exact ⟨ret_bool HE.out.symm, rfl⟩
      · have HN : Hid (nameL s.data.toList = s.data.toList.all namB) := by show _ = _; unfold nameL; rw [hh, hl, hsl, decide_eq_true (by omega)]; simp
        have HSL : Hid (s.data.toList.length = s.size) := hsl
        clear hh hsl
        go_enter Try.func82, Try.ntmps82
        go_wp2_with fail
        refine (isLetter_any _ _).mono ?_
        rintro e w' ⟨rfl, hw⟩
        replace hw := hw.symm
        subst hw
        rw [hl]
        go_wp2_with fail
        go_loopw [20] (fun i wr => ∃ k : Nat, k ≤ s.size ∧ i = .int .i64 (k : Int) ∧ Hid ((s.data.toList.take k).all namB = true) ∧ wr = w) (fun i _ => s.size - (intOf i).toNat)
        case atStart => exact ⟨0, Nat.zero_le _, rfl, rfl, rfl⟩
        case round =>
          obtain ⟨k, hk, rfl, HA, hw⟩ := hrel
          subst hw
          by_cases hlt : k < s.size
          · have k1 : (k : Int) < (s.size : Int) := by omega
            have k0 : (0 : Int) ≤ (k : Int) := by omega
            have hkl : k < s.data.toList.length := by rw [HSL.out]; exact hlt
            have hsk : s.data.toList[k] = s[k] := by rfl
            cases hc1 : letB s[k]
            · cases hc2 : decB s[k]
              · by_cases hc3 : s[k].toNat = 45
                · have HA2 : Hid ((s.data.toList.take (k + 1)).all namB = true) := namB_take hkl HA.out (by rw [hsk]; simp [namB, hc3])
                  have q5 : ((s[k].toNat : Int) != 45) = false := by simp [hc3]
                  clear hsk hc3
                  go_wp2_with fail
                  refine (isLetter_any _ _).mono ?_
                  rintro e w' ⟨rfl, hw⟩
                  replace hw := hw.symm
                  subst hw
                  rw [hc1]
                  go_wp2_with fail
                  refine (isDigit_any _ _).mono ?_
                  rintro e w' ⟨rfl, hw⟩
                  replace hw := hw.symm
                  subst hw
                  rw [hc2]
                  go_wp2
                  go_roundw
                  case rel => exact ⟨k + 1, by omega, by go_num, HA2, by first | rfl | trivial⟩
                  case measure => simp [intOf]; omega
                · have HE : Hid (nameL s.data.toList = false) := by show _ = _; rw [HN.out]; exact namB_no hkl (by rw [hsk]; simp [namB, hc1, hc2, hc3])
                  have q5 : ((s[k].toNat : Int) != 45) = true := by simp; omega
                  clear hsk hc3
                  go_wp2_with fail
                  refine (isLetter_any _ _).mono ?_
                  rintro e w' ⟨rfl, hw⟩
                  replace hw := hw.symm
                  subst hw
                  rw [hc1]
                  go_wp2_with fail
                  refine (isDigit_any _ _).mono ?_
                  rintro e w' ⟨rfl, hw⟩
                  replace hw := hw.symm
                  subst hw
                  rw [hc2]
                  go_wp2
                  go_ret
                  exact ⟨ret_bool HE.out.symm, rfl⟩
              · have HA2 : Hid ((s.data.toList.take (k + 1)).all namB = true) := namB_take hkl HA.out (by rw [hsk]; simp [namB, hc2])
                clear hsk
                go_wp2_with fail
                refine (isLetter_any _ _).mono ?_
                rintro e w' ⟨rfl, hw⟩
                replace hw := hw.symm
                subst hw
                rw [hc1]
                go_wp2_with fail
                refine (isDigit_any _ _).mono ?_
                rintro e w' ⟨rfl, hw⟩
                replace hw := hw.symm
                subst hw
                rw [hc2]
                go_wp2
                go_roundw
                case rel => exact ⟨k + 1, by omega, by go_num, HA2, by first | rfl | trivial⟩
                case measure => simp [intOf]; omega
            · have HA2 : Hid ((s.data.toList.take (k + 1)).all namB = true) := namB_take hkl HA.out (by rw [hsk]; simp [namB, hc1])
              clear hsk
              go_wp2_with fail
              refine (isLetter_any _ _).mono ?_
              rintro e w' ⟨rfl, hw⟩
              replace hw := hw.symm
              subst hw
              rw [hc1]
              go_wp2
              go_roundw
              case rel => exact ⟨k + 1, by omega, by go_num, HA2, by first | rfl | trivial⟩
              case measure => simp [intOf]; omega
          · obtain rfl : k = s.size := by omega
            have HE : Hid (nameL s.data.toList = true) := by
              show _ = _
              rw [HN.out]
              have := HA.out
              rwa [List.take_of_length_le (by rw [HSL.out]; exact Nat.le_refl _)] at this
            go_wp2
            go_ret
            exact ⟨ret_bool HE.out.symm, rfl⟩


theorem nameL_end {l : List UInt8} (h : l.all namB = true) (h2 : l = [] ∨ letB (l.headD 0) = true) : nameL l = (decide ((1 : Int) ≤ (l.length : Int)) && decide ((l.length : Int) ≤ 32)) := by
  unfold nameL
  rw [h]
  rcases h2 with rfl | h2
  · rfl
  · rw [h2, Bool.eq_iff_iff]; simp; omega
theorem nameL_no {l : List UInt8} (h : l.all namB = false) : nameL l = false := by unfold nameL; rw [h]; simp
theorem nameL_head {l : List UInt8} (h : letB (l.headD 0) = false) : nameL l = false := by unfold nameL; rw [h]; simp
theorem head_zero (s : ByteArray) (h : 0 < s.size) : s.data.toList.headD 0 = s[0] := by
  have hz : 0 < s.data.toList.length := by simp; omega
  rw [show s[0] = s.data.toList[0]'hz from rfl]
  generalize s.data.toList = l at hz
  cases l with
  | nil => simp at hz
  | cons x y => rfl
theorem letB_yes {c : UInt8} (h : (97 : Int) ≤ (c.toNat : Int)) (h2 : (c.toNat : Int) ≤ 122) : letB c = true := by simp [letB]; omega
theorem letB_no {c : UInt8} (h : ¬ ((97 : Int) ≤ (c.toNat : Int) ∧ (c.toNat : Int) ≤ 122)) : letB c = false := by simp [letB]; omega
theorem namB_dash {c : UInt8} (h : c.toNat = 45) : namB c = true := by simp [namB, h]
theorem namB_dec {c : UInt8} (h : (48 : Int) ≤ (c.toNat : Int)) (h2 : (c.toNat : Int) ≤ 57) : namB c = true := by simp [namB, decB]; omega
theorem namB_other {c : UInt8} (h : letB c = false) (h2 : c.toNat ≠ 45) (h3 : ¬ ((48 : Int) ≤ (c.toNat : Int) ∧ (c.toNat : Int) ≤ 57)) : namB c = false := by simp [namB, decB, h, h2]; omega


end Go.Proofs.Ytljmlbidbacdjab
