/- What Unquote makes of any text. -/
import Derived.Test.YtaocjmipjibiaabGreatDoorChU
namespace Go.Proofs.YtaocjmipjibiaabGreatDoor
open Go.RowKit
set_option linter.unusedVariables false
set_option linter.unusedSimpArgs false

def UnqPost (l : List UInt8) (w : World) (e : Ending) (w' : World) : Prop := ∃ (t : List UInt8) (b : Bool), e = .returned (.tuple #[.string (txt t), .bool b]) ∧ UnqIs l t b ∧ t.length ≤ l.length ∧ Below w.heap.size w w'
def strLen (v : Value) : Nat := match v with | .string s => s.size | _ => 0
theorem extract_drop (r : ByteArray) (n : Nat) : (r.extract n r.size).data.toList = r.data.toList.drop n := by
  rw [← ByteArray.toList_eq, Lib.extract_toList, List.take_of_length_le (by rw [List.length_drop]; simp)]
theorem ends_mark (s : ByteArray) (h : 2 ≤ s.size) (h1 : s[0] = 34) (h2 : s[s.size - 1] = 34) : s.data.toList = 34 :: ((s.extract 1 (s.size - 1)).data.toList ++ [34]) := by
  have hsl : s.data.toList.length = s.size := by simp
  have e1 : (s.extract 1 (s.size - 1)).data.toList = (s.data.toList.drop 1).take (s.size - 1 - 1) := by rw [← ByteArray.toList_eq, Lib.extract_toList]
  rw [e1]
  have hd := list_one s (by omega)
  rw [h1] at hd
  conv => lhs; rw [hd]
  congr 1
  have hl : s.size - 1 - 1 < (s.data.toList.drop 1).length := by rw [List.length_drop, hsl]; omega
  have := List.take_succ_eq_append_getElem hl
  rw [List.take_of_length_le (by rw [List.length_drop, hsl]; omega)] at this
  rw [this]
  congr 2
  rw [List.getElem_drop, ← h2]
  have hx : 1 + (s.size - 1 - 1) = s.size - 1 := by omega
  rw [show s[s.size - 1] = s.data.toList[s.size - 1]'(by omega) from rfl]
  congr 1

set_option maxHeartbeats 4000000 in
set_option maxRecDepth 100000 in
/-- change.Unquote. -/
theorem unquote_any (s : ByteArray) (hs : s.size ≤ 140737488355328) (w : World) :
    Calls Tryz.prog 50 #[.string s] w fun e w' => UnqPost s.data.toList w e w' := by
  obtain ⟨i0, hi, hz0, hz1, hz2⟩ := info_parts infoByte
  have hsl : s.data.toList.length = s.size := by simp
  by_cases h2 : s.size < 2
  · have HE : Hid (UnqIs s.data.toList [] false) := unq_short (by omega)
    have q : (s.size : Int) < 2 := by omega
    clear hsl
    go_enter Tryz.func50, Tryz.ntmps50
    go_wp2
    go_ret2
    exact ⟨[], false, rfl, HE.out, Nat.zero_le _, Below.refl _ _⟩
  · have q : ¬ (s.size : Int) < 2 := by omega
    have z0 : (0 : Int) < (s.size : Int) := by omega
    have n0 : 0 < s.size := by omega
    have n1 : s.size - 1 < s.size := by omega
    have cl : ((s.size : Int) - 1).toNat = s.size - 1 := by omega
    have z1 : (0 : Int) ≤ (s.size : Int) - 1 := by omega
    have z2 : (s.size : Int) - 1 < (s.size : Int) := by omega
    by_cases h34 : s[0] = 34
    · have q1 : ((s[0].toNat : Int) != 34) = false := by rw [h34]; rfl
      by_cases hl34 : s[s.size - 1] = 34
      · have HM : Hid (s.data.toList = 34 :: ((s.extract 1 (s.size - 1)).data.toList ++ [34])) := ends_mark s (by omega) h34 hl34
        have q2 : ((s[s.size - 1].toNat : Int) != 34) = false := by rw [hl34]; rfl
        clear h34 hl34 hsl
        go_enter Tryz.func50, Tryz.ntmps50
        have HS0 : Hid (s.data.toList = 34 :: (bodyL [] ++ (s.extract 1 (s.size - 1)).data.toList ++ [34])) := HM.out
        have hxz : (s.extract 1 (s.size - 1)).size ≤ s.size - 2 := by rw [ByteArray.size_extract]; omega
        go_wp2_with fail
        go_loopw [4, 5] (fun ov rv wr => ∃ (r : ByteArray) (out : List UInt8), rv = .string r ∧ out.length + r.size ≤ s.size ∧ Hid (s.data.toList = 34 :: (bodyL out ++ r.data.toList ++ [34])) ∧ Hid (OwnB w.heap.size wr ov out) ∧ Hid (Below w.heap.size w wr)) (fun _ rv _ => strLen rv)
        case atStart => exact ⟨s.extract 1 (s.size - 1), [], by first | rfl | simp, by simp only [List.length_nil]; omega, HS0, OwnB.nil0 _ _, Below.refl _ _⟩
        case round =>
          obtain ⟨r, out, rfl, hro, HS, HO, HB⟩ := hrel
          have hsz := HB.out.size
          by_cases hr0 : r.size = 0
          · have hrn : r.data.toList = [] := List.eq_nil_of_length_eq_zero (by rw [← hr0]; simp)
            have qa : (r.toList == []) = true := by rw [ByteArray.toList_eq, hrn]; rfl
            have qb : (r.toList != []) = false := by rw [ByteArray.toList_eq, hrn]; rfl
            have HE : Hid (UnqIs s.data.toList out true) := by show UnqIs _ _ _; rw [HS.out, hrn, List.append_nil]; exact unq_good
            have cv := conv_txt (HO.out.isB (by omega))
            clear hrn
            go_wp2
            go_ret2
            exact ⟨out, true, rfl, HE.out, by simp; omega, HB.out⟩
          · have hrn : r.data.toList ≠ [] := fun h => hr0 (by have := congrArg List.length h; simpa using this)
            have qa : (r.toList == []) = false := by rw [ByteArray.toList_eq, beq_eq_false_iff_ne]; exact hrn
            have qb : (r.toList != []) = true := by rw [ByteArray.toList_eq, bne_iff_ne]; exact hrn
            have HRN : Hid (r.data.toList ≠ []) := hrn
            clear hrn
            have hpos : 0 < r.size := by omega
            obtain ⟨ao, co, e0⟩ := HO.out.form
            subst e0
            go_wp2_with fail
            refine (readByte_any r hpos (by omega) _).mono ?_
            rintro e w1 ⟨b, n, rfl, hbi, hn, hb1⟩
            have hrl : r.data.toList.length = r.size := by simp
            rw [hrl] at hn
            have HBI : Hid (ByteIs r.data.toList b n) := hbi
            have HB1 : Hid (Below w.heap.size w w1) := HB.out.trans (hb1.mono hsz)
            have HO1 : Hid (OwnB w.heap.size w1 (.slice ao out.length co) out) := HO.out.below hb1
            have hsz1 := HB1.out.size
            clear hbi hb1 hrl
            by_cases hn0 : n = 0
            · subst hn0
              have HE : Hid (UnqIs s.data.toList [] false) := by
                show UnqIs _ _ _
                rw [HS.out]
                rcases HBI.out with ⟨_, h⟩ | ⟨h, _⟩
                · exact unq_bad HRN.out h
                · have := (escL_len b).1; omega
              go_wp2
              go_ret2
              exact ⟨[], false, rfl, HE.out, Nat.zero_le _, HB1.out⟩
            · have qn : ((n : Int) == 0) = false := by simp; omega
              have m0 : (0 : Int) ≤ (n : Int) := by omega
              have m1 : (n : Int) ≤ (r.size : Int) := by omega
              have HS2 : Hid (s.data.toList = 34 :: (bodyL (out ++ [b]) ++ (r.extract n r.size).data.toList ++ [34])) := by
                show _ = _
                rw [HS.out, bodyL_snoc, extract_drop]
                rcases HBI.out with ⟨h, _⟩ | ⟨_, h⟩
                · exact absurd h hn0
                · conv => lhs; rw [h]
                  simp
              have hxs : (r.extract n r.size).size = r.size - n := by rw [ByteArray.size_extract]; omega
              have hnp : 1 ≤ n := by omega
              clear hn0
              go_wp2_with (at_builtin; refine wpList_append_own _ rfl _ _ 60 rfl w.heap.size 5 i0 (.int .u8 0) 1 1 Tryz.underlying60 hi hz0 hz1 hz2 rfl (by decide) _ _ _ rfl (World.ownsRow.alloc HO1.out _) ⟨w1.heap.size, 0, none⟩ 1 1 [_] rfl rfl (cell_one_new _ _ _) (fun x hx => by simp at hx; subst hx; rfl) (by unfold maxLen; simp; omega) (by simp; omega) (by simp; omega) ?_; intro v' w3 hown' hgrow3 hnil3)
              go_roundw
              case rel => exact ⟨r.extract n r.size, out ++ [b], by first | rfl | simp, by rw [hxs]; simp; omega, HS2, OwnB.more hown' rfl rfl, (HB1.out.alloc (by omega) _).grown hgrow3 (by simp; omega) (fun j e => HO1.out.block j e)⟩
              case measure => simp [strLen]; omega
      · have HE : Hid (UnqIs s.data.toList [] false) := by
          show UnqIs _ _ _
          have hh : s.data.toList = s.data.toList.take (s.size - 1) ++ [s[s.size - 1]] := by
            have h9 : s.size - 1 < s.data.toList.length := by omega
            have := List.take_succ_eq_append_getElem h9
            rw [List.take_of_length_le (by omega)] at this
            exact this
          rw [hh]
          exact unq_last hl34
        have q2 : ((s[s.size - 1].toNat : Int) != 34) = true := by
          simp only [bne_iff_ne, ne_eq]
          intro e
          exact hl34 (UInt8.toNat_inj.1 (by have : s[s.size - 1].toNat = 34 := by omega
                                            rw [this]; rfl))
        clear h34 hl34 hsl
        go_enter Tryz.func50, Tryz.ntmps50
        go_wp2
        go_ret2
        exact ⟨[], false, rfl, HE.out, Nat.zero_le _, Below.refl _ _⟩
    · have HE : Hid (UnqIs s.data.toList [] false) := by show UnqIs _ _ _; rw [list_one s n0]; exact unq_head h34
      have q1 : ((s[0].toNat : Int) != 34) = true := by
        simp only [bne_iff_ne, ne_eq]
        intro e
        exact h34 (UInt8.toNat_inj.1 (by have : s[0].toNat = 34 := by omega
                                         rw [this]; rfl))
      clear h34 hsl
      go_enter Tryz.func50, Tryz.ntmps50
      go_wp2
      go_ret2
      exact ⟨[], false, rfl, HE.out, Nat.zero_le _, Below.refl _ _⟩

end Go.Proofs.YtaocjmipjibiaabGreatDoor
