/- What the document's Put and PutText do. -/
import Derived.Test.YtlioiblpcpaejaaGreatXC
namespace Go.Proofs.YtlioiblpcpaejaaGreat
open Go.RowKit
set_option linter.unusedVariables false

set_option maxRecDepth 100000 in
set_option maxHeartbeats 1000000 in
/-- The document's Put. -/
theorem refPut_any (v : Value) (p : List UInt8) (n : Int) (w : World) (hn : n < 9223372036854775808) (h : IsB w v p) (hl : p.length + (putL n.toNat).length ≤ 140737488355328) :
    Calls Tryz.prog 49 #[v, .int .i64 n] w fun e w' => ∃ v', e = .returned v' ∧ OwnB w.heap.size w' v' (p ++ putL n.toNat) ∧ Below w.heap.size w w' := by
  obtain ⟨i0, hi, hz0, hz1, hz2⟩ := info_parts infoByte
  have H1 : Hid (IsB w v p) := h
  clear h
  have HS : Hid (w.heap.size = w.heap.size) := rfl
  rcases Int.lt_or_le n 0 with hneg | hpos
  all_goals (
    go_enter Tryz.func49, Tryz.ntmps49
    go_wp2_with (at_builtin; refine wpList_copyE rfl _ _ rfl _ p rfl rfl H1.out (by omega) ?_; intro v1 w1 ho1 hb1)
    have H0 : Hid (OwnB w.heap.size w1 v1 (p ++ [])) := by show OwnB _ _ _ _; rw [List.append_nil]; exact ho1
    have HB1 : Hid (Below w.heap.size w w1) := hb1
    clear ho1 hb1
    go_loopw [1, 5] (fun x u wr => ∃ (m : Nat) (E : List UInt8), x = .int .i64 (m : Int) ∧ m < 9223372036854775808 ∧ Hid (E ++ putL m = putL n.toNat) ∧ Hid (OwnB w.heap.size wr u (p ++ E)) ∧ Hid (Below w.heap.size w wr)) (fun x _ _ => (intOf x).toNat)
    case atStart => exact ⟨n.toNat, [], by first | (congr 1; omega) | (congr 1), by omega, rfl, H0, HB1⟩
    case round =>
      obtain ⟨m, E, rfl, hm, HE, HO, HB⟩ := hrel
      have hsz := HB.out.size
      by_cases hge : m < 128
      · have HP : Hid (putL m = [UInt8.ofNat m]) := putL_lt hge
        have hlen : p.length + E.length + 1 ≤ 140737488355328 := by
          have := congrArg List.length HE.out
          rw [HP.out] at this
          simp at this; omega
        have hgt : ¬ (127 : Int) < (m : Int) := by omega
        go_wp2_with (at_builtin; refine wpList_append_own _ rfl _ _ 22 rfl w.heap.size 5 i0 (.int .u8 0) 1 1 Tryz.underlying22 hi hz0 hz1 hz2 rfl (by decide) _ _ _ rfl (World.ownsRow.alloc HO.out _) ⟨wr.heap.size, 0, none⟩ 1 1 [_] rfl rfl (cell_one_new _ _ _) (fun x hx => by simp at hx; subst hx; rfl) (by unfold maxLen; simp; omega) (by simp; omega) (by simp; omega) ?_; intro v' w3 hown' hgrow3 hnil3)
        go_ret
        refine ⟨_, rfl, ?_, (HB.out.alloc (by omega) _).grown hgrow3 (by simp; omega) (fun j e => (World.ownsRow.lt HO.out j e).1)⟩
        rw [← HE.out, HP.out, ← List.append_assoc]
        exact OwnB.more hown' (by simp) (by simp [cellsB, toNat_of (show m < 256 by omega)])
      · have HP : Hid (putL m = UInt8.ofNat (128 + m % 128) :: putL (m / 128)) := putL_ge hge
        have hlen : p.length + E.length + 1 ≤ 140737488355328 := by
          have := congrArg List.length HE.out
          rw [HP.out] at this
          simp at this; omega
        have hgt : (127 : Int) < (m : Int) := by omega
        go_wp2_with (at_builtin; refine wpList_append_own _ rfl _ _ 22 rfl w.heap.size 5 i0 (.int .u8 0) 1 1 Tryz.underlying22 hi hz0 hz1 hz2 rfl (by decide) _ _ _ rfl (World.ownsRow.alloc HO.out _) ⟨wr.heap.size, 0, none⟩ 1 1 [_] rfl rfl (cell_one_new _ _ _) (fun x hx => by simp at hx; subst hx; rfl) (by unfold maxLen; simp; omega) (by simp; omega) (by simp; omega) ?_; intro v' w3 hown' hgrow3 hnil3)
        have HO3 : Hid (OwnB w.heap.size w3 v' (p ++ (E ++ [UInt8.ofNat (128 + m % 128)]))) := by
          show OwnB _ _ _ _
          rw [← List.append_assoc]
          refine OwnB.more hown' (by simp) ?_
          simp only [cellsB, List.map_cons, List.map_nil]
          rw [toNat_of (show 128 + m % 128 < 256 by omega)]
          congr 3
        have HE3 : Hid ((E ++ [UInt8.ofNat (128 + m % 128)]) ++ putL (m / 128) = putL n.toNat) := by show _ = _; rw [← HE.out, HP.out]; simp
        go_roundw
        case rel => exact ⟨m / 128, _, by congr 1, by omega, HE3, HO3, (HB.out.alloc (by omega) _).grown hgrow3 (by simp; omega) (fun j e => (World.ownsRow.lt HO.out j e).1)⟩
        case measure => simp [intOf]; omega)

set_option maxRecDepth 100000 in
set_option maxHeartbeats 1000000 in
/-- The document's PutText. -/
theorem refPutText_any (v : Value) (p : List UInt8) (s : ByteArray) (w : World) (h : IsB w v p) (hl : p.length + (textB s).length ≤ 140737488355328) :
    Calls Tryz.prog 50 #[v, .string s] w fun e w' => ∃ v', e = .returned v' ∧ OwnB w.heap.size w' v' (p ++ textB s) ∧ Below w.heap.size w w' := by
  obtain ⟨i0, hi, hz0, hz1, hz2⟩ := info_parts infoByte
  have H1 : Hid (IsB w v p) := h
  have HT : Hid (textB s = putL s.size ++ s.data.toList) := rfl
  have hls := textB_length s
  have hdl : s.data.toList.length = s.size := by rw [Array.length_toList]; rfl
  have HDL : Hid (s.data.toList.length = s.size) := hdl
  have hs0 : (s.size : Int) < 9223372036854775808 := by omega
  have HL1 : Hid (p.length + (putL ((s.size : Nat) : Int).toNat).length ≤ 140737488355328) := by show _ ≤ _; rw [Int.toNat_natCast]; omega
  have HLS : Hid (p.length + (putL s.size).length + s.size ≤ 140737488355328) := by show _ ≤ _; omega
  have hss : s.size ≤ 140737488355328 := by omega
  clear h hls hdl
  go_enter Tryz.func50, Tryz.ntmps50
  go_wp2_with fail
  refine (refPut_any _ p (s.size : Int) _ hs0 H1.out HL1.out).mono ?_
  rintro e w1 ⟨v1, rfl, ho1, hb1⟩
  rw [Int.toNat_natCast] at ho1
  have HO1 : Hid (OwnB w.heap.size w1 v1 ((p ++ putL s.size) ++ s.data.toList.take 0)) := by show OwnB _ _ _ _; rw [List.take_zero, List.append_nil]; exact ho1
  have HB1 : Hid (Below w.heap.size w w1) := hb1
  clear ho1 hb1
  go_wp2
  go_loopw [5, 6] (fun u i wr => ∃ k : Nat, k ≤ s.size ∧ i = .int .i64 (k : Int) ∧ Hid (OwnB w.heap.size wr u ((p ++ putL s.size) ++ s.data.toList.take k)) ∧ Hid (Below w.heap.size w wr)) (fun _ i _ => s.size - (intOf i).toNat)
  case atStart => exact ⟨0, Nat.zero_le _, rfl, HO1, HB1⟩
  case round =>
    obtain ⟨k, hk, rfl, HO, HB⟩ := hrel
    have hsz := HB.out.size
    by_cases hlt : k < s.size
    · have k1 : (k : Int) < (s.size : Int) := by omega
      have k0 : (0 : Int) ≤ (k : Int) := by omega
      have HTS : Hid (s.data.toList.take (k + 1) = s.data.toList.take k ++ [s.data[k]'hlt]) := by
        show _ = _
        rw [List.take_succ_eq_append_getElem (by rw [HDL.out]; exact hlt)]
        simp
      have HLen : Hid (((p ++ putL s.size) ++ s.data.toList.take k).length + 1 ≤ 140737488355328) := by
        show _ ≤ _
        have h1 := HLS.out
        have h2 := HDL.out
        simp only [List.length_append, List.length_take]
        omega
      go_wp2_with (at_builtin; refine wpList_append_own _ rfl _ _ 22 rfl w.heap.size 5 i0 (.int .u8 0) 1 1 Tryz.underlying22 hi hz0 hz1 hz2 rfl (by decide) _ _ _ rfl (World.ownsRow.alloc HO.out _) ⟨wr.heap.size, 0, none⟩ 1 1 [_] rfl rfl (cell_one_new _ _ _) (fun x hx => by simp at hx; subst hx; rfl) (by have := HLen.out; unfold maxLen; omega) (by have := HLen.out; omega) (by simp; omega) ?_; intro v' w3 hown' hgrow3 hnil3)
      have HO3 : Hid (OwnB w.heap.size w3 v' ((p ++ putL s.size) ++ s.data.toList.take (k + 1))) := by
        show OwnB _ _ _ _
        rw [HTS.out, ← List.append_assoc]
        exact OwnB.more hown' rfl rfl
      go_roundw
      case rel => exact ⟨k + 1, by omega, by go_num, HO3, (HB.out.alloc (by omega) _).grown hgrow3 (by simp; omega) (fun j e => (World.ownsRow.lt HO.out j e).1)⟩
      case measure => simp [intOf]; omega
    · obtain rfl : k = s.size := by omega
      have HTK : Hid (s.data.toList.take s.size = s.data.toList) := by show _ = _; rw [← HDL.out, List.take_length]
      rw [HTK.out] at HO
      go_wp2
      go_ret
      refine ⟨_, rfl, ?_, HB.out⟩
      rw [HT.out, ← List.append_assoc]
      exact HO.out

end Go.Proofs.YtlioiblpcpaejaaGreat
