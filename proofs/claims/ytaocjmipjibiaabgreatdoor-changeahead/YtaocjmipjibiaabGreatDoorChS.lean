/- What the methods of a text that is read word by word tell: a kind, a stamp, a number, a clock. -/
import Derived.Test.YtaocjmipjibiaabGreatDoorChR
namespace Go.Proofs.YtaocjmipjibiaabGreatDoor
open Go.RowKit
set_option linter.unusedVariables false
set_option linter.unusedSimpArgs false

/-- Where a reader stands: what lay ahead lies as it lay; this text is left. -/
def RdSt (w0 : World) (g : Nat) (s : ByteArray) (w : World) : Prop := Env w0 ∧ Below w0.heap.size w0 w ∧ w0.heap.size ≤ g ∧ WdIs w g s ∧ s.size ≤ 281474976710656
theorem RdSt.env {w0 : World} {g : Nat} {s : ByteArray} {w : World} (h : RdSt w0 g s w) : Env w := h.1.below h.2.1
theorem RdSt.lt {w0 : World} {g : Nat} {s : ByteArray} {w : World} (h : RdSt w0 g s w) : g < w.heap.size := h.2.2.2.1.lt
theorem RdSt.below {w0 : World} {g : Nat} {s : ByteArray} {w w' : World} (h : RdSt w0 g s w) (hb : Below w.heap.size w w') : RdSt w0 g s w' :=
  ⟨h.1, h.2.1.trans (hb.mono h.2.1.size), h.2.2.1, h.2.2.2.1.below hb, h.2.2.2.2⟩
theorem RdSt.out {w0 : World} {g : Nat} {s s2 : ByteArray} {w w' : World} (h : RdSt w0 g s w) (ho : Out g w w') (hw : WdIs w' g s2) (hs : s2.size ≤ 281474976710656) : RdSt w0 g s2 w' :=
  ⟨h.1, h.2.1.trans (ho.1.mono h.2.2.1), h.2.2.1, hw, hs⟩
theorem outBelow {g : Nat} {w w' : World} (hg : g ≤ w.heap.size) (hb : Below w.heap.size w w') : Out g w w' := (Out.refl g w).below hg hb

set_option maxHeartbeats 1000000 in
theorem numberW_any (w0 : World) (g : Nat) (s : ByteArray) (w : World) (h : RdSt w0 g s w) :
    Calls Tryz.prog 47 #[.pointer (some ⟨g, 0, none⟩)] w fun e w' => ∃ n s2, e = .returned (.int .i64 n) ∧ NumW (hdW s.data.toList) n ∧ s2.data.toList = tlW s.data.toList ∧ RdSt w0 g s2 w' ∧ Out g w w' := by
  have H : Hid (RdSt w0 g s w) := h
  clear h
  go_enter Tryz.func47, Tryz.ntmps47
  go_wp2_with fail
  refine (next_any g s _ H.out.2.2.2.1 H.out.2.2.2.2).mono ?_
  rintro e w1 ⟨s1, s2, rfl, ⟨e1, e2⟩, ⟨z1, z2⟩, hw1, ho1⟩
  have H1 : Hid (RdSt w0 g s2 w1) := H.out.out ho1 hw1 z2
  have HO1 : Hid (Out g w w1) := ho1
  have HE : Hid (s1.data.toList = hdW s.data.toList ∧ s2.data.toList = tlW s.data.toList) := ⟨e1, e2⟩
  clear ho1 hw1 e1 e2
  go_wp2_with fail
  refine (parseNumber_any s1 z1 _ H1.out.env).mono ?_
  rintro e w2 ⟨n, b, rfl, hn, hb⟩
  have HN : Hid (NumIs s1.data.toList n b) := hn
  have H2 : Hid (RdSt w0 g s2 w2) := H1.out.below hb
  have HO2 : Hid (Out g w w2) := HO1.out.below (Nat.le_of_lt H1.out.lt) hb
  clear hn hb
  go_wp2
  go_ret
  exact ⟨n, s2, rfl, ⟨b, HE.out.1 ▸ HN.out⟩, HE.out.2, H2.out, HO2.out⟩

set_option maxHeartbeats 1000000 in
theorem clockW_any (w0 : World) (g : Nat) (s : ByteArray) (w : World) (h : RdSt w0 g s w) :
    Calls Tryz.prog 48 #[.pointer (some ⟨g, 0, none⟩)] w fun e w' => ∃ v d s2, e = .returned v ∧ ClockW (hdW s.data.toList) d ∧ s2.data.toList = tlW s.data.toList ∧ OwnI w.heap.size w' v d ∧ d.length ≤ 64 ∧ RdSt w0 g s2 w' ∧ Out g w w' := by
  have H : Hid (RdSt w0 g s w) := h
  clear h
  go_enter Tryz.func48, Tryz.ntmps48
  go_wp2_with fail
  refine (next_any g s _ H.out.2.2.2.1 H.out.2.2.2.2).mono ?_
  rintro e w1 ⟨s1, s2, rfl, ⟨e1, e2⟩, ⟨z1, z2⟩, hw1, ho1⟩
  have H1 : Hid (RdSt w0 g s2 w1) := H.out.out ho1 hw1 z2
  have HO1 : Hid (Out g w w1) := ho1
  have HE : Hid (s1.data.toList = hdW s.data.toList ∧ s2.data.toList = tlW s.data.toList) := ⟨e1, e2⟩
  clear ho1 hw1 e1 e2
  go_wp2_with fail
  refine (parseK_any s1 z1 _ H1.out.env).mono ?_
  rintro e w2 ⟨v, d, k, rfl, hv, hl, hn, hb⟩
  have HN : Hid (ParseC s1.data.toList d k) := hn
  have HV : Hid (OwnI w.heap.size w2 v d) := by
    refine ⟨hv.1, ?_⟩
    rcases hv.2 with hq | ⟨g', cap, cur, hv', hg, rest⟩
    · exact .inl hq
    · exact .inr ⟨g', cap, cur, hv', Nat.le_trans HO1.out.size hg, rest⟩
  have H2 : Hid (RdSt w0 g s2 w2) := H1.out.below hb
  have HO2 : Hid (Out g w w2) := HO1.out.below (Nat.le_of_lt H1.out.lt) hb
  clear hn hb hv
  go_wp2
  go_ret
  exact ⟨v, d, s2, rfl, ⟨k, HE.out.1 ▸ HN.out⟩, HE.out.2, HV.out, hl, H2.out, HO2.out⟩

set_option maxHeartbeats 2000000 in
set_option maxRecDepth 100000 in
theorem stampW_any (w0 : World) (g : Nat) (s : ByteArray) (w : World) (h : RdSt w0 g s w) :
    Calls Tryz.prog 46 #[.pointer (some ⟨g, 0, none⟩)] w fun e w' => ∃ c r s2, e = .returned (.agg #[.int .i64 c, .int .i64 r]) ∧ StampW (hdW s.data.toList) c r ∧ s2.data.toList = tlW s.data.toList ∧ RdSt w0 g s2 w' ∧ Out g w w' := by
  have hg := h.lt
  have HB0 : Hid (Below w.heap.size w (w.alloc (.cells #[.int .i64 0, .int .i64 0] 23))) := (Below.refl _ _).alloc (Nat.le_refl _) _
  have H : Hid (RdSt w0 g s (w.alloc (.cells #[.int .i64 0, .int .i64 0] 23))) := h.below HB0.out
  have HR0 : Hid ((w.alloc (.cells #[.int .i64 0, .int .i64 0] 23)).heap[w.heap.size]? = some (.cells #[.int .i64 0, .int .i64 0] 23)) := heap_alloc_new _ _
  clear h
  go_enter Tryz.func46, Tryz.ntmps46
  go_wp2_with fail
  refine (next_any g s _ H.out.2.2.2.1 H.out.2.2.2.2).mono ?_
  rintro e w1 ⟨s1, s2, rfl, ⟨e1, e2⟩, ⟨z1, z2⟩, hw1, ho1⟩
  have H1 : Hid (RdSt w0 g s2 w1) := H.out.out ho1 hw1 z2
  have HO1 : Hid (Out g w w1) := (outBelow (Nat.le_of_lt hg) HB0.out).trans ho1
  have HE : Hid (s1.data.toList = hdW s.data.toList ∧ s2.data.toList = tlW s.data.toList) := ⟨e1, e2⟩
  have HR1 : Hid (w1.heap[w.heap.size]? = some (.cells #[.int .i64 0, .int .i64 0] 23)) := (ho1.2 _ (by simp) (by omega)).trans HR0.out
  clear ho1 hw1 e1 e2
  go_wp2_with fail
  refine (parseS_any s1 z1 _ H1.out.env).mono ?_
  rintro e w2 ⟨c, r, k, rfl, hn, hb⟩
  have hlt1 : w.heap.size < w1.heap.size := (Array.getElem?_eq_some_iff.1 HR1.out).1
  have HN : Hid (ParseIs s1.data.toList c r k) := hn
  have H2 : Hid (RdSt w0 g s2 w2) := H1.out.below hb
  have HO2 : Hid (Out g w w2) := HO1.out.below (Nat.le_of_lt H1.out.lt) hb
  have HR2 : Hid (w2.heap[w.heap.size]? = some (.cells #[.int .i64 0, .int .i64 0] 23)) := (hb.block _ hlt1).trans HR1.out
  have hlt2 : w.heap.size < w2.heap.size := (Array.getElem?_eq_some_iff.1 HR2.out).1
  clear hn hb
  have k0 := cell_of_row _ _ 0 _ _ _ HR2.out
  have k1 := cell_of_row _ _ 1 _ _ _ HR2.out
  have f0 := frozen_of_row _ _ 0 _ _ HR2.out
  have f1 := frozen_of_row _ _ 1 _ _ HR2.out
  simp only [List.getElem?_toArray, List.getElem?_cons_zero, List.getElem?_cons_succ] at k0 k1
  have HR4 : Hid (((w2.setCell ⟨w.heap.size, 0, none⟩ (.int .i64 c)).setCell ⟨w.heap.size, 1, none⟩ (.int .i64 r)).heap[w.heap.size]? = some (.cells #[.int .i64 c, .int .i64 r] 23)) := heap_setCell_same _ _ 1 _ _ (.int .i64 r) (heap_setCell_same w2 _ 0 _ _ (.int .i64 c) HR2.out)
  have HR5 : Hid ((((w2.setCell ⟨w.heap.size, 0, none⟩ (.int .i64 c)).setCell ⟨w.heap.size, 1, none⟩ (.int .i64 r)).alloc (.cells #[.int .i64 c, .int .i64 r] 23)).heap[w.heap.size]? = some (.cells #[.int .i64 c, .int .i64 r] 23)) := (((Below.refl _ _).alloc (Nat.le_refl _) _).block _ (Array.getElem?_eq_some_iff.1 HR4.out).1).trans HR4.out
  go_wp2
  (try simp only [Exit.inBlock, Exit.then])
  refine bodyPost_ret (v := .agg #[.int .i64 c, .int .i64 r]) ?res rfl ?post
  case res => exact results_cell_row rfl _ _ w.heap.size _ _ _ _ rfl HR5.out Tryz.underlying23 rfl (by kernel_rfl)
  have H4 := H2.out
  have hng : w.heap.size ≠ g := by omega
  have hw0 : w0.heap.size ≤ w.heap.size := by have := H4.2.2.1; omega
  have bz : Below ((w2.setCell ⟨w.heap.size, 0, none⟩ (.int .i64 c)).setCell ⟨w.heap.size, 1, none⟩ (.int .i64 r)).heap.size ((w2.setCell ⟨w.heap.size, 0, none⟩ (.int .i64 c)).setCell ⟨w.heap.size, 1, none⟩ (.int .i64 r)) (((w2.setCell ⟨w.heap.size, 0, none⟩ (.int .i64 c)).setCell ⟨w.heap.size, 1, none⟩ (.int .i64 r)).alloc (.cells #[.int .i64 c, .int .i64 r] 23)) := (Below.refl _ _).alloc (Nat.le_refl _) _
  have H5 : RdSt w0 g s2 ((w2.setCell ⟨w.heap.size, 0, none⟩ (.int .i64 c)).setCell ⟨w.heap.size, 1, none⟩ (.int .i64 r)) := by
    refine ⟨H4.1, (H4.2.1.setCell hw0 _).setCell hw0 _, H4.2.2.1, ?_, H4.2.2.2.2⟩
    show _ = _
    rw [heap_setCell_other _ ⟨w.heap.size, 1, none⟩ g _ (fun e => hng e.symm), heap_setCell_other _ ⟨w.heap.size, 0, none⟩ g _ (fun e => hng e.symm)]
    exact H4.2.2.2.1
  have O5 : Out g w ((w2.setCell ⟨w.heap.size, 0, none⟩ (.int .i64 c)).setCell ⟨w.heap.size, 1, none⟩ (.int .i64 r)) := by
    refine ⟨(HO2.out.1.setCell (Nat.le_of_lt hg) _).setCell (Nat.le_of_lt hg) _, fun j hj hne => ?_⟩
    rw [heap_setCell_other _ ⟨w.heap.size, 1, none⟩ j _ (by show j ≠ w.heap.size; omega), heap_setCell_other _ ⟨w.heap.size, 0, none⟩ j _ (by show j ≠ w.heap.size; omega)]
    exact HO2.out.2 j hj hne
  exact ⟨c, r, s2, rfl, ⟨k, HE.out.1 ▸ HN.out⟩, HE.out.2, H5.below bz, O5.below (Nat.le_of_lt H5.lt) bz⟩

theorem kindOf_none {l : List UInt8} (h : ∀ j : Nat, 1 ≤ j → j ≤ 5 → l ≠ kindL (j : Int)) : kindOf l = 0 := by
  have h1 : l ≠ kindL 1 := h 1 (by omega) (by omega)
  have h2 : l ≠ kindL 2 := h 2 (by omega) (by omega)
  have h3 : l ≠ kindL 3 := h 3 (by omega) (by omega)
  have h4 : l ≠ kindL 4 := h 4 (by omega) (by omega)
  have h5 : l ≠ kindL 5 := h 5 (by omega) (by omega)
  unfold kindOf
  rw [if_neg h1, if_neg h2, if_neg h3, if_neg h4, if_neg h5]

set_option maxHeartbeats 2000000 in
set_option maxRecDepth 100000 in
theorem kindW_any (w0 : World) (g : Nat) (s : ByteArray) (w : World) (h : RdSt w0 g s w) :
    Calls Tryz.prog 45 #[.pointer (some ⟨g, 0, none⟩)] w fun e w' => ∃ s2, e = .returned (.int .i64 (kindOf (hdW s.data.toList))) ∧ s2.data.toList = tlW s.data.toList ∧ RdSt w0 g s2 w' ∧ Out g w w' := by
  have H : Hid (RdSt w0 g s w) := h
  clear h
  go_enter Tryz.func45, Tryz.ntmps45
  go_wp2_with fail
  refine (next_any g s _ H.out.2.2.2.1 H.out.2.2.2.2).mono ?_
  rintro e w1 ⟨s1, s2, rfl, ⟨e1, e2⟩, ⟨z1, z2⟩, hw1, ho1⟩
  have H1 : Hid (RdSt w0 g s2 w1) := H.out.out ho1 hw1 z2
  have HO1 : Hid (Out g w w1) := ho1
  have HE2 : Hid (s2.data.toList = tlW s.data.toList) := e2
  have HE1 : Hid (s1.data.toList = hdW s.data.toList) := e1
  clear ho1 hw1 e1 e2
  go_wp2_with fail
  go_loopw [7] (fun i wr => ∃ k : Nat, k ≤ 5 ∧ i = .int .i64 (k : Int) ∧ Hid (∀ j : Nat, 1 ≤ j → j ≤ k → s1.data.toList ≠ kindL (j : Int)) ∧ wr = w1) (fun i _ => 5 - (intOf i).toNat)
  case atStart => exact ⟨0, by omega, rfl, fun j h1 h2 => by omega, rfl⟩
  case round =>
    obtain ⟨k, hk, rfl, HA, hw⟩ := hrel
    subst hw
    by_cases hlt : k < 5
    · have k1 : (k : Int) < 5 := by omega
      by_cases hq : s1.data.toList = kindL ((k : Int) + 1)
      · have qa : ((txt (kindL ((k : Int) + 1))).toList == s1.toList) = true := by rw [ByteArray.toList_eq, ByteArray.toList_eq, hq]; simp [txt]
        have HE : Hid (kindOf s1.data.toList = (k : Int) + 1) := by show _ = _; rw [hq]; exact kindOf_L _ (by simp [kindB]; omega)
        clear hq
        go_wp2_with fail
        refine (kindText_any _ _).mono ?_
        rintro e w' ⟨rfl, hw⟩
        replace hw := hw.symm
        subst hw
        go_wp2
        go_ret
        exact ⟨s2, ret_i (by rw [← HE1.out]; exact HE.out.symm), HE2.out, H1.out, HO1.out⟩
      · have qa : ((txt (kindL ((k : Int) + 1))).toList == s1.toList) = false := by rw [ByteArray.toList_eq, ByteArray.toList_eq, beq_eq_false_iff_ne]; exact fun e => hq (by rw [← e]; simp [txt])
        have HA2 : Hid (∀ j : Nat, 1 ≤ j → j ≤ k + 1 → s1.data.toList ≠ kindL (j : Int)) := fun j h1 h2 => by
          by_cases hj : j = k + 1
          · subst hj; exact hq
          · exact HA.out j h1 (by omega)
        clear hq
        go_wp2_with fail
        refine (kindText_any _ _).mono ?_
        rintro e w' ⟨rfl, hw⟩
        replace hw := hw.symm
        subst hw
        go_wp2
        go_roundw
        case rel => exact ⟨k + 1, by omega, by go_num, HA2, by first | rfl | trivial⟩
        case measure => simp [intOf]; omega
    · obtain rfl : k = 5 := by omega
      have HE : Hid (kindOf s1.data.toList = 0) := kindOf_none HA.out
      go_wp2
      go_ret
      exact ⟨s2, ret_i (by rw [← HE1.out]; exact HE.out.symm), HE2.out, H1.out, HO1.out⟩

end Go.Proofs.YtaocjmipjibiaabGreatDoor
