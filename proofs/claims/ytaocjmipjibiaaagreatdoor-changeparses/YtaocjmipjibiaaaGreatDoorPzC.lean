/- What the document's Parse makes of a text whose first word is no kind. -/
import Derived.Test.YtaocjmipjibiaaaGreatDoorPzB
import Derived.Test.YtaocjmipjibiaaaGreatDoorChWk
namespace Go.Proofs.YtaocjmipjibiaaaGreatDoor
open Go.RowKit
set_option linter.unusedVariables false
set_option linter.unusedSimpArgs false

set_option maxRecDepth 100000 in
set_option maxHeartbeats 16000000 in
theorem refParse_k0 (s : ByteArray) (hs : s.size ≤ 262144) (hx : hdW s.data.toList ≠ [99, 114, 101, 97, 116, 101] ∧ hdW s.data.toList ≠ [109, 111, 118, 101] ∧ hdW s.data.toList ≠ [115, 101, 116] ∧ hdW s.data.toList ≠ [99, 108, 101, 97, 114] ∧ hdW s.data.toList ≠ [116, 101, 120, 116]) (hk : kindOf (hdW s.data.toList) = 0) (w : World) :
    Calls Tryz.prog 30 #[.string s] w fun e w' => ParseDone s.data.toList w e w' := by
  have HX : Hid (hdW s.data.toList ≠ [99, 114, 101, 97, 116, 101] ∧ hdW s.data.toList ≠ [109, 111, 118, 101] ∧ hdW s.data.toList ≠ [115, 101, 116] ∧ hdW s.data.toList ≠ [99, 108, 101, 97, 114] ∧ hdW s.data.toList ≠ [116, 101, 120, 116]) := hx
  have HKZ : Hid (kindOf (hdW s.data.toList) = 0) := hk
  clear hx hk
  have q : ¬ (262144 : Int) < (s.size : Int) := by omega
  have HLn : Hid (s.data.toList.length ≤ 262144) := by show _ ≤ _; rw [size_list]; exact hs
  have HZ : Hid (∀ (m i : Nat) (t : ByteArray), t.data.toList = (wordsL m s.data.toList).getD i [] → t.size ≤ 140737488355328) := fun m i t ht => by have := words_at_len m s.data.toList i; rw [← ht, size_list, size_list] at this; omega
  have HB0 : Hid (Below w.heap.size w (w.alloc (.cells #[.int .i64 0, .int .i64 0, .int .i64 0, .slice none 0 0, .int .i64 0, .int .i64 0, .int .i64 0, .int .i64 0, .int .i64 0, .int .i64 0, .int .i64 0, .string ⟨#[]⟩, .string ⟨#[]⟩] 26))) := (Below.refl _ _).alloc (Nat.le_refl _) _
  have HR0 : Hid ((w.alloc (.cells #[.int .i64 0, .int .i64 0, .int .i64 0, .slice none 0 0, .int .i64 0, .int .i64 0, .int .i64 0, .int .i64 0, .int .i64 0, .int .i64 0, .int .i64 0, .string ⟨#[]⟩, .string ⟨#[]⟩] 26)).heap[w.heap.size]? = some (.cells #[.int .i64 0, .int .i64 0, .int .i64 0, .slice none 0 0, .int .i64 0, .int .i64 0, .int .i64 0, .int .i64 0, .int .i64 0, .int .i64 0, .int .i64 0, .string ⟨#[]⟩, .string ⟨#[]⟩] 26)) := heap_alloc_new _ _
  have hz0 : (w.alloc (.cells #[.int .i64 0, .int .i64 0, .int .i64 0, .slice none 0 0, .int .i64 0, .int .i64 0, .int .i64 0, .int .i64 0, .int .i64 0, .int .i64 0, .int .i64 0, .string ⟨#[]⟩, .string ⟨#[]⟩] 26)).heap.size = w.heap.size + 1 := by simp
  go_enter Tryz.func30, Tryz.ntmps30
  go_wp2_with fail
  refine (refWords_any 6 7 rfl (by omega) s hs _).mono ?_
  rintro e w1 ⟨g, cap, n, Wd, rfl, how, hnw, hmw, hWw, hb1⟩
  have HW1 : Hid (WdsAt w1 g n cap 6 s.data.toList) := ⟨_, Wd, how, hnw, hWw⟩
  have HBx : Hid (Below w.heap.size w w1) := HB0.out.trans (hb1.mono HB0.out.size)
  have HR1 : Hid (w1.heap[w.heap.size]? = some (.cells #[.int .i64 0, .int .i64 0, .int .i64 0, .slice none 0 0, .int .i64 0, .int .i64 0, .int .i64 0, .int .i64 0, .int .i64 0, .int .i64 0, .int .i64 0, .string ⟨#[]⟩, .string ⟨#[]⟩] 26)) := row_below HR0.out hb1
  have hgl := (World.ownsRow.lt how g rfl).1
  rw [hz0] at hgl
  clear how hnw hWw hb1 hz0
  go_wp2_with fail
  refine (refWordAt_any g n cap 6 _ 2 2 rfl _ HW1.out).mono ?_
  rintro e w' ⟨x2, rfl, ex2, hw⟩
  replace hw := hw.symm
  subst hw
  have E2 : Hid (x2.data.toList = (wordsL 6 s.data.toList).getD 2 []) := ex2
  clear ex2
  go_wp2_with fail
  refine (whole_any x2 _).mono ?_
  rintro e w' ⟨sq, okn, rfl, hnum, hw⟩
  replace hw := hw.symm
  subst hw
  have HQ : Hid (NumW (hdW (tlW (tlW s.data.toList))) sq) := ⟨okn, by have := numIs_whole hnum; rw [E2.out, words_at] at this; exact this⟩
  clear hnum
  go_wp2_with fail
  refine (refWordAt_any g n cap 6 _ 3 3 rfl _ HW1.out).mono ?_
  rintro e w' ⟨x3, rfl, ex3, hw⟩
  replace hw := hw.symm
  subst hw
  have E3 : Hid (x3.data.toList = (wordsL 6 s.data.toList).getD 3 []) := ex3
  have hz3 := HZ.out 6 3 x3 ex3
  clear ex3
  go_wp2_with fail
  refine (refParse_any x3 (by omega) _).mono ?_
  rintro e w2 ⟨dv, ds, k2, rfl, hov, hld, hpc, hb2⟩
  have HCL : Hid (ClockW (hdW (tlW (tlW (tlW s.data.toList)))) ds) := ⟨k2, by rw [E3.out, words_at] at hpc; exact hpc⟩
  have HOV : Hid (OwnI w1.heap.size w2 dv ds) := hov
  have hw1 := row_lt HR1.out
  have HR2 : Hid (w2.heap[w.heap.size]? = some (.cells #[.int .i64 0, .int .i64 0, .int .i64 0, .slice none 0 0, .int .i64 0, .int .i64 0, .int .i64 0, .int .i64 0, .int .i64 0, .int .i64 0, .int .i64 0, .string ⟨#[]⟩, .string ⟨#[]⟩] 26)) := row_below HR1.out hb2
  have HW2 : Hid (WdsAt w2 g n cap 6 s.data.toList) := HW1.out.below hb2
  have HBx2 : Hid (Below w.heap.size w w2) := HBx.out.trans (hb2.mono HBx.out.size)
  obtain ⟨ad, cpd, edv⟩ := hov.form
  subst edv
  clear hov hpc hb2 HR1 HBx HW1
  go_wp2_with fail
  refine (refStampAt_any g n cap 6 _ HLn.out 1 1 rfl _ HW2.out).mono ?_
  rintro e w3 ⟨ac, ar, rfl, hsa, hb3⟩
  have HA : Hid (StampW (hdW (tlW s.data.toList)) ac ar) := by rw [words_at] at hsa; exact hsa
  have hg3 : g < w3.heap.size := (HW2.out.below hb3).lt
  have hw3 := row_lt (row_below HR2.out hb3)
  have A3 : Below w3.heap.size w3 (w3.alloc (.cells #[.int .i64 ac, .int .i64 ar, .int .i64 sq, .slice ad ds.length cpd, .int .i64 0, .int .i64 0, .int .i64 0, .int .i64 0, .int .i64 0, .int .i64 0, .int .i64 0, .string ⟨#[]⟩, .string ⟨#[]⟩] 26)) := (Below.refl _ _).alloc (Nat.le_refl _) _
  have S0 : Hid (PSt w w3.heap.size g n cap 6 s.data.toList (.slice ad ds.length cpd) ds #[.int .i64 ac, .int .i64 ar, .int .i64 sq, .slice ad ds.length cpd, .int .i64 0, .int .i64 0, .int .i64 0, .int .i64 0, .int .i64 0, .int .i64 0, .int .i64 0, .string ⟨#[]⟩, .string ⟨#[]⟩] (w3.alloc (.cells #[.int .i64 ac, .int .i64 ar, .int .i64 sq, .slice ad ds.length cpd, .int .i64 0, .int .i64 0, .int .i64 0, .int .i64 0, .int .i64 0, .int .i64 0, .int .i64 0, .string ⟨#[]⟩, .string ⟨#[]⟩] 26))) := ⟨(HBx2.out.trans (hb3.mono HBx2.out.size)).trans (A3.mono (Nat.le_of_lt hw3)), row_below (row_below HR2.out hb3) A3, heap_alloc_new _ _, ⟨hw3, by omega⟩, (HW2.out.below hb3).below A3, ((DpN.of HOV.out hld hw1 hb3.size).below hb3).below A3⟩
  obtain ⟨gc, egc⟩ : ∃ x, x = w3.heap.size := ⟨_, rfl⟩
  rw [← egc] at S0
  have HGC : Hid (gc = w3.heap.size) := egc
  have hgc : w.heap.size < gc := by omega
  clear egc A3 hsa hb3 HR2 HW2 HBx2 HOV hg3
  go_wp2_with fail
  rw [← HGC.out]
  refine (refWordAt_any g n cap 6 _ 0 0 rfl _ S0.out.2.2.2.2.1).mono ?_
  rintro e w4 ⟨x0, rfl, ex0, hw⟩
  have S1 : Hid (PSt w gc g n cap 6 s.data.toList (.slice ad ds.length cpd) ds #[.int .i64 ac, .int .i64 ar, .int .i64 sq, .slice ad ds.length cpd, .int .i64 0, .int .i64 0, .int .i64 0, .int .i64 0, .int .i64 0, .int .i64 0, .int .i64 0, .string ⟨#[]⟩, .string ⟨#[]⟩] w4) := by rw [hw]; exact S0.out
  clear hw S0
  rw [words_at] at ex0
  have EX : Hid (x0.data.toList = hdW s.data.toList) := ex0
  clear ex0
  have c1 : (x0.toList == [99, 114, 101, 97, 116, 101]) = false := by rw [ByteArray.toList_eq, EX.out, beq_eq_false_iff_ne]; exact HX.out.1
  have c2 : (x0.toList == [109, 111, 118, 101]) = false := by rw [ByteArray.toList_eq, EX.out, beq_eq_false_iff_ne]; exact HX.out.2.1
  have c3 : (x0.toList == [115, 101, 116]) = false := by rw [ByteArray.toList_eq, EX.out, beq_eq_false_iff_ne]; exact HX.out.2.2.1
  have c4 : (x0.toList == [99, 108, 101, 97, 114]) = false := by rw [ByteArray.toList_eq, EX.out, beq_eq_false_iff_ne]; exact HX.out.2.2.2.1
  have c5 : (x0.toList == [116, 101, 120, 116]) = false := by rw [ByteArray.toList_eq, EX.out, beq_eq_false_iff_ne]; exact HX.out.2.2.2.2
  clear EX
  obtain ⟨k_0, k_1, k_2, k_3, k_4, k_5, k_6, k_7, k_8, k_9, k_10, k_11, k_12⟩ := row_cells S1.out.2.2.1
  have fz := row_free S1.out.2.2.1
  have RZ : Hid (PSt w gc g n cap 6 s.data.toList (.slice ad ds.length cpd) ds #[.int .i64 ac, .int .i64 ar, .int .i64 sq, .slice ad ds.length cpd, .int .i64 0, .int .i64 0, .int .i64 0, .int .i64 0, .int .i64 0, .int .i64 0, .int .i64 0, .string ⟨#[]⟩, .string ⟨#[]⟩] w4) := S1.out
  have HRD : Hid (∀ d, checkCh d = 0 → s.data.toList = textCh d → ((⟨ac, ar, sq, ds, 0, 0, 0, 0, 0, 0, 0, ⟨#[]⟩, ⟨#[]⟩⟩ : Ch)) = d) := fun d hd e => RefReadIs.back hd (e ▸ (show RefReadIs s.data.toList ⟨ac, ar, sq, ds, 0, 0, 0, 0, 0, 0, 0, ⟨#[]⟩, ⟨#[]⟩⟩ from ⟨by show (0 : Int) = kindOf (hdW s.data.toList); exact HKZ.out.symm, HA.out, HQ.out, HCL.out, _, _, _, rfl, rfl, rfl, fun e => absurd e (by show ¬ (0 : Int) = 1; decide), fun e => absurd e (by show ¬ (0 : Int) = 2; decide), fun e => absurd e (by show ¬ (0 : Int) = 3; decide), fun e => absurd e (by show ¬ (0 : Int) = 4; decide), fun e => absurd e (by show ¬ (0 : Int) = 5; decide)⟩))
  go_wp2_with fail
  refine (refTextCh_any ac ar sq (.slice ad ds.length cpd) 0 0 0 0 0 0 0 ⟨#[]⟩ ⟨#[]⟩ ds (by simp [ByteArray.size]) _ RZ.out.2.2.2.2.2.isI).mono ?_
  rintro e wt ⟨rfl, hbt⟩
  have TZ : Hid (PSt w gc g n cap 6 s.data.toList (.slice ad ds.length cpd) ds #[.int .i64 ac, .int .i64 ar, .int .i64 sq, .slice ad ds.length cpd, .int .i64 0, .int .i64 0, .int .i64 0, .int .i64 0, .int .i64 0, .int .i64 0, .int .i64 0, .string ⟨#[]⟩, .string ⟨#[]⟩] wt) := RZ.out.below hbt
  clear hbt RZ
  clear k_0 k_1 k_2 k_3 k_4 k_5 k_6 k_7 k_8 k_9 k_10 k_11 k_12 fz
  obtain ⟨k_0, k_1, k_2, k_3, k_4, k_5, k_6, k_7, k_8, k_9, k_10, k_11, k_12⟩ := row_cells TZ.out.2.2.1
  have fz := row_free TZ.out.2.2.1
  obtain ⟨z_0, z_1, z_2, z_3, z_4, z_5, z_6, z_7, z_8, z_9, z_10, z_11, z_12⟩ := row_cells TZ.out.2.1
  have fr0 := row_free TZ.out.2.1
  have hgn : gc ≠ w.heap.size := by omega
  by_cases hc : checkCh ⟨ac, ar, sq, ds, 0, 0, 0, 0, 0, 0, 0, ⟨#[]⟩, ⟨#[]⟩⟩ = 0
  · by_cases ht : textCh ⟨ac, ar, sq, ds, 0, 0, 0, 0, 0, 0, 0, ⟨#[]⟩, ⟨#[]⟩⟩ = s.data.toList
    · have qa : ((txt (textCh ⟨ac, ar, sq, ds, 0, 0, 0, 0, 0, 0, 0, ⟨#[]⟩, ⟨#[]⟩⟩)).toList == s.toList) = true := by rw [ByteArray.toList_eq, ByteArray.toList_eq]; rw [← ht]; simp [txt]
      have qb : ((txt (textCh ⟨ac, ar, sq, ds, 0, 0, 0, 0, 0, 0, 0, ⟨#[]⟩, ⟨#[]⟩⟩)).toList != s.toList) = false := by rw [bne, qa]; rfl
      have HP : Hid (ParseCh s.data.toList ⟨ac, ar, sq, ds, 0, 0, 0, 0, 0, 0, 0, ⟨#[]⟩, ⟨#[]⟩⟩ 0) := .inr (.inl ⟨hc, ht.symm, rfl⟩)
      clear ht
      rw [if_pos hc, hc]
      have FR : Hid ((((((((((((((wt.setCell ⟨w.heap.size, 0, none⟩ (.int .i64 ac)).setCell ⟨w.heap.size, 1, none⟩ (.int .i64 ar)).setCell ⟨w.heap.size, 2, none⟩ (.int .i64 sq)).setCell ⟨w.heap.size, 3, none⟩ (.slice ad ds.length cpd)).setCell ⟨w.heap.size, 4, none⟩ (.int .i64 0)).setCell ⟨w.heap.size, 5, none⟩ (.int .i64 0)).setCell ⟨w.heap.size, 6, none⟩ (.int .i64 0)).setCell ⟨w.heap.size, 7, none⟩ (.int .i64 0)).setCell ⟨w.heap.size, 8, none⟩ (.int .i64 0)).setCell ⟨w.heap.size, 9, none⟩ (.int .i64 0)).setCell ⟨w.heap.size, 10, none⟩ (.int .i64 0)).setCell ⟨w.heap.size, 11, none⟩ (.string ⟨#[]⟩)).setCell ⟨w.heap.size, 12, none⟩ (.string ⟨#[]⟩)).heap[w.heap.size]? = some (.cells #[.int .i64 ac, .int .i64 ar, .int .i64 sq, .slice ad ds.length cpd, .int .i64 0, .int .i64 0, .int .i64 0, .int .i64 0, .int .i64 0, .int .i64 0, .int .i64 0, .string ⟨#[]⟩, .string ⟨#[]⟩] 26)) := row_set13 TZ.out.2.1
      have FB : Hid (Below w.heap.size w (((((((((((((wt.setCell ⟨w.heap.size, 0, none⟩ (.int .i64 ac)).setCell ⟨w.heap.size, 1, none⟩ (.int .i64 ar)).setCell ⟨w.heap.size, 2, none⟩ (.int .i64 sq)).setCell ⟨w.heap.size, 3, none⟩ (.slice ad ds.length cpd)).setCell ⟨w.heap.size, 4, none⟩ (.int .i64 0)).setCell ⟨w.heap.size, 5, none⟩ (.int .i64 0)).setCell ⟨w.heap.size, 6, none⟩ (.int .i64 0)).setCell ⟨w.heap.size, 7, none⟩ (.int .i64 0)).setCell ⟨w.heap.size, 8, none⟩ (.int .i64 0)).setCell ⟨w.heap.size, 9, none⟩ (.int .i64 0)).setCell ⟨w.heap.size, 10, none⟩ (.int .i64 0)).setCell ⟨w.heap.size, 11, none⟩ (.string ⟨#[]⟩)).setCell ⟨w.heap.size, 12, none⟩ (.string ⟨#[]⟩))) := (((((((((((((TZ.out.1.setCell (Nat.le_refl _) _).setCell (Nat.le_refl _) _).setCell (Nat.le_refl _) _).setCell (Nat.le_refl _) _).setCell (Nat.le_refl _) _).setCell (Nat.le_refl _) _).setCell (Nat.le_refl _) _).setCell (Nat.le_refl _) _).setCell (Nat.le_refl _) _).setCell (Nat.le_refl _) _).setCell (Nat.le_refl _) _).setCell (Nat.le_refl _) _).setCell (Nat.le_refl _) _)
      go_wp2
      (try simp only [Exit.inBlock, Exit.then])
      refine bodyPost_ret (v := .tuple #[.agg #[.int .i64 ac, .int .i64 ar, .int .i64 sq, .slice ad ds.length cpd, .int .i64 0, .int .i64 0, .int .i64 0, .int .i64 0, .int .i64 0, .int .i64 0, .int .i64 0, .string ⟨#[]⟩, .string ⟨#[]⟩], .int .i64 0]) ?res1 rfl ?post1
      case res1 => exact results_cell_row2 rfl _ _ w.heap.size _ _ _ _ rfl FR.out Tryz.underlying26 rfl (by kernel_rfl) rfl
      have FI : DpN w.heap.size gc (((((((((((((wt.setCell ⟨w.heap.size, 0, none⟩ (.int .i64 ac)).setCell ⟨w.heap.size, 1, none⟩ (.int .i64 ar)).setCell ⟨w.heap.size, 2, none⟩ (.int .i64 sq)).setCell ⟨w.heap.size, 3, none⟩ (.slice ad ds.length cpd)).setCell ⟨w.heap.size, 4, none⟩ (.int .i64 0)).setCell ⟨w.heap.size, 5, none⟩ (.int .i64 0)).setCell ⟨w.heap.size, 6, none⟩ (.int .i64 0)).setCell ⟨w.heap.size, 7, none⟩ (.int .i64 0)).setCell ⟨w.heap.size, 8, none⟩ (.int .i64 0)).setCell ⟨w.heap.size, 9, none⟩ (.int .i64 0)).setCell ⟨w.heap.size, 10, none⟩ (.int .i64 0)).setCell ⟨w.heap.size, 11, none⟩ (.string ⟨#[]⟩)).setCell ⟨w.heap.size, 12, none⟩ (.string ⟨#[]⟩)) (.slice ad ds.length cpd) ds := (DpN.set (i := 12) (DpN.set (i := 11) (DpN.set (i := 10) (DpN.set (i := 9) (DpN.set (i := 8) (DpN.set (i := 7) (DpN.set (i := 6) (DpN.set (i := 5) (DpN.set (i := 4) (DpN.set (i := 3) (DpN.set (i := 2) (DpN.set (i := 1) (DpN.set (i := 0) TZ.out.2.2.2.2.2 (.inl rfl)) (.inl rfl)) (.inl rfl)) (.inl rfl)) (.inl rfl)) (.inl rfl)) (.inl rfl)) (.inl rfl)) (.inl rfl)) (.inl rfl)) (.inl rfl)) (.inl rfl)) (.inl rfl))
      exact ⟨ac, ar, sq, (.slice ad ds.length cpd), ds, 0, 0, 0, 0, 0, 0, 0, ⟨#[]⟩, ⟨#[]⟩, 0, rfl, HP.out, FI.isI, by simp [ByteArray.size], FB.out⟩
    · have qa : ((txt (textCh ⟨ac, ar, sq, ds, 0, 0, 0, 0, 0, 0, 0, ⟨#[]⟩, ⟨#[]⟩⟩)).toList == s.toList) = false := by rw [ByteArray.toList_eq, ByteArray.toList_eq]; rw [beq_eq_false_iff_ne]; exact fun e => ht (by rw [← e]; simp [txt])
      have qb : ((txt (textCh ⟨ac, ar, sq, ds, 0, 0, 0, 0, 0, 0, 0, ⟨#[]⟩, ⟨#[]⟩⟩)).toList != s.toList) = true := by rw [bne, qa]; rfl
      have HN : Hid (ParseCh s.data.toList Ch.none 2) := parse_got HLn.out HRD.out (fun h => ht h.2)
      clear ht
      rw [if_pos hc, hc]
      have FR : Hid ((((((((((((((wt.setCell ⟨w.heap.size, 0, none⟩ (.int .i64 0)).setCell ⟨w.heap.size, 1, none⟩ (.int .i64 0)).setCell ⟨w.heap.size, 2, none⟩ (.int .i64 0)).setCell ⟨w.heap.size, 3, none⟩ (.slice none 0 0)).setCell ⟨w.heap.size, 4, none⟩ (.int .i64 0)).setCell ⟨w.heap.size, 5, none⟩ (.int .i64 0)).setCell ⟨w.heap.size, 6, none⟩ (.int .i64 0)).setCell ⟨w.heap.size, 7, none⟩ (.int .i64 0)).setCell ⟨w.heap.size, 8, none⟩ (.int .i64 0)).setCell ⟨w.heap.size, 9, none⟩ (.int .i64 0)).setCell ⟨w.heap.size, 10, none⟩ (.int .i64 0)).setCell ⟨w.heap.size, 11, none⟩ (.string ⟨#[]⟩)).setCell ⟨w.heap.size, 12, none⟩ (.string ⟨#[]⟩)).heap[w.heap.size]? = some (.cells #[.int .i64 0, .int .i64 0, .int .i64 0, .slice none 0 0, .int .i64 0, .int .i64 0, .int .i64 0, .int .i64 0, .int .i64 0, .int .i64 0, .int .i64 0, .string ⟨#[]⟩, .string ⟨#[]⟩] 26)) := row_set13 TZ.out.2.1
      have FB : Hid (Below w.heap.size w (((((((((((((wt.setCell ⟨w.heap.size, 0, none⟩ (.int .i64 0)).setCell ⟨w.heap.size, 1, none⟩ (.int .i64 0)).setCell ⟨w.heap.size, 2, none⟩ (.int .i64 0)).setCell ⟨w.heap.size, 3, none⟩ (.slice none 0 0)).setCell ⟨w.heap.size, 4, none⟩ (.int .i64 0)).setCell ⟨w.heap.size, 5, none⟩ (.int .i64 0)).setCell ⟨w.heap.size, 6, none⟩ (.int .i64 0)).setCell ⟨w.heap.size, 7, none⟩ (.int .i64 0)).setCell ⟨w.heap.size, 8, none⟩ (.int .i64 0)).setCell ⟨w.heap.size, 9, none⟩ (.int .i64 0)).setCell ⟨w.heap.size, 10, none⟩ (.int .i64 0)).setCell ⟨w.heap.size, 11, none⟩ (.string ⟨#[]⟩)).setCell ⟨w.heap.size, 12, none⟩ (.string ⟨#[]⟩))) := (((((((((((((TZ.out.1.setCell (Nat.le_refl _) _).setCell (Nat.le_refl _) _).setCell (Nat.le_refl _) _).setCell (Nat.le_refl _) _).setCell (Nat.le_refl _) _).setCell (Nat.le_refl _) _).setCell (Nat.le_refl _) _).setCell (Nat.le_refl _) _).setCell (Nat.le_refl _) _).setCell (Nat.le_refl _) _).setCell (Nat.le_refl _) _).setCell (Nat.le_refl _) _).setCell (Nat.le_refl _) _)
      go_wp2
      (try simp only [Exit.inBlock, Exit.then])
      refine bodyPost_ret (v := .tuple #[.agg #[.int .i64 0, .int .i64 0, .int .i64 0, .slice none 0 0, .int .i64 0, .int .i64 0, .int .i64 0, .int .i64 0, .int .i64 0, .int .i64 0, .int .i64 0, .string ⟨#[]⟩, .string ⟨#[]⟩], .int .i64 2]) ?res2 rfl ?post2
      case res2 => exact results_cell_row2 rfl _ _ w.heap.size _ _ _ _ rfl FR.out Tryz.underlying26 rfl (by kernel_rfl) rfl
      exact ParseDone.zero HN.out FB.out
  · have HN : Hid (ParseCh s.data.toList Ch.none 2) := parse_got HLn.out HRD.out (fun h => hc h.1)
    have qc : (checkCh ⟨ac, ar, sq, ds, 0, 0, 0, 0, 0, 0, 0, ⟨#[]⟩, ⟨#[]⟩⟩ != 0) = true := by simp [hc]
    rw [if_neg hc]
    have FR : Hid ((((((((((((((wt.setCell ⟨w.heap.size, 0, none⟩ (.int .i64 0)).setCell ⟨w.heap.size, 1, none⟩ (.int .i64 0)).setCell ⟨w.heap.size, 2, none⟩ (.int .i64 0)).setCell ⟨w.heap.size, 3, none⟩ (.slice none 0 0)).setCell ⟨w.heap.size, 4, none⟩ (.int .i64 0)).setCell ⟨w.heap.size, 5, none⟩ (.int .i64 0)).setCell ⟨w.heap.size, 6, none⟩ (.int .i64 0)).setCell ⟨w.heap.size, 7, none⟩ (.int .i64 0)).setCell ⟨w.heap.size, 8, none⟩ (.int .i64 0)).setCell ⟨w.heap.size, 9, none⟩ (.int .i64 0)).setCell ⟨w.heap.size, 10, none⟩ (.int .i64 0)).setCell ⟨w.heap.size, 11, none⟩ (.string ⟨#[]⟩)).setCell ⟨w.heap.size, 12, none⟩ (.string ⟨#[]⟩)).heap[w.heap.size]? = some (.cells #[.int .i64 0, .int .i64 0, .int .i64 0, .slice none 0 0, .int .i64 0, .int .i64 0, .int .i64 0, .int .i64 0, .int .i64 0, .int .i64 0, .int .i64 0, .string ⟨#[]⟩, .string ⟨#[]⟩] 26)) := row_set13 TZ.out.2.1
    have FB : Hid (Below w.heap.size w (((((((((((((wt.setCell ⟨w.heap.size, 0, none⟩ (.int .i64 0)).setCell ⟨w.heap.size, 1, none⟩ (.int .i64 0)).setCell ⟨w.heap.size, 2, none⟩ (.int .i64 0)).setCell ⟨w.heap.size, 3, none⟩ (.slice none 0 0)).setCell ⟨w.heap.size, 4, none⟩ (.int .i64 0)).setCell ⟨w.heap.size, 5, none⟩ (.int .i64 0)).setCell ⟨w.heap.size, 6, none⟩ (.int .i64 0)).setCell ⟨w.heap.size, 7, none⟩ (.int .i64 0)).setCell ⟨w.heap.size, 8, none⟩ (.int .i64 0)).setCell ⟨w.heap.size, 9, none⟩ (.int .i64 0)).setCell ⟨w.heap.size, 10, none⟩ (.int .i64 0)).setCell ⟨w.heap.size, 11, none⟩ (.string ⟨#[]⟩)).setCell ⟨w.heap.size, 12, none⟩ (.string ⟨#[]⟩))) := (((((((((((((TZ.out.1.setCell (Nat.le_refl _) _).setCell (Nat.le_refl _) _).setCell (Nat.le_refl _) _).setCell (Nat.le_refl _) _).setCell (Nat.le_refl _) _).setCell (Nat.le_refl _) _).setCell (Nat.le_refl _) _).setCell (Nat.le_refl _) _).setCell (Nat.le_refl _) _).setCell (Nat.le_refl _) _).setCell (Nat.le_refl _) _).setCell (Nat.le_refl _) _).setCell (Nat.le_refl _) _)
    go_wp2
    (try simp only [Exit.inBlock, Exit.then])
    refine bodyPost_ret (v := .tuple #[.agg #[.int .i64 0, .int .i64 0, .int .i64 0, .slice none 0 0, .int .i64 0, .int .i64 0, .int .i64 0, .int .i64 0, .int .i64 0, .int .i64 0, .int .i64 0, .string ⟨#[]⟩, .string ⟨#[]⟩], .int .i64 2]) ?res3 rfl ?post3
    case res3 => exact results_cell_row2 rfl _ _ w.heap.size _ _ _ _ rfl FR.out Tryz.underlying26 rfl (by kernel_rfl) rfl
    exact ParseDone.zero HN.out FB.out

end Go.Proofs.YtaocjmipjibiaaaGreatDoor

namespace Go.Proofs.YtaocjmipjibiaaaGreatDoor
open Go.RowKit
set_option linter.unusedVariables false
set_option linter.unusedSimpArgs false

set_option maxRecDepth 100000 in
set_option maxHeartbeats 16000000 in
theorem refParse_k1 (s : ByteArray) (hs : s.size ≤ 262144) (hx : hdW s.data.toList = [99, 114, 101, 97, 116, 101]) (w : World) :
    Calls Tryz.prog 30 #[.string s] w fun e w' => ParseDone s.data.toList w e w' := by
  have HX : Hid (hdW s.data.toList = [99, 114, 101, 97, 116, 101]) := hx
  clear hx
  have q : ¬ (262144 : Int) < (s.size : Int) := by omega
  have HLn : Hid (s.data.toList.length ≤ 262144) := by show _ ≤ _; rw [size_list]; exact hs
  have HZ : Hid (∀ (m i : Nat) (t : ByteArray), t.data.toList = (wordsL m s.data.toList).getD i [] → t.size ≤ 140737488355328) := fun m i t ht => by have := words_at_len m s.data.toList i; rw [← ht, size_list, size_list] at this; omega
  have HB0 : Hid (Below w.heap.size w (w.alloc (.cells #[.int .i64 0, .int .i64 0, .int .i64 0, .slice none 0 0, .int .i64 0, .int .i64 0, .int .i64 0, .int .i64 0, .int .i64 0, .int .i64 0, .int .i64 0, .string ⟨#[]⟩, .string ⟨#[]⟩] 26))) := (Below.refl _ _).alloc (Nat.le_refl _) _
  have HR0 : Hid ((w.alloc (.cells #[.int .i64 0, .int .i64 0, .int .i64 0, .slice none 0 0, .int .i64 0, .int .i64 0, .int .i64 0, .int .i64 0, .int .i64 0, .int .i64 0, .int .i64 0, .string ⟨#[]⟩, .string ⟨#[]⟩] 26)).heap[w.heap.size]? = some (.cells #[.int .i64 0, .int .i64 0, .int .i64 0, .slice none 0 0, .int .i64 0, .int .i64 0, .int .i64 0, .int .i64 0, .int .i64 0, .int .i64 0, .int .i64 0, .string ⟨#[]⟩, .string ⟨#[]⟩] 26)) := heap_alloc_new _ _
  have hz0 : (w.alloc (.cells #[.int .i64 0, .int .i64 0, .int .i64 0, .slice none 0 0, .int .i64 0, .int .i64 0, .int .i64 0, .int .i64 0, .int .i64 0, .int .i64 0, .int .i64 0, .string ⟨#[]⟩, .string ⟨#[]⟩] 26)).heap.size = w.heap.size + 1 := by simp
  go_enter Tryz.func30, Tryz.ntmps30
  go_wp2_with fail
  refine (refWords_any 6 7 rfl (by omega) s hs _).mono ?_
  rintro e w1 ⟨g, cap, n, Wd, rfl, how, hnw, hmw, hWw, hb1⟩
  have HW1 : Hid (WdsAt w1 g n cap 6 s.data.toList) := ⟨_, Wd, how, hnw, hWw⟩
  have HBx : Hid (Below w.heap.size w w1) := HB0.out.trans (hb1.mono HB0.out.size)
  have HR1 : Hid (w1.heap[w.heap.size]? = some (.cells #[.int .i64 0, .int .i64 0, .int .i64 0, .slice none 0 0, .int .i64 0, .int .i64 0, .int .i64 0, .int .i64 0, .int .i64 0, .int .i64 0, .int .i64 0, .string ⟨#[]⟩, .string ⟨#[]⟩] 26)) := row_below HR0.out hb1
  have hgl := (World.ownsRow.lt how g rfl).1
  rw [hz0] at hgl
  clear how hnw hWw hb1 hz0
  go_wp2_with fail
  refine (refWordAt_any g n cap 6 _ 2 2 rfl _ HW1.out).mono ?_
  rintro e w' ⟨x2, rfl, ex2, hw⟩
  replace hw := hw.symm
  subst hw
  have E2 : Hid (x2.data.toList = (wordsL 6 s.data.toList).getD 2 []) := ex2
  clear ex2
  go_wp2_with fail
  refine (whole_any x2 _).mono ?_
  rintro e w' ⟨sq, okn, rfl, hnum, hw⟩
  replace hw := hw.symm
  subst hw
  have HQ : Hid (NumW (hdW (tlW (tlW s.data.toList))) sq) := ⟨okn, by have := numIs_whole hnum; rw [E2.out, words_at] at this; exact this⟩
  clear hnum
  go_wp2_with fail
  refine (refWordAt_any g n cap 6 _ 3 3 rfl _ HW1.out).mono ?_
  rintro e w' ⟨x3, rfl, ex3, hw⟩
  replace hw := hw.symm
  subst hw
  have E3 : Hid (x3.data.toList = (wordsL 6 s.data.toList).getD 3 []) := ex3
  have hz3 := HZ.out 6 3 x3 ex3
  clear ex3
  go_wp2_with fail
  refine (refParse_any x3 (by omega) _).mono ?_
  rintro e w2 ⟨dv, ds, k2, rfl, hov, hld, hpc, hb2⟩
  have HCL : Hid (ClockW (hdW (tlW (tlW (tlW s.data.toList)))) ds) := ⟨k2, by rw [E3.out, words_at] at hpc; exact hpc⟩
  have HOV : Hid (OwnI w1.heap.size w2 dv ds) := hov
  have hw1 := row_lt HR1.out
  have HR2 : Hid (w2.heap[w.heap.size]? = some (.cells #[.int .i64 0, .int .i64 0, .int .i64 0, .slice none 0 0, .int .i64 0, .int .i64 0, .int .i64 0, .int .i64 0, .int .i64 0, .int .i64 0, .int .i64 0, .string ⟨#[]⟩, .string ⟨#[]⟩] 26)) := row_below HR1.out hb2
  have HW2 : Hid (WdsAt w2 g n cap 6 s.data.toList) := HW1.out.below hb2
  have HBx2 : Hid (Below w.heap.size w w2) := HBx.out.trans (hb2.mono HBx.out.size)
  obtain ⟨ad, cpd, edv⟩ := hov.form
  subst edv
  clear hov hpc hb2 HR1 HBx HW1
  go_wp2_with fail
  refine (refStampAt_any g n cap 6 _ HLn.out 1 1 rfl _ HW2.out).mono ?_
  rintro e w3 ⟨ac, ar, rfl, hsa, hb3⟩
  have HA : Hid (StampW (hdW (tlW s.data.toList)) ac ar) := by rw [words_at] at hsa; exact hsa
  have hg3 : g < w3.heap.size := (HW2.out.below hb3).lt
  have hw3 := row_lt (row_below HR2.out hb3)
  have A3 : Below w3.heap.size w3 (w3.alloc (.cells #[.int .i64 ac, .int .i64 ar, .int .i64 sq, .slice ad ds.length cpd, .int .i64 0, .int .i64 0, .int .i64 0, .int .i64 0, .int .i64 0, .int .i64 0, .int .i64 0, .string ⟨#[]⟩, .string ⟨#[]⟩] 26)) := (Below.refl _ _).alloc (Nat.le_refl _) _
  have S0 : Hid (PSt w w3.heap.size g n cap 6 s.data.toList (.slice ad ds.length cpd) ds #[.int .i64 ac, .int .i64 ar, .int .i64 sq, .slice ad ds.length cpd, .int .i64 0, .int .i64 0, .int .i64 0, .int .i64 0, .int .i64 0, .int .i64 0, .int .i64 0, .string ⟨#[]⟩, .string ⟨#[]⟩] (w3.alloc (.cells #[.int .i64 ac, .int .i64 ar, .int .i64 sq, .slice ad ds.length cpd, .int .i64 0, .int .i64 0, .int .i64 0, .int .i64 0, .int .i64 0, .int .i64 0, .int .i64 0, .string ⟨#[]⟩, .string ⟨#[]⟩] 26))) := ⟨(HBx2.out.trans (hb3.mono HBx2.out.size)).trans (A3.mono (Nat.le_of_lt hw3)), row_below (row_below HR2.out hb3) A3, heap_alloc_new _ _, ⟨hw3, by omega⟩, (HW2.out.below hb3).below A3, ((DpN.of HOV.out hld hw1 hb3.size).below hb3).below A3⟩
  obtain ⟨gc, egc⟩ : ∃ x, x = w3.heap.size := ⟨_, rfl⟩
  rw [← egc] at S0
  have HGC : Hid (gc = w3.heap.size) := egc
  have hgc : w.heap.size < gc := by omega
  clear egc A3 hsa hb3 HR2 HW2 HBx2 HOV hg3
  go_wp2_with fail
  rw [← HGC.out]
  refine (refWordAt_any g n cap 6 _ 0 0 rfl _ S0.out.2.2.2.2.1).mono ?_
  rintro e w4 ⟨x0, rfl, ex0, hw⟩
  have S1 : Hid (PSt w gc g n cap 6 s.data.toList (.slice ad ds.length cpd) ds #[.int .i64 ac, .int .i64 ar, .int .i64 sq, .slice ad ds.length cpd, .int .i64 0, .int .i64 0, .int .i64 0, .int .i64 0, .int .i64 0, .int .i64 0, .int .i64 0, .string ⟨#[]⟩, .string ⟨#[]⟩] w4) := by rw [hw]; exact S0.out
  clear hw S0
  rw [words_at] at ex0
  have EX : Hid (x0.data.toList = hdW s.data.toList) := ex0
  clear ex0
  have c1 : (x0.toList == [99, 114, 101, 97, 116, 101]) = true := by rw [ByteArray.toList_eq, EX.out, HX.out]; rfl
  clear EX
  obtain ⟨k_0, k_1, k_2, k_3, k_4, k_5, k_6, k_7, k_8, k_9, k_10, k_11, k_12⟩ := row_cells S1.out.2.2.1
  have fz := row_free S1.out.2.2.1
  have R1 : Hid (PSt w gc g n cap 6 s.data.toList (.slice ad ds.length cpd) ds #[.int .i64 ac, .int .i64 ar, .int .i64 sq, .slice ad ds.length cpd, .int .i64 1, .int .i64 ac, .int .i64 ar, .int .i64 0, .int .i64 0, .int .i64 0, .int .i64 0, .string ⟨#[]⟩, .string ⟨#[]⟩] (((w4.setCell ⟨gc, 4, none⟩ (.int .i64 1)).setCell ⟨gc, 5, none⟩ (.int .i64 ac)).setCell ⟨gc, 6, none⟩ (.int .i64 ar))) := (((S1.out.set 4 _).set 5 _).set 6 _)
  go_wp2_with fail
  refine (refStampAt_any g n cap 6 _ HLn.out 4 4 rfl _ R1.out.2.2.2.2.1).mono ?_
  rintro e v1 ⟨pc, pr, rfl, hsa, hb⟩
  have Hpc : Hid (StampW (hdW (tlW (tlW (tlW (tlW s.data.toList))))) pc pr) := by rw [words_at] at hsa; exact hsa
  have T1 : Hid (PSt w gc g n cap 6 s.data.toList (.slice ad ds.length cpd) ds #[.int .i64 ac, .int .i64 ar, .int .i64 sq, .slice ad ds.length cpd, .int .i64 1, .int .i64 ac, .int .i64 ar, .int .i64 0, .int .i64 0, .int .i64 0, .int .i64 0, .string ⟨#[]⟩, .string ⟨#[]⟩] v1) := R1.out.below hb
  clear hsa hb R1
  clear k_0 k_1 k_2 k_3 k_4 k_5 k_6 k_7 k_8 k_9 k_10 k_11 k_12 fz
  obtain ⟨k_0, k_1, k_2, k_3, k_4, k_5, k_6, k_7, k_8, k_9, k_10, k_11, k_12⟩ := row_cells T1.out.2.2.1
  have fz := row_free T1.out.2.2.1
  have R2 : Hid (PSt w gc g n cap 6 s.data.toList (.slice ad ds.length cpd) ds #[.int .i64 ac, .int .i64 ar, .int .i64 sq, .slice ad ds.length cpd, .int .i64 1, .int .i64 ac, .int .i64 ar, .int .i64 pc, .int .i64 pr, .int .i64 0, .int .i64 0, .string ⟨#[]⟩, .string ⟨#[]⟩] ((v1.setCell ⟨gc, 7, none⟩ (.int .i64 pc)).setCell ⟨gc, 8, none⟩ (.int .i64 pr))) := ((T1.out.set 7 _).set 8 _)
  go_wp2_with fail
  refine (refStampAt_any g n cap 6 _ HLn.out 5 5 rfl _ R2.out.2.2.2.2.1).mono ?_
  rintro e v2 ⟨fc, fr, rfl, hsa, hb⟩
  have Hfc : Hid (StampW (hdW (tlW (tlW (tlW (tlW (tlW s.data.toList)))))) fc fr) := by rw [words_at] at hsa; exact hsa
  have T2 : Hid (PSt w gc g n cap 6 s.data.toList (.slice ad ds.length cpd) ds #[.int .i64 ac, .int .i64 ar, .int .i64 sq, .slice ad ds.length cpd, .int .i64 1, .int .i64 ac, .int .i64 ar, .int .i64 pc, .int .i64 pr, .int .i64 0, .int .i64 0, .string ⟨#[]⟩, .string ⟨#[]⟩] v2) := R2.out.below hb
  clear hsa hb R2
  clear k_0 k_1 k_2 k_3 k_4 k_5 k_6 k_7 k_8 k_9 k_10 k_11 k_12 fz
  obtain ⟨k_0, k_1, k_2, k_3, k_4, k_5, k_6, k_7, k_8, k_9, k_10, k_11, k_12⟩ := row_cells T2.out.2.2.1
  have fz := row_free T2.out.2.2.1
  have R3 : Hid (PSt w gc g n cap 6 s.data.toList (.slice ad ds.length cpd) ds #[.int .i64 ac, .int .i64 ar, .int .i64 sq, .slice ad ds.length cpd, .int .i64 1, .int .i64 ac, .int .i64 ar, .int .i64 pc, .int .i64 pr, .int .i64 fc, .int .i64 fr, .string ⟨#[]⟩, .string ⟨#[]⟩] ((v2.setCell ⟨gc, 9, none⟩ (.int .i64 fc)).setCell ⟨gc, 10, none⟩ (.int .i64 fr))) := ((T2.out.set 9 _).set 10 _)
  go_wp2_with fail
  refine (refWordAt_any g n cap 6 _ 6 6 rfl _ R3.out.2.2.2.2.1).mono ?_
  rintro e v3 ⟨nm, rfl, hsa, hw⟩
  have znm := HZ.out 6 6 nm hsa
  have Hnm : Hid (nm.data.toList = (tlW (tlW (tlW (tlW (tlW (tlW s.data.toList))))))) := by rw [words_at] at hsa; exact hsa
  have T3 : Hid (PSt w gc g n cap 6 s.data.toList (.slice ad ds.length cpd) ds #[.int .i64 ac, .int .i64 ar, .int .i64 sq, .slice ad ds.length cpd, .int .i64 1, .int .i64 ac, .int .i64 ar, .int .i64 pc, .int .i64 pr, .int .i64 fc, .int .i64 fr, .string ⟨#[]⟩, .string ⟨#[]⟩] v3) := by rw [hw]; exact R3.out
  clear hsa hw R3
  clear k_0 k_1 k_2 k_3 k_4 k_5 k_6 k_7 k_8 k_9 k_10 k_11 k_12 fz
  obtain ⟨k_0, k_1, k_2, k_3, k_4, k_5, k_6, k_7, k_8, k_9, k_10, k_11, k_12⟩ := row_cells T3.out.2.2.1
  have fz := row_free T3.out.2.2.1
  have RZ : Hid (PSt w gc g n cap 6 s.data.toList (.slice ad ds.length cpd) ds #[.int .i64 ac, .int .i64 ar, .int .i64 sq, .slice ad ds.length cpd, .int .i64 1, .int .i64 ac, .int .i64 ar, .int .i64 pc, .int .i64 pr, .int .i64 fc, .int .i64 fr, .string nm, .string ⟨#[]⟩] (v3.setCell ⟨gc, 11, none⟩ (.string nm))) := (T3.out.set 11 _)
  have HRD : Hid (∀ d, checkCh d = 0 → s.data.toList = textCh d → ((⟨ac, ar, sq, ds, 1, ac, ar, pc, pr, fc, fr, nm, ⟨#[]⟩⟩ : Ch)) = d) := fun d hd e => RefReadIs.back hd (e ▸ (show RefReadIs s.data.toList ⟨ac, ar, sq, ds, 1, ac, ar, pc, pr, fc, fr, nm, ⟨#[]⟩⟩ from ⟨by show (1 : Int) = kindOf (hdW s.data.toList); rw [HX.out]; rfl, HA.out, HQ.out, HCL.out, _, _, _, rfl, rfl, rfl, fun _ => ⟨rfl, rfl, Hpc.out, Hfc.out, Hnm.out, rfl⟩, fun e => absurd e (by show ¬ (1 : Int) = 2; decide), fun e => absurd e (by show ¬ (1 : Int) = 3; decide), fun e => absurd e (by show ¬ (1 : Int) = 4; decide), fun e => absurd e (by show ¬ (1 : Int) = 5; decide)⟩))
  go_wp2_with fail
  refine (refTextCh_any ac ar sq (.slice ad ds.length cpd) 1 ac ar pc pr fc fr nm ⟨#[]⟩ ds (by omega) _ RZ.out.2.2.2.2.2.isI).mono ?_
  rintro e wt ⟨rfl, hbt⟩
  have TZ : Hid (PSt w gc g n cap 6 s.data.toList (.slice ad ds.length cpd) ds #[.int .i64 ac, .int .i64 ar, .int .i64 sq, .slice ad ds.length cpd, .int .i64 1, .int .i64 ac, .int .i64 ar, .int .i64 pc, .int .i64 pr, .int .i64 fc, .int .i64 fr, .string nm, .string ⟨#[]⟩] wt) := RZ.out.below hbt
  clear hbt RZ
  clear k_0 k_1 k_2 k_3 k_4 k_5 k_6 k_7 k_8 k_9 k_10 k_11 k_12 fz
  obtain ⟨k_0, k_1, k_2, k_3, k_4, k_5, k_6, k_7, k_8, k_9, k_10, k_11, k_12⟩ := row_cells TZ.out.2.2.1
  have fz := row_free TZ.out.2.2.1
  obtain ⟨z_0, z_1, z_2, z_3, z_4, z_5, z_6, z_7, z_8, z_9, z_10, z_11, z_12⟩ := row_cells TZ.out.2.1
  have fr0 := row_free TZ.out.2.1
  have hgn : gc ≠ w.heap.size := by omega
  by_cases hc : checkCh ⟨ac, ar, sq, ds, 1, ac, ar, pc, pr, fc, fr, nm, ⟨#[]⟩⟩ = 0
  · by_cases ht : textCh ⟨ac, ar, sq, ds, 1, ac, ar, pc, pr, fc, fr, nm, ⟨#[]⟩⟩ = s.data.toList
    · have qa : ((txt (textCh ⟨ac, ar, sq, ds, 1, ac, ar, pc, pr, fc, fr, nm, ⟨#[]⟩⟩)).toList == s.toList) = true := by rw [ByteArray.toList_eq, ByteArray.toList_eq]; rw [← ht]; simp [txt]
      have qb : ((txt (textCh ⟨ac, ar, sq, ds, 1, ac, ar, pc, pr, fc, fr, nm, ⟨#[]⟩⟩)).toList != s.toList) = false := by rw [bne, qa]; rfl
      have HP : Hid (ParseCh s.data.toList ⟨ac, ar, sq, ds, 1, ac, ar, pc, pr, fc, fr, nm, ⟨#[]⟩⟩ 0) := .inr (.inl ⟨hc, ht.symm, rfl⟩)
      clear ht
      rw [if_pos hc, hc]
      have FR : Hid ((((((((((((((wt.setCell ⟨w.heap.size, 0, none⟩ (.int .i64 ac)).setCell ⟨w.heap.size, 1, none⟩ (.int .i64 ar)).setCell ⟨w.heap.size, 2, none⟩ (.int .i64 sq)).setCell ⟨w.heap.size, 3, none⟩ (.slice ad ds.length cpd)).setCell ⟨w.heap.size, 4, none⟩ (.int .i64 1)).setCell ⟨w.heap.size, 5, none⟩ (.int .i64 ac)).setCell ⟨w.heap.size, 6, none⟩ (.int .i64 ar)).setCell ⟨w.heap.size, 7, none⟩ (.int .i64 pc)).setCell ⟨w.heap.size, 8, none⟩ (.int .i64 pr)).setCell ⟨w.heap.size, 9, none⟩ (.int .i64 fc)).setCell ⟨w.heap.size, 10, none⟩ (.int .i64 fr)).setCell ⟨w.heap.size, 11, none⟩ (.string nm)).setCell ⟨w.heap.size, 12, none⟩ (.string ⟨#[]⟩)).heap[w.heap.size]? = some (.cells #[.int .i64 ac, .int .i64 ar, .int .i64 sq, .slice ad ds.length cpd, .int .i64 1, .int .i64 ac, .int .i64 ar, .int .i64 pc, .int .i64 pr, .int .i64 fc, .int .i64 fr, .string nm, .string ⟨#[]⟩] 26)) := row_set13 TZ.out.2.1
      have FB : Hid (Below w.heap.size w (((((((((((((wt.setCell ⟨w.heap.size, 0, none⟩ (.int .i64 ac)).setCell ⟨w.heap.size, 1, none⟩ (.int .i64 ar)).setCell ⟨w.heap.size, 2, none⟩ (.int .i64 sq)).setCell ⟨w.heap.size, 3, none⟩ (.slice ad ds.length cpd)).setCell ⟨w.heap.size, 4, none⟩ (.int .i64 1)).setCell ⟨w.heap.size, 5, none⟩ (.int .i64 ac)).setCell ⟨w.heap.size, 6, none⟩ (.int .i64 ar)).setCell ⟨w.heap.size, 7, none⟩ (.int .i64 pc)).setCell ⟨w.heap.size, 8, none⟩ (.int .i64 pr)).setCell ⟨w.heap.size, 9, none⟩ (.int .i64 fc)).setCell ⟨w.heap.size, 10, none⟩ (.int .i64 fr)).setCell ⟨w.heap.size, 11, none⟩ (.string nm)).setCell ⟨w.heap.size, 12, none⟩ (.string ⟨#[]⟩))) := (((((((((((((TZ.out.1.setCell (Nat.le_refl _) _).setCell (Nat.le_refl _) _).setCell (Nat.le_refl _) _).setCell (Nat.le_refl _) _).setCell (Nat.le_refl _) _).setCell (Nat.le_refl _) _).setCell (Nat.le_refl _) _).setCell (Nat.le_refl _) _).setCell (Nat.le_refl _) _).setCell (Nat.le_refl _) _).setCell (Nat.le_refl _) _).setCell (Nat.le_refl _) _).setCell (Nat.le_refl _) _)
      go_wp2
      (try simp only [Exit.inBlock, Exit.then])
      refine bodyPost_ret (v := .tuple #[.agg #[.int .i64 ac, .int .i64 ar, .int .i64 sq, .slice ad ds.length cpd, .int .i64 1, .int .i64 ac, .int .i64 ar, .int .i64 pc, .int .i64 pr, .int .i64 fc, .int .i64 fr, .string nm, .string ⟨#[]⟩], .int .i64 0]) ?res1 rfl ?post1
      case res1 => exact results_cell_row2 rfl _ _ w.heap.size _ _ _ _ rfl FR.out Tryz.underlying26 rfl (by kernel_rfl) rfl
      have FI : DpN w.heap.size gc (((((((((((((wt.setCell ⟨w.heap.size, 0, none⟩ (.int .i64 ac)).setCell ⟨w.heap.size, 1, none⟩ (.int .i64 ar)).setCell ⟨w.heap.size, 2, none⟩ (.int .i64 sq)).setCell ⟨w.heap.size, 3, none⟩ (.slice ad ds.length cpd)).setCell ⟨w.heap.size, 4, none⟩ (.int .i64 1)).setCell ⟨w.heap.size, 5, none⟩ (.int .i64 ac)).setCell ⟨w.heap.size, 6, none⟩ (.int .i64 ar)).setCell ⟨w.heap.size, 7, none⟩ (.int .i64 pc)).setCell ⟨w.heap.size, 8, none⟩ (.int .i64 pr)).setCell ⟨w.heap.size, 9, none⟩ (.int .i64 fc)).setCell ⟨w.heap.size, 10, none⟩ (.int .i64 fr)).setCell ⟨w.heap.size, 11, none⟩ (.string nm)).setCell ⟨w.heap.size, 12, none⟩ (.string ⟨#[]⟩)) (.slice ad ds.length cpd) ds := (DpN.set (i := 12) (DpN.set (i := 11) (DpN.set (i := 10) (DpN.set (i := 9) (DpN.set (i := 8) (DpN.set (i := 7) (DpN.set (i := 6) (DpN.set (i := 5) (DpN.set (i := 4) (DpN.set (i := 3) (DpN.set (i := 2) (DpN.set (i := 1) (DpN.set (i := 0) TZ.out.2.2.2.2.2 (.inl rfl)) (.inl rfl)) (.inl rfl)) (.inl rfl)) (.inl rfl)) (.inl rfl)) (.inl rfl)) (.inl rfl)) (.inl rfl)) (.inl rfl)) (.inl rfl)) (.inl rfl)) (.inl rfl))
      exact ⟨ac, ar, sq, (.slice ad ds.length cpd), ds, 1, ac, ar, pc, pr, fc, fr, nm, ⟨#[]⟩, 0, rfl, HP.out, FI.isI, by omega, FB.out⟩
    · have qa : ((txt (textCh ⟨ac, ar, sq, ds, 1, ac, ar, pc, pr, fc, fr, nm, ⟨#[]⟩⟩)).toList == s.toList) = false := by rw [ByteArray.toList_eq, ByteArray.toList_eq]; rw [beq_eq_false_iff_ne]; exact fun e => ht (by rw [← e]; simp [txt])
      have qb : ((txt (textCh ⟨ac, ar, sq, ds, 1, ac, ar, pc, pr, fc, fr, nm, ⟨#[]⟩⟩)).toList != s.toList) = true := by rw [bne, qa]; rfl
      have HN : Hid (ParseCh s.data.toList Ch.none 2) := parse_got HLn.out HRD.out (fun h => ht h.2)
      clear ht
      rw [if_pos hc, hc]
      have FR : Hid ((((((((((((((wt.setCell ⟨w.heap.size, 0, none⟩ (.int .i64 0)).setCell ⟨w.heap.size, 1, none⟩ (.int .i64 0)).setCell ⟨w.heap.size, 2, none⟩ (.int .i64 0)).setCell ⟨w.heap.size, 3, none⟩ (.slice none 0 0)).setCell ⟨w.heap.size, 4, none⟩ (.int .i64 0)).setCell ⟨w.heap.size, 5, none⟩ (.int .i64 0)).setCell ⟨w.heap.size, 6, none⟩ (.int .i64 0)).setCell ⟨w.heap.size, 7, none⟩ (.int .i64 0)).setCell ⟨w.heap.size, 8, none⟩ (.int .i64 0)).setCell ⟨w.heap.size, 9, none⟩ (.int .i64 0)).setCell ⟨w.heap.size, 10, none⟩ (.int .i64 0)).setCell ⟨w.heap.size, 11, none⟩ (.string ⟨#[]⟩)).setCell ⟨w.heap.size, 12, none⟩ (.string ⟨#[]⟩)).heap[w.heap.size]? = some (.cells #[.int .i64 0, .int .i64 0, .int .i64 0, .slice none 0 0, .int .i64 0, .int .i64 0, .int .i64 0, .int .i64 0, .int .i64 0, .int .i64 0, .int .i64 0, .string ⟨#[]⟩, .string ⟨#[]⟩] 26)) := row_set13 TZ.out.2.1
      have FB : Hid (Below w.heap.size w (((((((((((((wt.setCell ⟨w.heap.size, 0, none⟩ (.int .i64 0)).setCell ⟨w.heap.size, 1, none⟩ (.int .i64 0)).setCell ⟨w.heap.size, 2, none⟩ (.int .i64 0)).setCell ⟨w.heap.size, 3, none⟩ (.slice none 0 0)).setCell ⟨w.heap.size, 4, none⟩ (.int .i64 0)).setCell ⟨w.heap.size, 5, none⟩ (.int .i64 0)).setCell ⟨w.heap.size, 6, none⟩ (.int .i64 0)).setCell ⟨w.heap.size, 7, none⟩ (.int .i64 0)).setCell ⟨w.heap.size, 8, none⟩ (.int .i64 0)).setCell ⟨w.heap.size, 9, none⟩ (.int .i64 0)).setCell ⟨w.heap.size, 10, none⟩ (.int .i64 0)).setCell ⟨w.heap.size, 11, none⟩ (.string ⟨#[]⟩)).setCell ⟨w.heap.size, 12, none⟩ (.string ⟨#[]⟩))) := (((((((((((((TZ.out.1.setCell (Nat.le_refl _) _).setCell (Nat.le_refl _) _).setCell (Nat.le_refl _) _).setCell (Nat.le_refl _) _).setCell (Nat.le_refl _) _).setCell (Nat.le_refl _) _).setCell (Nat.le_refl _) _).setCell (Nat.le_refl _) _).setCell (Nat.le_refl _) _).setCell (Nat.le_refl _) _).setCell (Nat.le_refl _) _).setCell (Nat.le_refl _) _).setCell (Nat.le_refl _) _)
      go_wp2
      (try simp only [Exit.inBlock, Exit.then])
      refine bodyPost_ret (v := .tuple #[.agg #[.int .i64 0, .int .i64 0, .int .i64 0, .slice none 0 0, .int .i64 0, .int .i64 0, .int .i64 0, .int .i64 0, .int .i64 0, .int .i64 0, .int .i64 0, .string ⟨#[]⟩, .string ⟨#[]⟩], .int .i64 2]) ?res2 rfl ?post2
      case res2 => exact results_cell_row2 rfl _ _ w.heap.size _ _ _ _ rfl FR.out Tryz.underlying26 rfl (by kernel_rfl) rfl
      exact ParseDone.zero HN.out FB.out
  · have HN : Hid (ParseCh s.data.toList Ch.none 2) := parse_got HLn.out HRD.out (fun h => hc h.1)
    have qc : (checkCh ⟨ac, ar, sq, ds, 1, ac, ar, pc, pr, fc, fr, nm, ⟨#[]⟩⟩ != 0) = true := by simp [hc]
    rw [if_neg hc]
    have FR : Hid ((((((((((((((wt.setCell ⟨w.heap.size, 0, none⟩ (.int .i64 0)).setCell ⟨w.heap.size, 1, none⟩ (.int .i64 0)).setCell ⟨w.heap.size, 2, none⟩ (.int .i64 0)).setCell ⟨w.heap.size, 3, none⟩ (.slice none 0 0)).setCell ⟨w.heap.size, 4, none⟩ (.int .i64 0)).setCell ⟨w.heap.size, 5, none⟩ (.int .i64 0)).setCell ⟨w.heap.size, 6, none⟩ (.int .i64 0)).setCell ⟨w.heap.size, 7, none⟩ (.int .i64 0)).setCell ⟨w.heap.size, 8, none⟩ (.int .i64 0)).setCell ⟨w.heap.size, 9, none⟩ (.int .i64 0)).setCell ⟨w.heap.size, 10, none⟩ (.int .i64 0)).setCell ⟨w.heap.size, 11, none⟩ (.string ⟨#[]⟩)).setCell ⟨w.heap.size, 12, none⟩ (.string ⟨#[]⟩)).heap[w.heap.size]? = some (.cells #[.int .i64 0, .int .i64 0, .int .i64 0, .slice none 0 0, .int .i64 0, .int .i64 0, .int .i64 0, .int .i64 0, .int .i64 0, .int .i64 0, .int .i64 0, .string ⟨#[]⟩, .string ⟨#[]⟩] 26)) := row_set13 TZ.out.2.1
    have FB : Hid (Below w.heap.size w (((((((((((((wt.setCell ⟨w.heap.size, 0, none⟩ (.int .i64 0)).setCell ⟨w.heap.size, 1, none⟩ (.int .i64 0)).setCell ⟨w.heap.size, 2, none⟩ (.int .i64 0)).setCell ⟨w.heap.size, 3, none⟩ (.slice none 0 0)).setCell ⟨w.heap.size, 4, none⟩ (.int .i64 0)).setCell ⟨w.heap.size, 5, none⟩ (.int .i64 0)).setCell ⟨w.heap.size, 6, none⟩ (.int .i64 0)).setCell ⟨w.heap.size, 7, none⟩ (.int .i64 0)).setCell ⟨w.heap.size, 8, none⟩ (.int .i64 0)).setCell ⟨w.heap.size, 9, none⟩ (.int .i64 0)).setCell ⟨w.heap.size, 10, none⟩ (.int .i64 0)).setCell ⟨w.heap.size, 11, none⟩ (.string ⟨#[]⟩)).setCell ⟨w.heap.size, 12, none⟩ (.string ⟨#[]⟩))) := (((((((((((((TZ.out.1.setCell (Nat.le_refl _) _).setCell (Nat.le_refl _) _).setCell (Nat.le_refl _) _).setCell (Nat.le_refl _) _).setCell (Nat.le_refl _) _).setCell (Nat.le_refl _) _).setCell (Nat.le_refl _) _).setCell (Nat.le_refl _) _).setCell (Nat.le_refl _) _).setCell (Nat.le_refl _) _).setCell (Nat.le_refl _) _).setCell (Nat.le_refl _) _).setCell (Nat.le_refl _) _)
    go_wp2
    (try simp only [Exit.inBlock, Exit.then])
    refine bodyPost_ret (v := .tuple #[.agg #[.int .i64 0, .int .i64 0, .int .i64 0, .slice none 0 0, .int .i64 0, .int .i64 0, .int .i64 0, .int .i64 0, .int .i64 0, .int .i64 0, .int .i64 0, .string ⟨#[]⟩, .string ⟨#[]⟩], .int .i64 2]) ?res3 rfl ?post3
    case res3 => exact results_cell_row2 rfl _ _ w.heap.size _ _ _ _ rfl FR.out Tryz.underlying26 rfl (by kernel_rfl) rfl
    exact ParseDone.zero HN.out FB.out

end Go.Proofs.YtaocjmipjibiaaaGreatDoor

namespace Go.Proofs.YtaocjmipjibiaaaGreatDoor
open Go.RowKit
set_option linter.unusedVariables false
set_option linter.unusedSimpArgs false

set_option maxRecDepth 100000 in
set_option maxHeartbeats 16000000 in
theorem refParse_k2 (s : ByteArray) (hs : s.size ≤ 262144) (hx : hdW s.data.toList = [109, 111, 118, 101]) (w : World) :
    Calls Tryz.prog 30 #[.string s] w fun e w' => ParseDone s.data.toList w e w' := by
  have HX : Hid (hdW s.data.toList = [109, 111, 118, 101]) := hx
  clear hx
  have q : ¬ (262144 : Int) < (s.size : Int) := by omega
  have HLn : Hid (s.data.toList.length ≤ 262144) := by show _ ≤ _; rw [size_list]; exact hs
  have HZ : Hid (∀ (m i : Nat) (t : ByteArray), t.data.toList = (wordsL m s.data.toList).getD i [] → t.size ≤ 140737488355328) := fun m i t ht => by have := words_at_len m s.data.toList i; rw [← ht, size_list, size_list] at this; omega
  have HB0 : Hid (Below w.heap.size w (w.alloc (.cells #[.int .i64 0, .int .i64 0, .int .i64 0, .slice none 0 0, .int .i64 0, .int .i64 0, .int .i64 0, .int .i64 0, .int .i64 0, .int .i64 0, .int .i64 0, .string ⟨#[]⟩, .string ⟨#[]⟩] 26))) := (Below.refl _ _).alloc (Nat.le_refl _) _
  have HR0 : Hid ((w.alloc (.cells #[.int .i64 0, .int .i64 0, .int .i64 0, .slice none 0 0, .int .i64 0, .int .i64 0, .int .i64 0, .int .i64 0, .int .i64 0, .int .i64 0, .int .i64 0, .string ⟨#[]⟩, .string ⟨#[]⟩] 26)).heap[w.heap.size]? = some (.cells #[.int .i64 0, .int .i64 0, .int .i64 0, .slice none 0 0, .int .i64 0, .int .i64 0, .int .i64 0, .int .i64 0, .int .i64 0, .int .i64 0, .int .i64 0, .string ⟨#[]⟩, .string ⟨#[]⟩] 26)) := heap_alloc_new _ _
  have hz0 : (w.alloc (.cells #[.int .i64 0, .int .i64 0, .int .i64 0, .slice none 0 0, .int .i64 0, .int .i64 0, .int .i64 0, .int .i64 0, .int .i64 0, .int .i64 0, .int .i64 0, .string ⟨#[]⟩, .string ⟨#[]⟩] 26)).heap.size = w.heap.size + 1 := by simp
  go_enter Tryz.func30, Tryz.ntmps30
  go_wp2_with fail
  refine (refWords_any 6 7 rfl (by omega) s hs _).mono ?_
  rintro e w1 ⟨g, cap, n, Wd, rfl, how, hnw, hmw, hWw, hb1⟩
  have HW1 : Hid (WdsAt w1 g n cap 6 s.data.toList) := ⟨_, Wd, how, hnw, hWw⟩
  have HBx : Hid (Below w.heap.size w w1) := HB0.out.trans (hb1.mono HB0.out.size)
  have HR1 : Hid (w1.heap[w.heap.size]? = some (.cells #[.int .i64 0, .int .i64 0, .int .i64 0, .slice none 0 0, .int .i64 0, .int .i64 0, .int .i64 0, .int .i64 0, .int .i64 0, .int .i64 0, .int .i64 0, .string ⟨#[]⟩, .string ⟨#[]⟩] 26)) := row_below HR0.out hb1
  have hgl := (World.ownsRow.lt how g rfl).1
  rw [hz0] at hgl
  clear how hnw hWw hb1 hz0
  go_wp2_with fail
  refine (refWordAt_any g n cap 6 _ 2 2 rfl _ HW1.out).mono ?_
  rintro e w' ⟨x2, rfl, ex2, hw⟩
  replace hw := hw.symm
  subst hw
  have E2 : Hid (x2.data.toList = (wordsL 6 s.data.toList).getD 2 []) := ex2
  clear ex2
  go_wp2_with fail
  refine (whole_any x2 _).mono ?_
  rintro e w' ⟨sq, okn, rfl, hnum, hw⟩
  replace hw := hw.symm
  subst hw
  have HQ : Hid (NumW (hdW (tlW (tlW s.data.toList))) sq) := ⟨okn, by have := numIs_whole hnum; rw [E2.out, words_at] at this; exact this⟩
  clear hnum
  go_wp2_with fail
  refine (refWordAt_any g n cap 6 _ 3 3 rfl _ HW1.out).mono ?_
  rintro e w' ⟨x3, rfl, ex3, hw⟩
  replace hw := hw.symm
  subst hw
  have E3 : Hid (x3.data.toList = (wordsL 6 s.data.toList).getD 3 []) := ex3
  have hz3 := HZ.out 6 3 x3 ex3
  clear ex3
  go_wp2_with fail
  refine (refParse_any x3 (by omega) _).mono ?_
  rintro e w2 ⟨dv, ds, k2, rfl, hov, hld, hpc, hb2⟩
  have HCL : Hid (ClockW (hdW (tlW (tlW (tlW s.data.toList)))) ds) := ⟨k2, by rw [E3.out, words_at] at hpc; exact hpc⟩
  have HOV : Hid (OwnI w1.heap.size w2 dv ds) := hov
  have hw1 := row_lt HR1.out
  have HR2 : Hid (w2.heap[w.heap.size]? = some (.cells #[.int .i64 0, .int .i64 0, .int .i64 0, .slice none 0 0, .int .i64 0, .int .i64 0, .int .i64 0, .int .i64 0, .int .i64 0, .int .i64 0, .int .i64 0, .string ⟨#[]⟩, .string ⟨#[]⟩] 26)) := row_below HR1.out hb2
  have HW2 : Hid (WdsAt w2 g n cap 6 s.data.toList) := HW1.out.below hb2
  have HBx2 : Hid (Below w.heap.size w w2) := HBx.out.trans (hb2.mono HBx.out.size)
  obtain ⟨ad, cpd, edv⟩ := hov.form
  subst edv
  clear hov hpc hb2 HR1 HBx HW1
  go_wp2_with fail
  refine (refStampAt_any g n cap 6 _ HLn.out 1 1 rfl _ HW2.out).mono ?_
  rintro e w3 ⟨ac, ar, rfl, hsa, hb3⟩
  have HA : Hid (StampW (hdW (tlW s.data.toList)) ac ar) := by rw [words_at] at hsa; exact hsa
  have hg3 : g < w3.heap.size := (HW2.out.below hb3).lt
  have hw3 := row_lt (row_below HR2.out hb3)
  have A3 : Below w3.heap.size w3 (w3.alloc (.cells #[.int .i64 ac, .int .i64 ar, .int .i64 sq, .slice ad ds.length cpd, .int .i64 0, .int .i64 0, .int .i64 0, .int .i64 0, .int .i64 0, .int .i64 0, .int .i64 0, .string ⟨#[]⟩, .string ⟨#[]⟩] 26)) := (Below.refl _ _).alloc (Nat.le_refl _) _
  have S0 : Hid (PSt w w3.heap.size g n cap 6 s.data.toList (.slice ad ds.length cpd) ds #[.int .i64 ac, .int .i64 ar, .int .i64 sq, .slice ad ds.length cpd, .int .i64 0, .int .i64 0, .int .i64 0, .int .i64 0, .int .i64 0, .int .i64 0, .int .i64 0, .string ⟨#[]⟩, .string ⟨#[]⟩] (w3.alloc (.cells #[.int .i64 ac, .int .i64 ar, .int .i64 sq, .slice ad ds.length cpd, .int .i64 0, .int .i64 0, .int .i64 0, .int .i64 0, .int .i64 0, .int .i64 0, .int .i64 0, .string ⟨#[]⟩, .string ⟨#[]⟩] 26))) := ⟨(HBx2.out.trans (hb3.mono HBx2.out.size)).trans (A3.mono (Nat.le_of_lt hw3)), row_below (row_below HR2.out hb3) A3, heap_alloc_new _ _, ⟨hw3, by omega⟩, (HW2.out.below hb3).below A3, ((DpN.of HOV.out hld hw1 hb3.size).below hb3).below A3⟩
  obtain ⟨gc, egc⟩ : ∃ x, x = w3.heap.size := ⟨_, rfl⟩
  rw [← egc] at S0
  have HGC : Hid (gc = w3.heap.size) := egc
  have hgc : w.heap.size < gc := by omega
  clear egc A3 hsa hb3 HR2 HW2 HBx2 HOV hg3
  go_wp2_with fail
  rw [← HGC.out]
  refine (refWordAt_any g n cap 6 _ 0 0 rfl _ S0.out.2.2.2.2.1).mono ?_
  rintro e w4 ⟨x0, rfl, ex0, hw⟩
  have S1 : Hid (PSt w gc g n cap 6 s.data.toList (.slice ad ds.length cpd) ds #[.int .i64 ac, .int .i64 ar, .int .i64 sq, .slice ad ds.length cpd, .int .i64 0, .int .i64 0, .int .i64 0, .int .i64 0, .int .i64 0, .int .i64 0, .int .i64 0, .string ⟨#[]⟩, .string ⟨#[]⟩] w4) := by rw [hw]; exact S0.out
  clear hw S0
  rw [words_at] at ex0
  have EX : Hid (x0.data.toList = hdW s.data.toList) := ex0
  clear ex0
  have c1 : (x0.toList == [99, 114, 101, 97, 116, 101]) = false := by rw [ByteArray.toList_eq, EX.out, HX.out]; rfl
  have c2 : (x0.toList == [109, 111, 118, 101]) = true := by rw [ByteArray.toList_eq, EX.out, HX.out]; rfl
  clear EX
  obtain ⟨k_0, k_1, k_2, k_3, k_4, k_5, k_6, k_7, k_8, k_9, k_10, k_11, k_12⟩ := row_cells S1.out.2.2.1
  have fz := row_free S1.out.2.2.1
  have R1 : Hid (PSt w gc g n cap 6 s.data.toList (.slice ad ds.length cpd) ds #[.int .i64 ac, .int .i64 ar, .int .i64 sq, .slice ad ds.length cpd, .int .i64 2, .int .i64 0, .int .i64 0, .int .i64 0, .int .i64 0, .int .i64 0, .int .i64 0, .string ⟨#[]⟩, .string ⟨#[]⟩] (w4.setCell ⟨gc, 4, none⟩ (.int .i64 2))) := (S1.out.set 4 _)
  go_wp2_with fail
  refine (refStampAt_any g n cap 6 _ HLn.out 4 4 rfl _ R1.out.2.2.2.2.1).mono ?_
  rintro e v1 ⟨nc, nr, rfl, hsa, hb⟩
  have Hnc : Hid (StampW (hdW (tlW (tlW (tlW (tlW s.data.toList))))) nc nr) := by rw [words_at] at hsa; exact hsa
  have T1 : Hid (PSt w gc g n cap 6 s.data.toList (.slice ad ds.length cpd) ds #[.int .i64 ac, .int .i64 ar, .int .i64 sq, .slice ad ds.length cpd, .int .i64 2, .int .i64 0, .int .i64 0, .int .i64 0, .int .i64 0, .int .i64 0, .int .i64 0, .string ⟨#[]⟩, .string ⟨#[]⟩] v1) := R1.out.below hb
  clear hsa hb R1
  clear k_0 k_1 k_2 k_3 k_4 k_5 k_6 k_7 k_8 k_9 k_10 k_11 k_12 fz
  obtain ⟨k_0, k_1, k_2, k_3, k_4, k_5, k_6, k_7, k_8, k_9, k_10, k_11, k_12⟩ := row_cells T1.out.2.2.1
  have fz := row_free T1.out.2.2.1
  have R2 : Hid (PSt w gc g n cap 6 s.data.toList (.slice ad ds.length cpd) ds #[.int .i64 ac, .int .i64 ar, .int .i64 sq, .slice ad ds.length cpd, .int .i64 2, .int .i64 nc, .int .i64 nr, .int .i64 0, .int .i64 0, .int .i64 0, .int .i64 0, .string ⟨#[]⟩, .string ⟨#[]⟩] ((v1.setCell ⟨gc, 5, none⟩ (.int .i64 nc)).setCell ⟨gc, 6, none⟩ (.int .i64 nr))) := ((T1.out.set 5 _).set 6 _)
  go_wp2_with fail
  refine (refStampAt_any g n cap 6 _ HLn.out 5 5 rfl _ R2.out.2.2.2.2.1).mono ?_
  rintro e v2 ⟨pc, pr, rfl, hsa, hb⟩
  have Hpc : Hid (StampW (hdW (tlW (tlW (tlW (tlW (tlW s.data.toList)))))) pc pr) := by rw [words_at] at hsa; exact hsa
  have T2 : Hid (PSt w gc g n cap 6 s.data.toList (.slice ad ds.length cpd) ds #[.int .i64 ac, .int .i64 ar, .int .i64 sq, .slice ad ds.length cpd, .int .i64 2, .int .i64 nc, .int .i64 nr, .int .i64 0, .int .i64 0, .int .i64 0, .int .i64 0, .string ⟨#[]⟩, .string ⟨#[]⟩] v2) := R2.out.below hb
  clear hsa hb R2
  clear k_0 k_1 k_2 k_3 k_4 k_5 k_6 k_7 k_8 k_9 k_10 k_11 k_12 fz
  obtain ⟨k_0, k_1, k_2, k_3, k_4, k_5, k_6, k_7, k_8, k_9, k_10, k_11, k_12⟩ := row_cells T2.out.2.2.1
  have fz := row_free T2.out.2.2.1
  have R3 : Hid (PSt w gc g n cap 6 s.data.toList (.slice ad ds.length cpd) ds #[.int .i64 ac, .int .i64 ar, .int .i64 sq, .slice ad ds.length cpd, .int .i64 2, .int .i64 nc, .int .i64 nr, .int .i64 pc, .int .i64 pr, .int .i64 0, .int .i64 0, .string ⟨#[]⟩, .string ⟨#[]⟩] ((v2.setCell ⟨gc, 7, none⟩ (.int .i64 pc)).setCell ⟨gc, 8, none⟩ (.int .i64 pr))) := ((T2.out.set 7 _).set 8 _)
  go_wp2_with fail
  refine (refStampAt_any g n cap 6 _ HLn.out 6 6 rfl _ R3.out.2.2.2.2.1).mono ?_
  rintro e v3 ⟨fc, fr, rfl, hsa, hb⟩
  have Hfc : Hid (StampW (tlW (tlW (tlW (tlW (tlW (tlW s.data.toList)))))) fc fr) := by rw [words_at] at hsa; exact hsa
  have T3 : Hid (PSt w gc g n cap 6 s.data.toList (.slice ad ds.length cpd) ds #[.int .i64 ac, .int .i64 ar, .int .i64 sq, .slice ad ds.length cpd, .int .i64 2, .int .i64 nc, .int .i64 nr, .int .i64 pc, .int .i64 pr, .int .i64 0, .int .i64 0, .string ⟨#[]⟩, .string ⟨#[]⟩] v3) := R3.out.below hb
  clear hsa hb R3
  clear k_0 k_1 k_2 k_3 k_4 k_5 k_6 k_7 k_8 k_9 k_10 k_11 k_12 fz
  obtain ⟨k_0, k_1, k_2, k_3, k_4, k_5, k_6, k_7, k_8, k_9, k_10, k_11, k_12⟩ := row_cells T3.out.2.2.1
  have fz := row_free T3.out.2.2.1
  have RZ : Hid (PSt w gc g n cap 6 s.data.toList (.slice ad ds.length cpd) ds #[.int .i64 ac, .int .i64 ar, .int .i64 sq, .slice ad ds.length cpd, .int .i64 2, .int .i64 nc, .int .i64 nr, .int .i64 pc, .int .i64 pr, .int .i64 fc, .int .i64 fr, .string ⟨#[]⟩, .string ⟨#[]⟩] ((v3.setCell ⟨gc, 9, none⟩ (.int .i64 fc)).setCell ⟨gc, 10, none⟩ (.int .i64 fr))) := ((T3.out.set 9 _).set 10 _)
  have HRD : Hid (∀ d, checkCh d = 0 → s.data.toList = textCh d → ((⟨ac, ar, sq, ds, 2, nc, nr, pc, pr, fc, fr, ⟨#[]⟩, ⟨#[]⟩⟩ : Ch)) = d) := fun d hd e => RefReadIs.back hd (e ▸ (show RefReadIs s.data.toList ⟨ac, ar, sq, ds, 2, nc, nr, pc, pr, fc, fr, ⟨#[]⟩, ⟨#[]⟩⟩ from ⟨by show (2 : Int) = kindOf (hdW s.data.toList); rw [HX.out]; rfl, HA.out, HQ.out, HCL.out, _, _, _, rfl, rfl, rfl, fun e => absurd e (by show ¬ (2 : Int) = 1; decide), fun _ => ⟨Hnc.out, Hpc.out, Hfc.out, rfl, rfl⟩, fun e => absurd e (by show ¬ (2 : Int) = 3; decide), fun e => absurd e (by show ¬ (2 : Int) = 4; decide), fun e => absurd e (by show ¬ (2 : Int) = 5; decide)⟩))
  go_wp2_with fail
  refine (refTextCh_any ac ar sq (.slice ad ds.length cpd) 2 nc nr pc pr fc fr ⟨#[]⟩ ⟨#[]⟩ ds (by simp [ByteArray.size]) _ RZ.out.2.2.2.2.2.isI).mono ?_
  rintro e wt ⟨rfl, hbt⟩
  have TZ : Hid (PSt w gc g n cap 6 s.data.toList (.slice ad ds.length cpd) ds #[.int .i64 ac, .int .i64 ar, .int .i64 sq, .slice ad ds.length cpd, .int .i64 2, .int .i64 nc, .int .i64 nr, .int .i64 pc, .int .i64 pr, .int .i64 fc, .int .i64 fr, .string ⟨#[]⟩, .string ⟨#[]⟩] wt) := RZ.out.below hbt
  clear hbt RZ
  clear k_0 k_1 k_2 k_3 k_4 k_5 k_6 k_7 k_8 k_9 k_10 k_11 k_12 fz
  obtain ⟨k_0, k_1, k_2, k_3, k_4, k_5, k_6, k_7, k_8, k_9, k_10, k_11, k_12⟩ := row_cells TZ.out.2.2.1
  have fz := row_free TZ.out.2.2.1
  obtain ⟨z_0, z_1, z_2, z_3, z_4, z_5, z_6, z_7, z_8, z_9, z_10, z_11, z_12⟩ := row_cells TZ.out.2.1
  have fr0 := row_free TZ.out.2.1
  have hgn : gc ≠ w.heap.size := by omega
  by_cases hc : checkCh ⟨ac, ar, sq, ds, 2, nc, nr, pc, pr, fc, fr, ⟨#[]⟩, ⟨#[]⟩⟩ = 0
  · by_cases ht : textCh ⟨ac, ar, sq, ds, 2, nc, nr, pc, pr, fc, fr, ⟨#[]⟩, ⟨#[]⟩⟩ = s.data.toList
    · have qa : ((txt (textCh ⟨ac, ar, sq, ds, 2, nc, nr, pc, pr, fc, fr, ⟨#[]⟩, ⟨#[]⟩⟩)).toList == s.toList) = true := by rw [ByteArray.toList_eq, ByteArray.toList_eq]; rw [← ht]; simp [txt]
      have qb : ((txt (textCh ⟨ac, ar, sq, ds, 2, nc, nr, pc, pr, fc, fr, ⟨#[]⟩, ⟨#[]⟩⟩)).toList != s.toList) = false := by rw [bne, qa]; rfl
      have HP : Hid (ParseCh s.data.toList ⟨ac, ar, sq, ds, 2, nc, nr, pc, pr, fc, fr, ⟨#[]⟩, ⟨#[]⟩⟩ 0) := .inr (.inl ⟨hc, ht.symm, rfl⟩)
      clear ht
      rw [if_pos hc, hc]
      have FR : Hid ((((((((((((((wt.setCell ⟨w.heap.size, 0, none⟩ (.int .i64 ac)).setCell ⟨w.heap.size, 1, none⟩ (.int .i64 ar)).setCell ⟨w.heap.size, 2, none⟩ (.int .i64 sq)).setCell ⟨w.heap.size, 3, none⟩ (.slice ad ds.length cpd)).setCell ⟨w.heap.size, 4, none⟩ (.int .i64 2)).setCell ⟨w.heap.size, 5, none⟩ (.int .i64 nc)).setCell ⟨w.heap.size, 6, none⟩ (.int .i64 nr)).setCell ⟨w.heap.size, 7, none⟩ (.int .i64 pc)).setCell ⟨w.heap.size, 8, none⟩ (.int .i64 pr)).setCell ⟨w.heap.size, 9, none⟩ (.int .i64 fc)).setCell ⟨w.heap.size, 10, none⟩ (.int .i64 fr)).setCell ⟨w.heap.size, 11, none⟩ (.string ⟨#[]⟩)).setCell ⟨w.heap.size, 12, none⟩ (.string ⟨#[]⟩)).heap[w.heap.size]? = some (.cells #[.int .i64 ac, .int .i64 ar, .int .i64 sq, .slice ad ds.length cpd, .int .i64 2, .int .i64 nc, .int .i64 nr, .int .i64 pc, .int .i64 pr, .int .i64 fc, .int .i64 fr, .string ⟨#[]⟩, .string ⟨#[]⟩] 26)) := row_set13 TZ.out.2.1
      have FB : Hid (Below w.heap.size w (((((((((((((wt.setCell ⟨w.heap.size, 0, none⟩ (.int .i64 ac)).setCell ⟨w.heap.size, 1, none⟩ (.int .i64 ar)).setCell ⟨w.heap.size, 2, none⟩ (.int .i64 sq)).setCell ⟨w.heap.size, 3, none⟩ (.slice ad ds.length cpd)).setCell ⟨w.heap.size, 4, none⟩ (.int .i64 2)).setCell ⟨w.heap.size, 5, none⟩ (.int .i64 nc)).setCell ⟨w.heap.size, 6, none⟩ (.int .i64 nr)).setCell ⟨w.heap.size, 7, none⟩ (.int .i64 pc)).setCell ⟨w.heap.size, 8, none⟩ (.int .i64 pr)).setCell ⟨w.heap.size, 9, none⟩ (.int .i64 fc)).setCell ⟨w.heap.size, 10, none⟩ (.int .i64 fr)).setCell ⟨w.heap.size, 11, none⟩ (.string ⟨#[]⟩)).setCell ⟨w.heap.size, 12, none⟩ (.string ⟨#[]⟩))) := (((((((((((((TZ.out.1.setCell (Nat.le_refl _) _).setCell (Nat.le_refl _) _).setCell (Nat.le_refl _) _).setCell (Nat.le_refl _) _).setCell (Nat.le_refl _) _).setCell (Nat.le_refl _) _).setCell (Nat.le_refl _) _).setCell (Nat.le_refl _) _).setCell (Nat.le_refl _) _).setCell (Nat.le_refl _) _).setCell (Nat.le_refl _) _).setCell (Nat.le_refl _) _).setCell (Nat.le_refl _) _)
      go_wp2
      (try simp only [Exit.inBlock, Exit.then])
      refine bodyPost_ret (v := .tuple #[.agg #[.int .i64 ac, .int .i64 ar, .int .i64 sq, .slice ad ds.length cpd, .int .i64 2, .int .i64 nc, .int .i64 nr, .int .i64 pc, .int .i64 pr, .int .i64 fc, .int .i64 fr, .string ⟨#[]⟩, .string ⟨#[]⟩], .int .i64 0]) ?res1 rfl ?post1
      case res1 => exact results_cell_row2 rfl _ _ w.heap.size _ _ _ _ rfl FR.out Tryz.underlying26 rfl (by kernel_rfl) rfl
      have FI : DpN w.heap.size gc (((((((((((((wt.setCell ⟨w.heap.size, 0, none⟩ (.int .i64 ac)).setCell ⟨w.heap.size, 1, none⟩ (.int .i64 ar)).setCell ⟨w.heap.size, 2, none⟩ (.int .i64 sq)).setCell ⟨w.heap.size, 3, none⟩ (.slice ad ds.length cpd)).setCell ⟨w.heap.size, 4, none⟩ (.int .i64 2)).setCell ⟨w.heap.size, 5, none⟩ (.int .i64 nc)).setCell ⟨w.heap.size, 6, none⟩ (.int .i64 nr)).setCell ⟨w.heap.size, 7, none⟩ (.int .i64 pc)).setCell ⟨w.heap.size, 8, none⟩ (.int .i64 pr)).setCell ⟨w.heap.size, 9, none⟩ (.int .i64 fc)).setCell ⟨w.heap.size, 10, none⟩ (.int .i64 fr)).setCell ⟨w.heap.size, 11, none⟩ (.string ⟨#[]⟩)).setCell ⟨w.heap.size, 12, none⟩ (.string ⟨#[]⟩)) (.slice ad ds.length cpd) ds := (DpN.set (i := 12) (DpN.set (i := 11) (DpN.set (i := 10) (DpN.set (i := 9) (DpN.set (i := 8) (DpN.set (i := 7) (DpN.set (i := 6) (DpN.set (i := 5) (DpN.set (i := 4) (DpN.set (i := 3) (DpN.set (i := 2) (DpN.set (i := 1) (DpN.set (i := 0) TZ.out.2.2.2.2.2 (.inl rfl)) (.inl rfl)) (.inl rfl)) (.inl rfl)) (.inl rfl)) (.inl rfl)) (.inl rfl)) (.inl rfl)) (.inl rfl)) (.inl rfl)) (.inl rfl)) (.inl rfl)) (.inl rfl))
      exact ⟨ac, ar, sq, (.slice ad ds.length cpd), ds, 2, nc, nr, pc, pr, fc, fr, ⟨#[]⟩, ⟨#[]⟩, 0, rfl, HP.out, FI.isI, by simp [ByteArray.size], FB.out⟩
    · have qa : ((txt (textCh ⟨ac, ar, sq, ds, 2, nc, nr, pc, pr, fc, fr, ⟨#[]⟩, ⟨#[]⟩⟩)).toList == s.toList) = false := by rw [ByteArray.toList_eq, ByteArray.toList_eq]; rw [beq_eq_false_iff_ne]; exact fun e => ht (by rw [← e]; simp [txt])
      have qb : ((txt (textCh ⟨ac, ar, sq, ds, 2, nc, nr, pc, pr, fc, fr, ⟨#[]⟩, ⟨#[]⟩⟩)).toList != s.toList) = true := by rw [bne, qa]; rfl
      have HN : Hid (ParseCh s.data.toList Ch.none 2) := parse_got HLn.out HRD.out (fun h => ht h.2)
      clear ht
      rw [if_pos hc, hc]
      have FR : Hid ((((((((((((((wt.setCell ⟨w.heap.size, 0, none⟩ (.int .i64 0)).setCell ⟨w.heap.size, 1, none⟩ (.int .i64 0)).setCell ⟨w.heap.size, 2, none⟩ (.int .i64 0)).setCell ⟨w.heap.size, 3, none⟩ (.slice none 0 0)).setCell ⟨w.heap.size, 4, none⟩ (.int .i64 0)).setCell ⟨w.heap.size, 5, none⟩ (.int .i64 0)).setCell ⟨w.heap.size, 6, none⟩ (.int .i64 0)).setCell ⟨w.heap.size, 7, none⟩ (.int .i64 0)).setCell ⟨w.heap.size, 8, none⟩ (.int .i64 0)).setCell ⟨w.heap.size, 9, none⟩ (.int .i64 0)).setCell ⟨w.heap.size, 10, none⟩ (.int .i64 0)).setCell ⟨w.heap.size, 11, none⟩ (.string ⟨#[]⟩)).setCell ⟨w.heap.size, 12, none⟩ (.string ⟨#[]⟩)).heap[w.heap.size]? = some (.cells #[.int .i64 0, .int .i64 0, .int .i64 0, .slice none 0 0, .int .i64 0, .int .i64 0, .int .i64 0, .int .i64 0, .int .i64 0, .int .i64 0, .int .i64 0, .string ⟨#[]⟩, .string ⟨#[]⟩] 26)) := row_set13 TZ.out.2.1
      have FB : Hid (Below w.heap.size w (((((((((((((wt.setCell ⟨w.heap.size, 0, none⟩ (.int .i64 0)).setCell ⟨w.heap.size, 1, none⟩ (.int .i64 0)).setCell ⟨w.heap.size, 2, none⟩ (.int .i64 0)).setCell ⟨w.heap.size, 3, none⟩ (.slice none 0 0)).setCell ⟨w.heap.size, 4, none⟩ (.int .i64 0)).setCell ⟨w.heap.size, 5, none⟩ (.int .i64 0)).setCell ⟨w.heap.size, 6, none⟩ (.int .i64 0)).setCell ⟨w.heap.size, 7, none⟩ (.int .i64 0)).setCell ⟨w.heap.size, 8, none⟩ (.int .i64 0)).setCell ⟨w.heap.size, 9, none⟩ (.int .i64 0)).setCell ⟨w.heap.size, 10, none⟩ (.int .i64 0)).setCell ⟨w.heap.size, 11, none⟩ (.string ⟨#[]⟩)).setCell ⟨w.heap.size, 12, none⟩ (.string ⟨#[]⟩))) := (((((((((((((TZ.out.1.setCell (Nat.le_refl _) _).setCell (Nat.le_refl _) _).setCell (Nat.le_refl _) _).setCell (Nat.le_refl _) _).setCell (Nat.le_refl _) _).setCell (Nat.le_refl _) _).setCell (Nat.le_refl _) _).setCell (Nat.le_refl _) _).setCell (Nat.le_refl _) _).setCell (Nat.le_refl _) _).setCell (Nat.le_refl _) _).setCell (Nat.le_refl _) _).setCell (Nat.le_refl _) _)
      go_wp2
      (try simp only [Exit.inBlock, Exit.then])
      refine bodyPost_ret (v := .tuple #[.agg #[.int .i64 0, .int .i64 0, .int .i64 0, .slice none 0 0, .int .i64 0, .int .i64 0, .int .i64 0, .int .i64 0, .int .i64 0, .int .i64 0, .int .i64 0, .string ⟨#[]⟩, .string ⟨#[]⟩], .int .i64 2]) ?res2 rfl ?post2
      case res2 => exact results_cell_row2 rfl _ _ w.heap.size _ _ _ _ rfl FR.out Tryz.underlying26 rfl (by kernel_rfl) rfl
      exact ParseDone.zero HN.out FB.out
  · have HN : Hid (ParseCh s.data.toList Ch.none 2) := parse_got HLn.out HRD.out (fun h => hc h.1)
    have qc : (checkCh ⟨ac, ar, sq, ds, 2, nc, nr, pc, pr, fc, fr, ⟨#[]⟩, ⟨#[]⟩⟩ != 0) = true := by simp [hc]
    rw [if_neg hc]
    have FR : Hid ((((((((((((((wt.setCell ⟨w.heap.size, 0, none⟩ (.int .i64 0)).setCell ⟨w.heap.size, 1, none⟩ (.int .i64 0)).setCell ⟨w.heap.size, 2, none⟩ (.int .i64 0)).setCell ⟨w.heap.size, 3, none⟩ (.slice none 0 0)).setCell ⟨w.heap.size, 4, none⟩ (.int .i64 0)).setCell ⟨w.heap.size, 5, none⟩ (.int .i64 0)).setCell ⟨w.heap.size, 6, none⟩ (.int .i64 0)).setCell ⟨w.heap.size, 7, none⟩ (.int .i64 0)).setCell ⟨w.heap.size, 8, none⟩ (.int .i64 0)).setCell ⟨w.heap.size, 9, none⟩ (.int .i64 0)).setCell ⟨w.heap.size, 10, none⟩ (.int .i64 0)).setCell ⟨w.heap.size, 11, none⟩ (.string ⟨#[]⟩)).setCell ⟨w.heap.size, 12, none⟩ (.string ⟨#[]⟩)).heap[w.heap.size]? = some (.cells #[.int .i64 0, .int .i64 0, .int .i64 0, .slice none 0 0, .int .i64 0, .int .i64 0, .int .i64 0, .int .i64 0, .int .i64 0, .int .i64 0, .int .i64 0, .string ⟨#[]⟩, .string ⟨#[]⟩] 26)) := row_set13 TZ.out.2.1
    have FB : Hid (Below w.heap.size w (((((((((((((wt.setCell ⟨w.heap.size, 0, none⟩ (.int .i64 0)).setCell ⟨w.heap.size, 1, none⟩ (.int .i64 0)).setCell ⟨w.heap.size, 2, none⟩ (.int .i64 0)).setCell ⟨w.heap.size, 3, none⟩ (.slice none 0 0)).setCell ⟨w.heap.size, 4, none⟩ (.int .i64 0)).setCell ⟨w.heap.size, 5, none⟩ (.int .i64 0)).setCell ⟨w.heap.size, 6, none⟩ (.int .i64 0)).setCell ⟨w.heap.size, 7, none⟩ (.int .i64 0)).setCell ⟨w.heap.size, 8, none⟩ (.int .i64 0)).setCell ⟨w.heap.size, 9, none⟩ (.int .i64 0)).setCell ⟨w.heap.size, 10, none⟩ (.int .i64 0)).setCell ⟨w.heap.size, 11, none⟩ (.string ⟨#[]⟩)).setCell ⟨w.heap.size, 12, none⟩ (.string ⟨#[]⟩))) := (((((((((((((TZ.out.1.setCell (Nat.le_refl _) _).setCell (Nat.le_refl _) _).setCell (Nat.le_refl _) _).setCell (Nat.le_refl _) _).setCell (Nat.le_refl _) _).setCell (Nat.le_refl _) _).setCell (Nat.le_refl _) _).setCell (Nat.le_refl _) _).setCell (Nat.le_refl _) _).setCell (Nat.le_refl _) _).setCell (Nat.le_refl _) _).setCell (Nat.le_refl _) _).setCell (Nat.le_refl _) _)
    go_wp2
    (try simp only [Exit.inBlock, Exit.then])
    refine bodyPost_ret (v := .tuple #[.agg #[.int .i64 0, .int .i64 0, .int .i64 0, .slice none 0 0, .int .i64 0, .int .i64 0, .int .i64 0, .int .i64 0, .int .i64 0, .int .i64 0, .int .i64 0, .string ⟨#[]⟩, .string ⟨#[]⟩], .int .i64 2]) ?res3 rfl ?post3
    case res3 => exact results_cell_row2 rfl _ _ w.heap.size _ _ _ _ rfl FR.out Tryz.underlying26 rfl (by kernel_rfl) rfl
    exact ParseDone.zero HN.out FB.out

end Go.Proofs.YtaocjmipjibiaaaGreatDoor

namespace Go.Proofs.YtaocjmipjibiaaaGreatDoor
open Go.RowKit
set_option linter.unusedVariables false
set_option linter.unusedSimpArgs false

set_option maxRecDepth 100000 in
set_option maxHeartbeats 8000000 in
theorem refSameCh_eq (ac ar sq : Int) (v1 v2 : Value) (kd nc nr pc pr fc fr : Int) (nm vl : ByteArray) (ds : List Int) (w : World) (h1 : IsI w v1 ds) (h2 : IsI w v2 ds) :
    Calls Tryz.prog 16 #[.agg #[.int .i64 ac, .int .i64 ar, .int .i64 sq, v1, .int .i64 kd, .int .i64 nc, .int .i64 nr, .int .i64 pc, .int .i64 pr, .int .i64 fc, .int .i64 fr, .string nm, .string vl], .agg #[.int .i64 ac, .int .i64 ar, .int .i64 sq, v2, .int .i64 kd, .int .i64 nc, .int .i64 nr, .int .i64 pc, .int .i64 pr, .int .i64 fc, .int .i64 fr, .string nm, .string vl]] w fun e w' => e = .returned (.bool true) ∧ Below w.heap.size w w' := by
  obtain ⟨a1, c1, e1⟩ := h1.form
  subst e1
  obtain ⟨a2, c2, e2⟩ := h2.form
  subst e2
  have K0 := KeptC.start w [.int .i64 ac, .int .i64 ar, .int .i64 sq, .slice a1 ds.length c1, .int .i64 kd, .int .i64 nc, .int .i64 nr, .int .i64 pc, .int .i64 pr, .int .i64 fc, .int .i64 fr, .string nm, .string vl] 26
  have M0 := KeptC.start (w.alloc (.cells #[.int .i64 ac, .int .i64 ar, .int .i64 sq, .slice a1 ds.length c1, .int .i64 kd, .int .i64 nc, .int .i64 nr, .int .i64 pc, .int .i64 pr, .int .i64 fc, .int .i64 fr, .string nm, .string vl] 26)) [.int .i64 ac, .int .i64 ar, .int .i64 sq, .slice a2 ds.length c2, .int .i64 kd, .int .i64 nc, .int .i64 nr, .int .i64 pc, .int .i64 pr, .int .i64 fc, .int .i64 fr, .string nm, .string vl] 26
  rw [show (w.alloc (.cells #[.int .i64 ac, .int .i64 ar, .int .i64 sq, .slice a1 ds.length c1, .int .i64 kd, .int .i64 nc, .int .i64 nr, .int .i64 pc, .int .i64 pr, .int .i64 fc, .int .i64 fr, .string nm, .string vl] 26)).heap.size = w.heap.size + 1 by simp] at M0
  have K1 := K0.step M0.2.2
  have H1 : Hid (IsI _ (.slice a1 ds.length c1) ds) := h1.below K1.2.2
  have H2 : Hid (IsI _ (.slice a2 ds.length c2) ds) := h2.below K1.2.2
  clear h1 h2
  go_enter Tryz.func16, Tryz.ntmps16
  go_wp2_with fail
  refine (sameI_any _ _ ds ds _ H1.out H2.out).mono ?_
  rintro e w1 ⟨rfl, hb1⟩
  have d0 : decide (ds = ds) = true := by simp
  rw [d0]
  have K2 := K1.step hb1
  have M2 := M0.step hb1
  obtain ⟨k_0, k_1, k_2, k_3, k_4, k_5, k_6, k_7, k_8, k_9, k_10, k_11, k_12⟩ := K2.all
  obtain ⟨m_0, m_1, m_2, m_3, m_4, m_5, m_6, m_7, m_8, m_9, m_10, m_11, m_12⟩ := M2.all
  have q1 : (nm.toList == nm.toList) = true := by simp
  have q2 : (vl.toList == vl.toList) = true := by simp
  go_wp2
  go_ret
  exact ⟨rfl, K2.2.2⟩

end Go.Proofs.YtaocjmipjibiaaaGreatDoor
