/- What the document's Parse makes of a text whose first word is kind 3. -/
import Derived.Test.YtaocjmipjibiaaaGreatDoorPzB
namespace Go.Proofs.YtaocjmipjibiaaaGreatDoor
open Go.RowKit
set_option linter.unusedVariables false
set_option linter.unusedSimpArgs false

set_option maxRecDepth 100000 in
set_option maxHeartbeats 16000000 in
theorem refParse_k3 (s : ByteArray) (hs : s.size ≤ 262144) (hx : hdW s.data.toList = [115, 101, 116]) (w : World) :
    Calls Tryz.prog 30 #[.string s] w fun e w' => ParseDone s.data.toList w e w' := by
  have HX : Hid (hdW s.data.toList = [115, 101, 116]) := hx
  clear hx
  have q : ¬ (262144 : Int) < (s.size : Int) := by omega
  have HLn : Hid (s.data.toList.length ≤ 262144) := by show _ ≤ _; rw [size_list]; exact hs
  have HZ : Hid (∀ (m i : Nat) (t : ByteArray), t.data.toList = (wordsL m s.data.toList).getD i [] → t.size ≤ 140737488355328) := fun m i t ht => by have := words_at_len m s.data.toList i; rw [← ht, size_list, size_list] at this; omega
  have HB0 : Hid (Below w.heap.size w (w.alloc (.cells #[.int .i64 0, .int .i64 0, .int .i64 0, .slice none 0 0, .int .i64 0, .int .i64 0, .int .i64 0, .int .i64 0, .int .i64 0, .int .i64 0, .int .i64 0, .string ⟨#[]⟩, .string ⟨#[]⟩] 26))) := (Below.refl _ _).alloc (Nat.le_refl _) _
  have HR0 : Hid ((w.alloc (.cells #[.int .i64 0, .int .i64 0, .int .i64 0, .slice none 0 0, .int .i64 0, .int .i64 0, .int .i64 0, .int .i64 0, .int .i64 0, .int .i64 0, .int .i64 0, .string ⟨#[]⟩, .string ⟨#[]⟩] 26)).heap[w.heap.size]? = some (.cells #[.int .i64 0, .int .i64 0, .int .i64 0, .slice none 0 0, .int .i64 0, .int .i64 0, .int .i64 0, .int .i64 0, .int .i64 0, .int .i64 0, .int .i64 0, .string ⟨#[]⟩, .string ⟨#[]⟩] 26)) := heap_alloc_new _ _
  have hz0 : (w.alloc (.cells #[.int .i64 0, .int .i64 0, .int .i64 0, .slice none 0 0, .int .i64 0, .int .i64 0, .int .i64 0, .int .i64 0, .int .i64 0, .int .i64 0, .int .i64 0, .string ⟨#[]⟩, .string ⟨#[]⟩] 26)).heap.size = w.heap.size + 1 := by simp
  go_enter Tryz.func30, Tryz.ntmps30
  go_wp2_with fail
  refine (refWords_any 6 7 rfl (by omega) s hs _).mono ?_
  rintro e w1 ⟨g, cap, n, Wd, rfl, how, hnw, hmw, hWw, hb1⟩
  have HW1 : Hid (WdsAt w1 g n cap 6 s.data.toList) := ⟨_, Wd, how, hnw, hWw⟩
  have HBx : Hid (Below w.heap.size w w1) := HB0.out.trans (hb1.mono HB0.out.size)
  have HR1 : Hid (w1.heap[w.heap.size]? = some (.cells #[.int .i64 0, .int .i64 0, .int .i64 0, .slice none 0 0, .int .i64 0, .int .i64 0, .int .i64 0, .int .i64 0, .int .i64 0, .int .i64 0, .int .i64 0, .string ⟨#[]⟩, .string ⟨#[]⟩] 26)) := row_below HR0.out hb1
  have hgl := (World.ownsRow.lt how g rfl).1
  rw [hz0] at hgl
  clear how hnw hWw hb1 hz0
  go_wp2_with fail
  refine (refWordAt_any g n cap 6 _ 2 2 rfl _ HW1.out).mono ?_
  rintro e w' ⟨x2, rfl, ex2, hw⟩
  replace hw := hw.symm
  subst hw
  have E2 : Hid (x2.data.toList = (wordsL 6 s.data.toList).getD 2 []) := ex2
  clear ex2
  go_wp2_with fail
  refine (whole_any x2 _).mono ?_
  rintro e w' ⟨sq, okn, rfl, hnum, hw⟩
  replace hw := hw.symm
  subst hw
  have HQ : Hid (NumW (hdW (tlW (tlW s.data.toList))) sq) := ⟨okn, by have := numIs_whole hnum; rw [E2.out, words_at] at this; exact this⟩
  clear hnum
  go_wp2_with fail
  refine (refWordAt_any g n cap 6 _ 3 3 rfl _ HW1.out).mono ?_
  rintro e w' ⟨x3, rfl, ex3, hw⟩
  replace hw := hw.symm
  subst hw
  have E3 : Hid (x3.data.toList = (wordsL 6 s.data.toList).getD 3 []) := ex3
  have hz3 := HZ.out 6 3 x3 ex3
  clear ex3
  go_wp2_with fail
  refine (refParse_any x3 (by omega) _).mono ?_
  rintro e w2 ⟨dv, ds, k2, rfl, hov, hld, hpc, hb2⟩
  have HCL : Hid (ClockW (hdW (tlW (tlW (tlW s.data.toList)))) ds) := ⟨k2, by rw [E3.out, words_at] at hpc; exact hpc⟩
  have HOV : Hid (OwnI w1.heap.size w2 dv ds) := hov
  have hw1 := row_lt HR1.out
  have HR2 : Hid (w2.heap[w.heap.size]? = some (.cells #[.int .i64 0, .int .i64 0, .int .i64 0, .slice none 0 0, .int .i64 0, .int .i64 0, .int .i64 0, .int .i64 0, .int .i64 0, .int .i64 0, .int .i64 0, .string ⟨#[]⟩, .string ⟨#[]⟩] 26)) := row_below HR1.out hb2
  have HW2 : Hid (WdsAt w2 g n cap 6 s.data.toList) := HW1.out.below hb2
  have HBx2 : Hid (Below w.heap.size w w2) := HBx.out.trans (hb2.mono HBx.out.size)
  obtain ⟨ad, cpd, edv⟩ := hov.form
  subst edv
  clear hov hpc hb2 HR1 HBx HW1
  go_wp2_with fail
  refine (refStampAt_any g n cap 6 _ HLn.out 1 1 rfl _ HW2.out).mono ?_
  rintro e w3 ⟨ac, ar, rfl, hsa, hb3⟩
  have HA : Hid (StampW (hdW (tlW s.data.toList)) ac ar) := by rw [words_at] at hsa; exact hsa
  have hg3 : g < w3.heap.size := (HW2.out.below hb3).lt
  have hw3 := row_lt (row_below HR2.out hb3)
  have A3 : Below w3.heap.size w3 (w3.alloc (.cells #[.int .i64 ac, .int .i64 ar, .int .i64 sq, .slice ad ds.length cpd, .int .i64 0, .int .i64 0, .int .i64 0, .int .i64 0, .int .i64 0, .int .i64 0, .int .i64 0, .string ⟨#[]⟩, .string ⟨#[]⟩] 26)) := (Below.refl _ _).alloc (Nat.le_refl _) _
  have S0 : Hid (PSt w w3.heap.size g n cap 6 s.data.toList (.slice ad ds.length cpd) ds #[.int .i64 ac, .int .i64 ar, .int .i64 sq, .slice ad ds.length cpd, .int .i64 0, .int .i64 0, .int .i64 0, .int .i64 0, .int .i64 0, .int .i64 0, .int .i64 0, .string ⟨#[]⟩, .string ⟨#[]⟩] (w3.alloc (.cells #[.int .i64 ac, .int .i64 ar, .int .i64 sq, .slice ad ds.length cpd, .int .i64 0, .int .i64 0, .int .i64 0, .int .i64 0, .int .i64 0, .int .i64 0, .int .i64 0, .string ⟨#[]⟩, .string ⟨#[]⟩] 26))) := ⟨(HBx2.out.trans (hb3.mono HBx2.out.size)).trans (A3.mono (Nat.le_of_lt hw3)), row_below (row_below HR2.out hb3) A3, heap_alloc_new _ _, ⟨hw3, by omega⟩, (HW2.out.below hb3).below A3, ((DpN.of HOV.out hld hw1 hb3.size).below hb3).below A3⟩
  obtain ⟨gc, egc⟩ : ∃ x, x = w3.heap.size := ⟨_, rfl⟩
  rw [← egc] at S0
  have HGC : Hid (gc = w3.heap.size) := egc
  have hgc : w.heap.size < gc := by omega
  clear egc A3 hsa hb3 HR2 HW2 HBx2 HOV hg3
  go_wp2_with fail
  rw [← HGC.out]
  refine (refWordAt_any g n cap 6 _ 0 0 rfl _ S0.out.2.2.2.2.1).mono ?_
  rintro e w4 ⟨x0, rfl, ex0, hw⟩
  have S1 : Hid (PSt w gc g n cap 6 s.data.toList (.slice ad ds.length cpd) ds #[.int .i64 ac, .int .i64 ar, .int .i64 sq, .slice ad ds.length cpd, .int .i64 0, .int .i64 0, .int .i64 0, .int .i64 0, .int .i64 0, .int .i64 0, .int .i64 0, .string ⟨#[]⟩, .string ⟨#[]⟩] w4) := by rw [hw]; exact S0.out
  clear hw S0
  rw [words_at] at ex0
  have EX : Hid (x0.data.toList = hdW s.data.toList) := ex0
  clear ex0
  have c1 : (x0.toList == [99, 114, 101, 97, 116, 101]) = false := by rw [ByteArray.toList_eq, EX.out, HX.out]; rfl
  have c2 : (x0.toList == [109, 111, 118, 101]) = false := by rw [ByteArray.toList_eq, EX.out, HX.out]; rfl
  have c3 : (x0.toList == [115, 101, 116]) = true := by rw [ByteArray.toList_eq, EX.out, HX.out]; rfl
  clear EX
  obtain ⟨k_0, k_1, k_2, k_3, k_4, k_5, k_6, k_7, k_8, k_9, k_10, k_11, k_12⟩ := row_cells S1.out.2.2.1
  have fz := row_free S1.out.2.2.1
  have R1 : Hid (PSt w gc g n cap 6 s.data.toList (.slice ad ds.length cpd) ds #[.int .i64 ac, .int .i64 ar, .int .i64 sq, .slice ad ds.length cpd, .int .i64 3, .int .i64 0, .int .i64 0, .int .i64 0, .int .i64 0, .int .i64 0, .int .i64 0, .string ⟨#[]⟩, .string ⟨#[]⟩] (w4.setCell ⟨gc, 4, none⟩ (.int .i64 3))) := (S1.out.set 4 _)
  go_wp2_with fail
  refine (refStampAt_any g n cap 6 _ HLn.out 4 4 rfl _ R1.out.2.2.2.2.1).mono ?_
  rintro e v1 ⟨nc, nr, rfl, hsa, hb⟩
  have Hnc : Hid (StampW (hdW (tlW (tlW (tlW (tlW s.data.toList))))) nc nr) := by rw [words_at] at hsa; exact hsa
  have T1 : Hid (PSt w gc g n cap 6 s.data.toList (.slice ad ds.length cpd) ds #[.int .i64 ac, .int .i64 ar, .int .i64 sq, .slice ad ds.length cpd, .int .i64 3, .int .i64 0, .int .i64 0, .int .i64 0, .int .i64 0, .int .i64 0, .int .i64 0, .string ⟨#[]⟩, .string ⟨#[]⟩] v1) := R1.out.below hb
  clear hsa hb R1
  clear k_0 k_1 k_2 k_3 k_4 k_5 k_6 k_7 k_8 k_9 k_10 k_11 k_12 fz
  obtain ⟨k_0, k_1, k_2, k_3, k_4, k_5, k_6, k_7, k_8, k_9, k_10, k_11, k_12⟩ := row_cells T1.out.2.2.1
  have fz := row_free T1.out.2.2.1
  have R2 : Hid (PSt w gc g n cap 6 s.data.toList (.slice ad ds.length cpd) ds #[.int .i64 ac, .int .i64 ar, .int .i64 sq, .slice ad ds.length cpd, .int .i64 3, .int .i64 nc, .int .i64 nr, .int .i64 0, .int .i64 0, .int .i64 0, .int .i64 0, .string ⟨#[]⟩, .string ⟨#[]⟩] ((v1.setCell ⟨gc, 5, none⟩ (.int .i64 nc)).setCell ⟨gc, 6, none⟩ (.int .i64 nr))) := ((T1.out.set 5 _).set 6 _)
  go_wp2_with fail
  refine (refWordAt_any g n cap 6 _ 5 5 rfl _ R2.out.2.2.2.2.1).mono ?_
  rintro e v2 ⟨nm, rfl, hsa, hw⟩
  have znm := HZ.out 6 5 nm hsa
  have Hnm : Hid (nm.data.toList = (hdW (tlW (tlW (tlW (tlW (tlW s.data.toList))))))) := by rw [words_at] at hsa; exact hsa
  have T2 : Hid (PSt w gc g n cap 6 s.data.toList (.slice ad ds.length cpd) ds #[.int .i64 ac, .int .i64 ar, .int .i64 sq, .slice ad ds.length cpd, .int .i64 3, .int .i64 nc, .int .i64 nr, .int .i64 0, .int .i64 0, .int .i64 0, .int .i64 0, .string ⟨#[]⟩, .string ⟨#[]⟩] v2) := by rw [hw]; exact R2.out
  clear hsa hw R2
  clear k_0 k_1 k_2 k_3 k_4 k_5 k_6 k_7 k_8 k_9 k_10 k_11 k_12 fz
  obtain ⟨k_0, k_1, k_2, k_3, k_4, k_5, k_6, k_7, k_8, k_9, k_10, k_11, k_12⟩ := row_cells T2.out.2.2.1
  have fz := row_free T2.out.2.2.1
  have R3 : Hid (PSt w gc g n cap 6 s.data.toList (.slice ad ds.length cpd) ds #[.int .i64 ac, .int .i64 ar, .int .i64 sq, .slice ad ds.length cpd, .int .i64 3, .int .i64 nc, .int .i64 nr, .int .i64 0, .int .i64 0, .int .i64 0, .int .i64 0, .string nm, .string ⟨#[]⟩] (v2.setCell ⟨gc, 11, none⟩ (.string nm))) := (T2.out.set 11 _)
  go_wp2_with fail
  refine (refWordAt_any g n cap 6 _ 6 6 rfl _ R3.out.2.2.2.2.1).mono ?_
  rintro e v3 ⟨xq, rfl, hsa, hw⟩
  have zxq := HZ.out 6 6 xq hsa
  have Hxq : Hid (xq.data.toList = (tlW (tlW (tlW (tlW (tlW (tlW s.data.toList))))))) := by rw [words_at] at hsa; exact hsa
  have T3 : Hid (PSt w gc g n cap 6 s.data.toList (.slice ad ds.length cpd) ds #[.int .i64 ac, .int .i64 ar, .int .i64 sq, .slice ad ds.length cpd, .int .i64 3, .int .i64 nc, .int .i64 nr, .int .i64 0, .int .i64 0, .int .i64 0, .int .i64 0, .string nm, .string ⟨#[]⟩] v3) := by rw [hw]; exact R3.out
  clear hsa hw R3
  clear k_0 k_1 k_2 k_3 k_4 k_5 k_6 k_7 k_8 k_9 k_10 k_11 k_12 fz
  obtain ⟨k_0, k_1, k_2, k_3, k_4, k_5, k_6, k_7, k_8, k_9, k_10, k_11, k_12⟩ := row_cells T3.out.2.2.1
  have fz := row_free T3.out.2.2.1
  go_wp2_with fail
  refine (refUnquote_any xq zxq _).mono ?_
  rintro e v4 ⟨tq, bq, rfl, huq, htq, hb⟩
  have HUQ : Hid (UnqW (tlW (tlW (tlW (tlW (tlW (tlW s.data.toList)))))) tq) := ⟨bq, by rw [Hxq.out] at huq; exact huq⟩
  have T4 : Hid (PSt w gc g n cap 6 s.data.toList (.slice ad ds.length cpd) ds #[.int .i64 ac, .int .i64 ar, .int .i64 sq, .slice ad ds.length cpd, .int .i64 3, .int .i64 nc, .int .i64 nr, .int .i64 0, .int .i64 0, .int .i64 0, .int .i64 0, .string nm, .string ⟨#[]⟩] v4) := T3.out.below hb
  clear huq htq hb
  clear k_0 k_1 k_2 k_3 k_4 k_5 k_6 k_7 k_8 k_9 k_10 k_11 k_12 fz
  obtain ⟨k_0, k_1, k_2, k_3, k_4, k_5, k_6, k_7, k_8, k_9, k_10, k_11, k_12⟩ := row_cells T4.out.2.2.1
  have fz := row_free T4.out.2.2.1
  have RZ : Hid (PSt w gc g n cap 6 s.data.toList (.slice ad ds.length cpd) ds #[.int .i64 ac, .int .i64 ar, .int .i64 sq, .slice ad ds.length cpd, .int .i64 3, .int .i64 nc, .int .i64 nr, .int .i64 0, .int .i64 0, .int .i64 0, .int .i64 0, .string nm, .string (txt tq)] (v4.setCell ⟨gc, 12, none⟩ (.string (txt tq)))) := (T4.out.set 12 _)
  have HRD : Hid (∀ d, checkCh d = 0 → s.data.toList = textCh d → ((⟨ac, ar, sq, ds, 3, nc, nr, 0, 0, 0, 0, nm, (txt tq)⟩ : Ch)) = d) := fun d hd e => RefReadIs.back hd (e ▸ (show RefReadIs s.data.toList ⟨ac, ar, sq, ds, 3, nc, nr, 0, 0, 0, 0, nm, (txt tq)⟩ from ⟨by show (3 : Int) = kindOf (hdW s.data.toList); rw [HX.out]; rfl, HA.out, HQ.out, HCL.out, _, _, _, rfl, rfl, rfl, fun e => absurd e (by show ¬ (3 : Int) = 1; decide), fun e => absurd e (by show ¬ (3 : Int) = 2; decide), fun _ => ⟨Hnc.out, rfl, rfl, rfl, rfl, Hnm.out, HUQ.out⟩, fun e => absurd e (by show ¬ (3 : Int) = 4; decide), fun e => absurd e (by show ¬ (3 : Int) = 5; decide)⟩))
  go_wp2_with fail
  refine (refTextCh_any ac ar sq (.slice ad ds.length cpd) 3 nc nr 0 0 0 0 nm (txt tq) ds (by omega) _ RZ.out.2.2.2.2.2.isI).mono ?_
  rintro e wt ⟨rfl, hbt⟩
  have TZ : Hid (PSt w gc g n cap 6 s.data.toList (.slice ad ds.length cpd) ds #[.int .i64 ac, .int .i64 ar, .int .i64 sq, .slice ad ds.length cpd, .int .i64 3, .int .i64 nc, .int .i64 nr, .int .i64 0, .int .i64 0, .int .i64 0, .int .i64 0, .string nm, .string (txt tq)] wt) := RZ.out.below hbt
  clear hbt RZ
  clear k_0 k_1 k_2 k_3 k_4 k_5 k_6 k_7 k_8 k_9 k_10 k_11 k_12 fz
  obtain ⟨k_0, k_1, k_2, k_3, k_4, k_5, k_6, k_7, k_8, k_9, k_10, k_11, k_12⟩ := row_cells TZ.out.2.2.1
  have fz := row_free TZ.out.2.2.1
  obtain ⟨z_0, z_1, z_2, z_3, z_4, z_5, z_6, z_7, z_8, z_9, z_10, z_11, z_12⟩ := row_cells TZ.out.2.1
  have fr0 := row_free TZ.out.2.1
  have hgn : gc ≠ w.heap.size := by omega
  by_cases hc : checkCh ⟨ac, ar, sq, ds, 3, nc, nr, 0, 0, 0, 0, nm, (txt tq)⟩ = 0
  · by_cases ht : textCh ⟨ac, ar, sq, ds, 3, nc, nr, 0, 0, 0, 0, nm, (txt tq)⟩ = s.data.toList
    · have qa : ((txt (textCh ⟨ac, ar, sq, ds, 3, nc, nr, 0, 0, 0, 0, nm, (txt tq)⟩)).toList == s.toList) = true := by rw [ByteArray.toList_eq, ByteArray.toList_eq]; rw [← ht]; simp [txt]
      have qb : ((txt (textCh ⟨ac, ar, sq, ds, 3, nc, nr, 0, 0, 0, 0, nm, (txt tq)⟩)).toList != s.toList) = false := by rw [bne, qa]; rfl
      have HP : Hid (ParseCh s.data.toList ⟨ac, ar, sq, ds, 3, nc, nr, 0, 0, 0, 0, nm, (txt tq)⟩ 0) := .inr (.inl ⟨hc, ht.symm, rfl⟩)
      clear ht
      rw [if_pos hc, hc]
      have FR : Hid ((((((((((((((wt.setCell ⟨w.heap.size, 0, none⟩ (.int .i64 ac)).setCell ⟨w.heap.size, 1, none⟩ (.int .i64 ar)).setCell ⟨w.heap.size, 2, none⟩ (.int .i64 sq)).setCell ⟨w.heap.size, 3, none⟩ (.slice ad ds.length cpd)).setCell ⟨w.heap.size, 4, none⟩ (.int .i64 3)).setCell ⟨w.heap.size, 5, none⟩ (.int .i64 nc)).setCell ⟨w.heap.size, 6, none⟩ (.int .i64 nr)).setCell ⟨w.heap.size, 7, none⟩ (.int .i64 0)).setCell ⟨w.heap.size, 8, none⟩ (.int .i64 0)).setCell ⟨w.heap.size, 9, none⟩ (.int .i64 0)).setCell ⟨w.heap.size, 10, none⟩ (.int .i64 0)).setCell ⟨w.heap.size, 11, none⟩ (.string nm)).setCell ⟨w.heap.size, 12, none⟩ (.string (txt tq))).heap[w.heap.size]? = some (.cells #[.int .i64 ac, .int .i64 ar, .int .i64 sq, .slice ad ds.length cpd, .int .i64 3, .int .i64 nc, .int .i64 nr, .int .i64 0, .int .i64 0, .int .i64 0, .int .i64 0, .string nm, .string (txt tq)] 26)) := row_set13 TZ.out.2.1
      have FB : Hid (Below w.heap.size w (((((((((((((wt.setCell ⟨w.heap.size, 0, none⟩ (.int .i64 ac)).setCell ⟨w.heap.size, 1, none⟩ (.int .i64 ar)).setCell ⟨w.heap.size, 2, none⟩ (.int .i64 sq)).setCell ⟨w.heap.size, 3, none⟩ (.slice ad ds.length cpd)).setCell ⟨w.heap.size, 4, none⟩ (.int .i64 3)).setCell ⟨w.heap.size, 5, none⟩ (.int .i64 nc)).setCell ⟨w.heap.size, 6, none⟩ (.int .i64 nr)).setCell ⟨w.heap.size, 7, none⟩ (.int .i64 0)).setCell ⟨w.heap.size, 8, none⟩ (.int .i64 0)).setCell ⟨w.heap.size, 9, none⟩ (.int .i64 0)).setCell ⟨w.heap.size, 10, none⟩ (.int .i64 0)).setCell ⟨w.heap.size, 11, none⟩ (.string nm)).setCell ⟨w.heap.size, 12, none⟩ (.string (txt tq)))) := (((((((((((((TZ.out.1.setCell (Nat.le_refl _) _).setCell (Nat.le_refl _) _).setCell (Nat.le_refl _) _).setCell (Nat.le_refl _) _).setCell (Nat.le_refl _) _).setCell (Nat.le_refl _) _).setCell (Nat.le_refl _) _).setCell (Nat.le_refl _) _).setCell (Nat.le_refl _) _).setCell (Nat.le_refl _) _).setCell (Nat.le_refl _) _).setCell (Nat.le_refl _) _).setCell (Nat.le_refl _) _)
      go_wp2
      (try simp only [Exit.inBlock, Exit.then])
      refine bodyPost_ret (v := .tuple #[.agg #[.int .i64 ac, .int .i64 ar, .int .i64 sq, .slice ad ds.length cpd, .int .i64 3, .int .i64 nc, .int .i64 nr, .int .i64 0, .int .i64 0, .int .i64 0, .int .i64 0, .string nm, .string (txt tq)], .int .i64 0]) ?res1 rfl ?post1
      case res1 => exact results_cell_row2 rfl _ _ w.heap.size _ _ _ _ rfl FR.out Tryz.underlying26 rfl (by kernel_rfl) rfl
      have FI : DpN w.heap.size gc (((((((((((((wt.setCell ⟨w.heap.size, 0, none⟩ (.int .i64 ac)).setCell ⟨w.heap.size, 1, none⟩ (.int .i64 ar)).setCell ⟨w.heap.size, 2, none⟩ (.int .i64 sq)).setCell ⟨w.heap.size, 3, none⟩ (.slice ad ds.length cpd)).setCell ⟨w.heap.size, 4, none⟩ (.int .i64 3)).setCell ⟨w.heap.size, 5, none⟩ (.int .i64 nc)).setCell ⟨w.heap.size, 6, none⟩ (.int .i64 nr)).setCell ⟨w.heap.size, 7, none⟩ (.int .i64 0)).setCell ⟨w.heap.size, 8, none⟩ (.int .i64 0)).setCell ⟨w.heap.size, 9, none⟩ (.int .i64 0)).setCell ⟨w.heap.size, 10, none⟩ (.int .i64 0)).setCell ⟨w.heap.size, 11, none⟩ (.string nm)).setCell ⟨w.heap.size, 12, none⟩ (.string (txt tq))) (.slice ad ds.length cpd) ds := (DpN.set (i := 12) (DpN.set (i := 11) (DpN.set (i := 10) (DpN.set (i := 9) (DpN.set (i := 8) (DpN.set (i := 7) (DpN.set (i := 6) (DpN.set (i := 5) (DpN.set (i := 4) (DpN.set (i := 3) (DpN.set (i := 2) (DpN.set (i := 1) (DpN.set (i := 0) TZ.out.2.2.2.2.2 (.inl rfl)) (.inl rfl)) (.inl rfl)) (.inl rfl)) (.inl rfl)) (.inl rfl)) (.inl rfl)) (.inl rfl)) (.inl rfl)) (.inl rfl)) (.inl rfl)) (.inl rfl)) (.inl rfl))
      exact ⟨ac, ar, sq, (.slice ad ds.length cpd), ds, 3, nc, nr, 0, 0, 0, 0, nm, (txt tq), 0, rfl, HP.out, FI.isI, by omega, FB.out⟩
    · have qa : ((txt (textCh ⟨ac, ar, sq, ds, 3, nc, nr, 0, 0, 0, 0, nm, (txt tq)⟩)).toList == s.toList) = false := by rw [ByteArray.toList_eq, ByteArray.toList_eq]; rw [beq_eq_false_iff_ne]; exact fun e => ht (by rw [← e]; simp [txt])
      have qb : ((txt (textCh ⟨ac, ar, sq, ds, 3, nc, nr, 0, 0, 0, 0, nm, (txt tq)⟩)).toList != s.toList) = true := by rw [bne, qa]; rfl
      have HN : Hid (ParseCh s.data.toList Ch.none 2) := parse_got HLn.out HRD.out (fun h => ht h.2)
      clear ht
      rw [if_pos hc, hc]
      have FR : Hid ((((((((((((((wt.setCell ⟨w.heap.size, 0, none⟩ (.int .i64 0)).setCell ⟨w.heap.size, 1, none⟩ (.int .i64 0)).setCell ⟨w.heap.size, 2, none⟩ (.int .i64 0)).setCell ⟨w.heap.size, 3, none⟩ (.slice none 0 0)).setCell ⟨w.heap.size, 4, none⟩ (.int .i64 0)).setCell ⟨w.heap.size, 5, none⟩ (.int .i64 0)).setCell ⟨w.heap.size, 6, none⟩ (.int .i64 0)).setCell ⟨w.heap.size, 7, none⟩ (.int .i64 0)).setCell ⟨w.heap.size, 8, none⟩ (.int .i64 0)).setCell ⟨w.heap.size, 9, none⟩ (.int .i64 0)).setCell ⟨w.heap.size, 10, none⟩ (.int .i64 0)).setCell ⟨w.heap.size, 11, none⟩ (.string ⟨#[]⟩)).setCell ⟨w.heap.size, 12, none⟩ (.string ⟨#[]⟩)).heap[w.heap.size]? = some (.cells #[.int .i64 0, .int .i64 0, .int .i64 0, .slice none 0 0, .int .i64 0, .int .i64 0, .int .i64 0, .int .i64 0, .int .i64 0, .int .i64 0, .int .i64 0, .string ⟨#[]⟩, .string ⟨#[]⟩] 26)) := row_set13 TZ.out.2.1
      have FB : Hid (Below w.heap.size w (((((((((((((wt.setCell ⟨w.heap.size, 0, none⟩ (.int .i64 0)).setCell ⟨w.heap.size, 1, none⟩ (.int .i64 0)).setCell ⟨w.heap.size, 2, none⟩ (.int .i64 0)).setCell ⟨w.heap.size, 3, none⟩ (.slice none 0 0)).setCell ⟨w.heap.size, 4, none⟩ (.int .i64 0)).setCell ⟨w.heap.size, 5, none⟩ (.int .i64 0)).setCell ⟨w.heap.size, 6, none⟩ (.int .i64 0)).setCell ⟨w.heap.size, 7, none⟩ (.int .i64 0)).setCell ⟨w.heap.size, 8, none⟩ (.int .i64 0)).setCell ⟨w.heap.size, 9, none⟩ (.int .i64 0)).setCell ⟨w.heap.size, 10, none⟩ (.int .i64 0)).setCell ⟨w.heap.size, 11, none⟩ (.string ⟨#[]⟩)).setCell ⟨w.heap.size, 12, none⟩ (.string ⟨#[]⟩))) := (((((((((((((TZ.out.1.setCell (Nat.le_refl _) _).setCell (Nat.le_refl _) _).setCell (Nat.le_refl _) _).setCell (Nat.le_refl _) _).setCell (Nat.le_refl _) _).setCell (Nat.le_refl _) _).setCell (Nat.le_refl _) _).setCell (Nat.le_refl _) _).setCell (Nat.le_refl _) _).setCell (Nat.le_refl _) _).setCell (Nat.le_refl _) _).setCell (Nat.le_refl _) _).setCell (Nat.le_refl _) _)
      go_wp2
      (try simp only [Exit.inBlock, Exit.then])
      refine bodyPost_ret (v := .tuple #[.agg #[.int .i64 0, .int .i64 0, .int .i64 0, .slice none 0 0, .int .i64 0, .int .i64 0, .int .i64 0, .int .i64 0, .int .i64 0, .int .i64 0, .int .i64 0, .string ⟨#[]⟩, .string ⟨#[]⟩], .int .i64 2]) ?res2 rfl ?post2
      case res2 => exact results_cell_row2 rfl _ _ w.heap.size _ _ _ _ rfl FR.out Tryz.underlying26 rfl (by kernel_rfl) rfl
      exact ParseDone.zero HN.out FB.out
  · have HN : Hid (ParseCh s.data.toList Ch.none 2) := parse_got HLn.out HRD.out (fun h => hc h.1)
    have qc : (checkCh ⟨ac, ar, sq, ds, 3, nc, nr, 0, 0, 0, 0, nm, (txt tq)⟩ != 0) = true := by simp [hc]
    rw [if_neg hc]
    have FR : Hid ((((((((((((((wt.setCell ⟨w.heap.size, 0, none⟩ (.int .i64 0)).setCell ⟨w.heap.size, 1, none⟩ (.int .i64 0)).setCell ⟨w.heap.size, 2, none⟩ (.int .i64 0)).setCell ⟨w.heap.size, 3, none⟩ (.slice none 0 0)).setCell ⟨w.heap.size, 4, none⟩ (.int .i64 0)).setCell ⟨w.heap.size, 5, none⟩ (.int .i64 0)).setCell ⟨w.heap.size, 6, none⟩ (.int .i64 0)).setCell ⟨w.heap.size, 7, none⟩ (.int .i64 0)).setCell ⟨w.heap.size, 8, none⟩ (.int .i64 0)).setCell ⟨w.heap.size, 9, none⟩ (.int .i64 0)).setCell ⟨w.heap.size, 10, none⟩ (.int .i64 0)).setCell ⟨w.heap.size, 11, none⟩ (.string ⟨#[]⟩)).setCell ⟨w.heap.size, 12, none⟩ (.string ⟨#[]⟩)).heap[w.heap.size]? = some (.cells #[.int .i64 0, .int .i64 0, .int .i64 0, .slice none 0 0, .int .i64 0, .int .i64 0, .int .i64 0, .int .i64 0, .int .i64 0, .int .i64 0, .int .i64 0, .string ⟨#[]⟩, .string ⟨#[]⟩] 26)) := row_set13 TZ.out.2.1
    have FB : Hid (Below w.heap.size w (((((((((((((wt.setCell ⟨w.heap.size, 0, none⟩ (.int .i64 0)).setCell ⟨w.heap.size, 1, none⟩ (.int .i64 0)).setCell ⟨w.heap.size, 2, none⟩ (.int .i64 0)).setCell ⟨w.heap.size, 3, none⟩ (.slice none 0 0)).setCell ⟨w.heap.size, 4, none⟩ (.int .i64 0)).setCell ⟨w.heap.size, 5, none⟩ (.int .i64 0)).setCell ⟨w.heap.size, 6, none⟩ (.int .i64 0)).setCell ⟨w.heap.size, 7, none⟩ (.int .i64 0)).setCell ⟨w.heap.size, 8, none⟩ (.int .i64 0)).setCell ⟨w.heap.size, 9, none⟩ (.int .i64 0)).setCell ⟨w.heap.size, 10, none⟩ (.int .i64 0)).setCell ⟨w.heap.size, 11, none⟩ (.string ⟨#[]⟩)).setCell ⟨w.heap.size, 12, none⟩ (.string ⟨#[]⟩))) := (((((((((((((TZ.out.1.setCell (Nat.le_refl _) _).setCell (Nat.le_refl _) _).setCell (Nat.le_refl _) _).setCell (Nat.le_refl _) _).setCell (Nat.le_refl _) _).setCell (Nat.le_refl _) _).setCell (Nat.le_refl _) _).setCell (Nat.le_refl _) _).setCell (Nat.le_refl _) _).setCell (Nat.le_refl _) _).setCell (Nat.le_refl _) _).setCell (Nat.le_refl _) _).setCell (Nat.le_refl _) _)
    go_wp2
    (try simp only [Exit.inBlock, Exit.then])
    refine bodyPost_ret (v := .tuple #[.agg #[.int .i64 0, .int .i64 0, .int .i64 0, .slice none 0 0, .int .i64 0, .int .i64 0, .int .i64 0, .int .i64 0, .int .i64 0, .int .i64 0, .int .i64 0, .string ⟨#[]⟩, .string ⟨#[]⟩], .int .i64 2]) ?res3 rfl ?post3
    case res3 => exact results_cell_row2 rfl _ _ w.heap.size _ _ _ _ rfl FR.out Tryz.underlying26 rfl (by kernel_rfl) rfl
    exact ParseDone.zero HN.out FB.out

end Go.Proofs.YtaocjmipjibiaaaGreatDoor

namespace Go.Proofs.YtaocjmipjibiaaaGreatDoor
open Go.RowKit
set_option linter.unusedVariables false
set_option linter.unusedSimpArgs false

set_option maxRecDepth 100000 in
set_option maxHeartbeats 16000000 in
theorem refParse_k4 (s : ByteArray) (hs : s.size ≤ 262144) (hx : hdW s.data.toList = [99, 108, 101, 97, 114]) (w : World) :
    Calls Tryz.prog 30 #[.string s] w fun e w' => ParseDone s.data.toList w e w' := by
  have HX : Hid (hdW s.data.toList = [99, 108, 101, 97, 114]) := hx
  clear hx
  have q : ¬ (262144 : Int) < (s.size : Int) := by omega
  have HLn : Hid (s.data.toList.length ≤ 262144) := by show _ ≤ _; rw [size_list]; exact hs
  have HZ : Hid (∀ (m i : Nat) (t : ByteArray), t.data.toList = (wordsL m s.data.toList).getD i [] → t.size ≤ 140737488355328) := fun m i t ht => by have := words_at_len m s.data.toList i; rw [← ht, size_list, size_list] at this; omega
  have HB0 : Hid (Below w.heap.size w (w.alloc (.cells #[.int .i64 0, .int .i64 0, .int .i64 0, .slice none 0 0, .int .i64 0, .int .i64 0, .int .i64 0, .int .i64 0, .int .i64 0, .int .i64 0, .int .i64 0, .string ⟨#[]⟩, .string ⟨#[]⟩] 26))) := (Below.refl _ _).alloc (Nat.le_refl _) _
  have HR0 : Hid ((w.alloc (.cells #[.int .i64 0, .int .i64 0, .int .i64 0, .slice none 0 0, .int .i64 0, .int .i64 0, .int .i64 0, .int .i64 0, .int .i64 0, .int .i64 0, .int .i64 0, .string ⟨#[]⟩, .string ⟨#[]⟩] 26)).heap[w.heap.size]? = some (.cells #[.int .i64 0, .int .i64 0, .int .i64 0, .slice none 0 0, .int .i64 0, .int .i64 0, .int .i64 0, .int .i64 0, .int .i64 0, .int .i64 0, .int .i64 0, .string ⟨#[]⟩, .string ⟨#[]⟩] 26)) := heap_alloc_new _ _
  have hz0 : (w.alloc (.cells #[.int .i64 0, .int .i64 0, .int .i64 0, .slice none 0 0, .int .i64 0, .int .i64 0, .int .i64 0, .int .i64 0, .int .i64 0, .int .i64 0, .int .i64 0, .string ⟨#[]⟩, .string ⟨#[]⟩] 26)).heap.size = w.heap.size + 1 := by simp
  go_enter Tryz.func30, Tryz.ntmps30
  go_wp2_with fail
  refine (refWords_any 6 7 rfl (by omega) s hs _).mono ?_
  rintro e w1 ⟨g, cap, n, Wd, rfl, how, hnw, hmw, hWw, hb1⟩
  have HW1 : Hid (WdsAt w1 g n cap 6 s.data.toList) := ⟨_, Wd, how, hnw, hWw⟩
  have HBx : Hid (Below w.heap.size w w1) := HB0.out.trans (hb1.mono HB0.out.size)
  have HR1 : Hid (w1.heap[w.heap.size]? = some (.cells #[.int .i64 0, .int .i64 0, .int .i64 0, .slice none 0 0, .int .i64 0, .int .i64 0, .int .i64 0, .int .i64 0, .int .i64 0, .int .i64 0, .int .i64 0, .string ⟨#[]⟩, .string ⟨#[]⟩] 26)) := row_below HR0.out hb1
  have hgl := (World.ownsRow.lt how g rfl).1
  rw [hz0] at hgl
  clear how hnw hWw hb1 hz0
  go_wp2_with fail
  refine (refWordAt_any g n cap 6 _ 2 2 rfl _ HW1.out).mono ?_
  rintro e w' ⟨x2, rfl, ex2, hw⟩
  replace hw := hw.symm
  subst hw
  have E2 : Hid (x2.data.toList = (wordsL 6 s.data.toList).getD 2 []) := ex2
  clear ex2
  go_wp2_with fail
  refine (whole_any x2 _).mono ?_
  rintro e w' ⟨sq, okn, rfl, hnum, hw⟩
  replace hw := hw.symm
  subst hw
  have HQ : Hid (NumW (hdW (tlW (tlW s.data.toList))) sq) := ⟨okn, by have := numIs_whole hnum; rw [E2.out, words_at] at this; exact this⟩
  clear hnum
  go_wp2_with fail
  refine (refWordAt_any g n cap 6 _ 3 3 rfl _ HW1.out).mono ?_
  rintro e w' ⟨x3, rfl, ex3, hw⟩
  replace hw := hw.symm
  subst hw
  have E3 : Hid (x3.data.toList = (wordsL 6 s.data.toList).getD 3 []) := ex3
  have hz3 := HZ.out 6 3 x3 ex3
  clear ex3
  go_wp2_with fail
  refine (refParse_any x3 (by omega) _).mono ?_
  rintro e w2 ⟨dv, ds, k2, rfl, hov, hld, hpc, hb2⟩
  have HCL : Hid (ClockW (hdW (tlW (tlW (tlW s.data.toList)))) ds) := ⟨k2, by rw [E3.out, words_at] at hpc; exact hpc⟩
  have HOV : Hid (OwnI w1.heap.size w2 dv ds) := hov
  have hw1 := row_lt HR1.out
  have HR2 : Hid (w2.heap[w.heap.size]? = some (.cells #[.int .i64 0, .int .i64 0, .int .i64 0, .slice none 0 0, .int .i64 0, .int .i64 0, .int .i64 0, .int .i64 0, .int .i64 0, .int .i64 0, .int .i64 0, .string ⟨#[]⟩, .string ⟨#[]⟩] 26)) := row_below HR1.out hb2
  have HW2 : Hid (WdsAt w2 g n cap 6 s.data.toList) := HW1.out.below hb2
  have HBx2 : Hid (Below w.heap.size w w2) := HBx.out.trans (hb2.mono HBx.out.size)
  obtain ⟨ad, cpd, edv⟩ := hov.form
  subst edv
  clear hov hpc hb2 HR1 HBx HW1
  go_wp2_with fail
  refine (refStampAt_any g n cap 6 _ HLn.out 1 1 rfl _ HW2.out).mono ?_
  rintro e w3 ⟨ac, ar, rfl, hsa, hb3⟩
  have HA : Hid (StampW (hdW (tlW s.data.toList)) ac ar) := by rw [words_at] at hsa; exact hsa
  have hg3 : g < w3.heap.size := (HW2.out.below hb3).lt
  have hw3 := row_lt (row_below HR2.out hb3)
  have A3 : Below w3.heap.size w3 (w3.alloc (.cells #[.int .i64 ac, .int .i64 ar, .int .i64 sq, .slice ad ds.length cpd, .int .i64 0, .int .i64 0, .int .i64 0, .int .i64 0, .int .i64 0, .int .i64 0, .int .i64 0, .string ⟨#[]⟩, .string ⟨#[]⟩] 26)) := (Below.refl _ _).alloc (Nat.le_refl _) _
  have S0 : Hid (PSt w w3.heap.size g n cap 6 s.data.toList (.slice ad ds.length cpd) ds #[.int .i64 ac, .int .i64 ar, .int .i64 sq, .slice ad ds.length cpd, .int .i64 0, .int .i64 0, .int .i64 0, .int .i64 0, .int .i64 0, .int .i64 0, .int .i64 0, .string ⟨#[]⟩, .string ⟨#[]⟩] (w3.alloc (.cells #[.int .i64 ac, .int .i64 ar, .int .i64 sq, .slice ad ds.length cpd, .int .i64 0, .int .i64 0, .int .i64 0, .int .i64 0, .int .i64 0, .int .i64 0, .int .i64 0, .string ⟨#[]⟩, .string ⟨#[]⟩] 26))) := ⟨(HBx2.out.trans (hb3.mono HBx2.out.size)).trans (A3.mono (Nat.le_of_lt hw3)), row_below (row_below HR2.out hb3) A3, heap_alloc_new _ _, ⟨hw3, by omega⟩, (HW2.out.below hb3).below A3, ((DpN.of HOV.out hld hw1 hb3.size).below hb3).below A3⟩
  obtain ⟨gc, egc⟩ : ∃ x, x = w3.heap.size := ⟨_, rfl⟩
  rw [← egc] at S0
  have HGC : Hid (gc = w3.heap.size) := egc
  have hgc : w.heap.size < gc := by omega
  clear egc A3 hsa hb3 HR2 HW2 HBx2 HOV hg3
  go_wp2_with fail
  rw [← HGC.out]
  refine (refWordAt_any g n cap 6 _ 0 0 rfl _ S0.out.2.2.2.2.1).mono ?_
  rintro e w4 ⟨x0, rfl, ex0, hw⟩
  have S1 : Hid (PSt w gc g n cap 6 s.data.toList (.slice ad ds.length cpd) ds #[.int .i64 ac, .int .i64 ar, .int .i64 sq, .slice ad ds.length cpd, .int .i64 0, .int .i64 0, .int .i64 0, .int .i64 0, .int .i64 0, .int .i64 0, .int .i64 0, .string ⟨#[]⟩, .string ⟨#[]⟩] w4) := by rw [hw]; exact S0.out
  clear hw S0
  rw [words_at] at ex0
  have EX : Hid (x0.data.toList = hdW s.data.toList) := ex0
  clear ex0
  have c1 : (x0.toList == [99, 114, 101, 97, 116, 101]) = false := by rw [ByteArray.toList_eq, EX.out, HX.out]; rfl
  have c2 : (x0.toList == [109, 111, 118, 101]) = false := by rw [ByteArray.toList_eq, EX.out, HX.out]; rfl
  have c3 : (x0.toList == [115, 101, 116]) = false := by rw [ByteArray.toList_eq, EX.out, HX.out]; rfl
  have c4 : (x0.toList == [99, 108, 101, 97, 114]) = true := by rw [ByteArray.toList_eq, EX.out, HX.out]; rfl
  clear EX
  obtain ⟨k_0, k_1, k_2, k_3, k_4, k_5, k_6, k_7, k_8, k_9, k_10, k_11, k_12⟩ := row_cells S1.out.2.2.1
  have fz := row_free S1.out.2.2.1
  have R1 : Hid (PSt w gc g n cap 6 s.data.toList (.slice ad ds.length cpd) ds #[.int .i64 ac, .int .i64 ar, .int .i64 sq, .slice ad ds.length cpd, .int .i64 4, .int .i64 0, .int .i64 0, .int .i64 0, .int .i64 0, .int .i64 0, .int .i64 0, .string ⟨#[]⟩, .string ⟨#[]⟩] (w4.setCell ⟨gc, 4, none⟩ (.int .i64 4))) := (S1.out.set 4 _)
  go_wp2_with fail
  refine (refStampAt_any g n cap 6 _ HLn.out 4 4 rfl _ R1.out.2.2.2.2.1).mono ?_
  rintro e v1 ⟨nc, nr, rfl, hsa, hb⟩
  have Hnc : Hid (StampW (hdW (tlW (tlW (tlW (tlW s.data.toList))))) nc nr) := by rw [words_at] at hsa; exact hsa
  have T1 : Hid (PSt w gc g n cap 6 s.data.toList (.slice ad ds.length cpd) ds #[.int .i64 ac, .int .i64 ar, .int .i64 sq, .slice ad ds.length cpd, .int .i64 4, .int .i64 0, .int .i64 0, .int .i64 0, .int .i64 0, .int .i64 0, .int .i64 0, .string ⟨#[]⟩, .string ⟨#[]⟩] v1) := R1.out.below hb
  clear hsa hb R1
  clear k_0 k_1 k_2 k_3 k_4 k_5 k_6 k_7 k_8 k_9 k_10 k_11 k_12 fz
  obtain ⟨k_0, k_1, k_2, k_3, k_4, k_5, k_6, k_7, k_8, k_9, k_10, k_11, k_12⟩ := row_cells T1.out.2.2.1
  have fz := row_free T1.out.2.2.1
  have R2 : Hid (PSt w gc g n cap 6 s.data.toList (.slice ad ds.length cpd) ds #[.int .i64 ac, .int .i64 ar, .int .i64 sq, .slice ad ds.length cpd, .int .i64 4, .int .i64 nc, .int .i64 nr, .int .i64 0, .int .i64 0, .int .i64 0, .int .i64 0, .string ⟨#[]⟩, .string ⟨#[]⟩] ((v1.setCell ⟨gc, 5, none⟩ (.int .i64 nc)).setCell ⟨gc, 6, none⟩ (.int .i64 nr))) := ((T1.out.set 5 _).set 6 _)
  go_wp2_with fail
  refine (refWordAt_any g n cap 6 _ 5 5 rfl _ R2.out.2.2.2.2.1).mono ?_
  rintro e v2 ⟨nm, rfl, hsa, hw⟩
  have znm := HZ.out 6 5 nm hsa
  have Hnm : Hid (nm.data.toList = (hdW (tlW (tlW (tlW (tlW (tlW s.data.toList))))))) := by rw [words_at] at hsa; exact hsa
  have T2 : Hid (PSt w gc g n cap 6 s.data.toList (.slice ad ds.length cpd) ds #[.int .i64 ac, .int .i64 ar, .int .i64 sq, .slice ad ds.length cpd, .int .i64 4, .int .i64 nc, .int .i64 nr, .int .i64 0, .int .i64 0, .int .i64 0, .int .i64 0, .string ⟨#[]⟩, .string ⟨#[]⟩] v2) := by rw [hw]; exact R2.out
  clear hsa hw R2
  clear k_0 k_1 k_2 k_3 k_4 k_5 k_6 k_7 k_8 k_9 k_10 k_11 k_12 fz
  obtain ⟨k_0, k_1, k_2, k_3, k_4, k_5, k_6, k_7, k_8, k_9, k_10, k_11, k_12⟩ := row_cells T2.out.2.2.1
  have fz := row_free T2.out.2.2.1
  have RZ : Hid (PSt w gc g n cap 6 s.data.toList (.slice ad ds.length cpd) ds #[.int .i64 ac, .int .i64 ar, .int .i64 sq, .slice ad ds.length cpd, .int .i64 4, .int .i64 nc, .int .i64 nr, .int .i64 0, .int .i64 0, .int .i64 0, .int .i64 0, .string nm, .string ⟨#[]⟩] (v2.setCell ⟨gc, 11, none⟩ (.string nm))) := (T2.out.set 11 _)
  have HRD : Hid (∀ d, checkCh d = 0 → s.data.toList = textCh d → ((⟨ac, ar, sq, ds, 4, nc, nr, 0, 0, 0, 0, nm, ⟨#[]⟩⟩ : Ch)) = d) := fun d hd e => RefReadIs.back hd (e ▸ (show RefReadIs s.data.toList ⟨ac, ar, sq, ds, 4, nc, nr, 0, 0, 0, 0, nm, ⟨#[]⟩⟩ from ⟨by show (4 : Int) = kindOf (hdW s.data.toList); rw [HX.out]; rfl, HA.out, HQ.out, HCL.out, _, _, _, rfl, rfl, rfl, fun e => absurd e (by show ¬ (4 : Int) = 1; decide), fun e => absurd e (by show ¬ (4 : Int) = 2; decide), fun e => absurd e (by show ¬ (4 : Int) = 3; decide), fun _ => ⟨Hnc.out, rfl, rfl, rfl, rfl, Hnm.out, rfl⟩, fun e => absurd e (by show ¬ (4 : Int) = 5; decide)⟩))
  go_wp2_with fail
  refine (refTextCh_any ac ar sq (.slice ad ds.length cpd) 4 nc nr 0 0 0 0 nm ⟨#[]⟩ ds (by omega) _ RZ.out.2.2.2.2.2.isI).mono ?_
  rintro e wt ⟨rfl, hbt⟩
  have TZ : Hid (PSt w gc g n cap 6 s.data.toList (.slice ad ds.length cpd) ds #[.int .i64 ac, .int .i64 ar, .int .i64 sq, .slice ad ds.length cpd, .int .i64 4, .int .i64 nc, .int .i64 nr, .int .i64 0, .int .i64 0, .int .i64 0, .int .i64 0, .string nm, .string ⟨#[]⟩] wt) := RZ.out.below hbt
  clear hbt RZ
  clear k_0 k_1 k_2 k_3 k_4 k_5 k_6 k_7 k_8 k_9 k_10 k_11 k_12 fz
  obtain ⟨k_0, k_1, k_2, k_3, k_4, k_5, k_6, k_7, k_8, k_9, k_10, k_11, k_12⟩ := row_cells TZ.out.2.2.1
  have fz := row_free TZ.out.2.2.1
  obtain ⟨z_0, z_1, z_2, z_3, z_4, z_5, z_6, z_7, z_8, z_9, z_10, z_11, z_12⟩ := row_cells TZ.out.2.1
  have fr0 := row_free TZ.out.2.1
  have hgn : gc ≠ w.heap.size := by omega
  by_cases hc : checkCh ⟨ac, ar, sq, ds, 4, nc, nr, 0, 0, 0, 0, nm, ⟨#[]⟩⟩ = 0
  · by_cases ht : textCh ⟨ac, ar, sq, ds, 4, nc, nr, 0, 0, 0, 0, nm, ⟨#[]⟩⟩ = s.data.toList
    · have qa : ((txt (textCh ⟨ac, ar, sq, ds, 4, nc, nr, 0, 0, 0, 0, nm, ⟨#[]⟩⟩)).toList == s.toList) = true := by rw [ByteArray.toList_eq, ByteArray.toList_eq]; rw [← ht]; simp [txt]
      have qb : ((txt (textCh ⟨ac, ar, sq, ds, 4, nc, nr, 0, 0, 0, 0, nm, ⟨#[]⟩⟩)).toList != s.toList) = false := by rw [bne, qa]; rfl
      have HP : Hid (ParseCh s.data.toList ⟨ac, ar, sq, ds, 4, nc, nr, 0, 0, 0, 0, nm, ⟨#[]⟩⟩ 0) := .inr (.inl ⟨hc, ht.symm, rfl⟩)
      clear ht
      rw [if_pos hc, hc]
      have FR : Hid ((((((((((((((wt.setCell ⟨w.heap.size, 0, none⟩ (.int .i64 ac)).setCell ⟨w.heap.size, 1, none⟩ (.int .i64 ar)).setCell ⟨w.heap.size, 2, none⟩ (.int .i64 sq)).setCell ⟨w.heap.size, 3, none⟩ (.slice ad ds.length cpd)).setCell ⟨w.heap.size, 4, none⟩ (.int .i64 4)).setCell ⟨w.heap.size, 5, none⟩ (.int .i64 nc)).setCell ⟨w.heap.size, 6, none⟩ (.int .i64 nr)).setCell ⟨w.heap.size, 7, none⟩ (.int .i64 0)).setCell ⟨w.heap.size, 8, none⟩ (.int .i64 0)).setCell ⟨w.heap.size, 9, none⟩ (.int .i64 0)).setCell ⟨w.heap.size, 10, none⟩ (.int .i64 0)).setCell ⟨w.heap.size, 11, none⟩ (.string nm)).setCell ⟨w.heap.size, 12, none⟩ (.string ⟨#[]⟩)).heap[w.heap.size]? = some (.cells #[.int .i64 ac, .int .i64 ar, .int .i64 sq, .slice ad ds.length cpd, .int .i64 4, .int .i64 nc, .int .i64 nr, .int .i64 0, .int .i64 0, .int .i64 0, .int .i64 0, .string nm, .string ⟨#[]⟩] 26)) := row_set13 TZ.out.2.1
      have FB : Hid (Below w.heap.size w (((((((((((((wt.setCell ⟨w.heap.size, 0, none⟩ (.int .i64 ac)).setCell ⟨w.heap.size, 1, none⟩ (.int .i64 ar)).setCell ⟨w.heap.size, 2, none⟩ (.int .i64 sq)).setCell ⟨w.heap.size, 3, none⟩ (.slice ad ds.length cpd)).setCell ⟨w.heap.size, 4, none⟩ (.int .i64 4)).setCell ⟨w.heap.size, 5, none⟩ (.int .i64 nc)).setCell ⟨w.heap.size, 6, none⟩ (.int .i64 nr)).setCell ⟨w.heap.size, 7, none⟩ (.int .i64 0)).setCell ⟨w.heap.size, 8, none⟩ (.int .i64 0)).setCell ⟨w.heap.size, 9, none⟩ (.int .i64 0)).setCell ⟨w.heap.size, 10, none⟩ (.int .i64 0)).setCell ⟨w.heap.size, 11, none⟩ (.string nm)).setCell ⟨w.heap.size, 12, none⟩ (.string ⟨#[]⟩))) := (((((((((((((TZ.out.1.setCell (Nat.le_refl _) _).setCell (Nat.le_refl _) _).setCell (Nat.le_refl _) _).setCell (Nat.le_refl _) _).setCell (Nat.le_refl _) _).setCell (Nat.le_refl _) _).setCell (Nat.le_refl _) _).setCell (Nat.le_refl _) _).setCell (Nat.le_refl _) _).setCell (Nat.le_refl _) _).setCell (Nat.le_refl _) _).setCell (Nat.le_refl _) _).setCell (Nat.le_refl _) _)
      go_wp2
      (try simp only [Exit.inBlock, Exit.then])
      refine bodyPost_ret (v := .tuple #[.agg #[.int .i64 ac, .int .i64 ar, .int .i64 sq, .slice ad ds.length cpd, .int .i64 4, .int .i64 nc, .int .i64 nr, .int .i64 0, .int .i64 0, .int .i64 0, .int .i64 0, .string nm, .string ⟨#[]⟩], .int .i64 0]) ?res1 rfl ?post1
      case res1 => exact results_cell_row2 rfl _ _ w.heap.size _ _ _ _ rfl FR.out Tryz.underlying26 rfl (by kernel_rfl) rfl
      have FI : DpN w.heap.size gc (((((((((((((wt.setCell ⟨w.heap.size, 0, none⟩ (.int .i64 ac)).setCell ⟨w.heap.size, 1, none⟩ (.int .i64 ar)).setCell ⟨w.heap.size, 2, none⟩ (.int .i64 sq)).setCell ⟨w.heap.size, 3, none⟩ (.slice ad ds.length cpd)).setCell ⟨w.heap.size, 4, none⟩ (.int .i64 4)).setCell ⟨w.heap.size, 5, none⟩ (.int .i64 nc)).setCell ⟨w.heap.size, 6, none⟩ (.int .i64 nr)).setCell ⟨w.heap.size, 7, none⟩ (.int .i64 0)).setCell ⟨w.heap.size, 8, none⟩ (.int .i64 0)).setCell ⟨w.heap.size, 9, none⟩ (.int .i64 0)).setCell ⟨w.heap.size, 10, none⟩ (.int .i64 0)).setCell ⟨w.heap.size, 11, none⟩ (.string nm)).setCell ⟨w.heap.size, 12, none⟩ (.string ⟨#[]⟩)) (.slice ad ds.length cpd) ds := (DpN.set (i := 12) (DpN.set (i := 11) (DpN.set (i := 10) (DpN.set (i := 9) (DpN.set (i := 8) (DpN.set (i := 7) (DpN.set (i := 6) (DpN.set (i := 5) (DpN.set (i := 4) (DpN.set (i := 3) (DpN.set (i := 2) (DpN.set (i := 1) (DpN.set (i := 0) TZ.out.2.2.2.2.2 (.inl rfl)) (.inl rfl)) (.inl rfl)) (.inl rfl)) (.inl rfl)) (.inl rfl)) (.inl rfl)) (.inl rfl)) (.inl rfl)) (.inl rfl)) (.inl rfl)) (.inl rfl)) (.inl rfl))
      exact ⟨ac, ar, sq, (.slice ad ds.length cpd), ds, 4, nc, nr, 0, 0, 0, 0, nm, ⟨#[]⟩, 0, rfl, HP.out, FI.isI, by omega, FB.out⟩
    · have qa : ((txt (textCh ⟨ac, ar, sq, ds, 4, nc, nr, 0, 0, 0, 0, nm, ⟨#[]⟩⟩)).toList == s.toList) = false := by rw [ByteArray.toList_eq, ByteArray.toList_eq]; rw [beq_eq_false_iff_ne]; exact fun e => ht (by rw [← e]; simp [txt])
      have qb : ((txt (textCh ⟨ac, ar, sq, ds, 4, nc, nr, 0, 0, 0, 0, nm, ⟨#[]⟩⟩)).toList != s.toList) = true := by rw [bne, qa]; rfl
      have HN : Hid (ParseCh s.data.toList Ch.none 2) := parse_got HLn.out HRD.out (fun h => ht h.2)
      clear ht
      rw [if_pos hc, hc]
      have FR : Hid ((((((((((((((wt.setCell ⟨w.heap.size, 0, none⟩ (.int .i64 0)).setCell ⟨w.heap.size, 1, none⟩ (.int .i64 0)).setCell ⟨w.heap.size, 2, none⟩ (.int .i64 0)).setCell ⟨w.heap.size, 3, none⟩ (.slice none 0 0)).setCell ⟨w.heap.size, 4, none⟩ (.int .i64 0)).setCell ⟨w.heap.size, 5, none⟩ (.int .i64 0)).setCell ⟨w.heap.size, 6, none⟩ (.int .i64 0)).setCell ⟨w.heap.size, 7, none⟩ (.int .i64 0)).setCell ⟨w.heap.size, 8, none⟩ (.int .i64 0)).setCell ⟨w.heap.size, 9, none⟩ (.int .i64 0)).setCell ⟨w.heap.size, 10, none⟩ (.int .i64 0)).setCell ⟨w.heap.size, 11, none⟩ (.string ⟨#[]⟩)).setCell ⟨w.heap.size, 12, none⟩ (.string ⟨#[]⟩)).heap[w.heap.size]? = some (.cells #[.int .i64 0, .int .i64 0, .int .i64 0, .slice none 0 0, .int .i64 0, .int .i64 0, .int .i64 0, .int .i64 0, .int .i64 0, .int .i64 0, .int .i64 0, .string ⟨#[]⟩, .string ⟨#[]⟩] 26)) := row_set13 TZ.out.2.1
      have FB : Hid (Below w.heap.size w (((((((((((((wt.setCell ⟨w.heap.size, 0, none⟩ (.int .i64 0)).setCell ⟨w.heap.size, 1, none⟩ (.int .i64 0)).setCell ⟨w.heap.size, 2, none⟩ (.int .i64 0)).setCell ⟨w.heap.size, 3, none⟩ (.slice none 0 0)).setCell ⟨w.heap.size, 4, none⟩ (.int .i64 0)).setCell ⟨w.heap.size, 5, none⟩ (.int .i64 0)).setCell ⟨w.heap.size, 6, none⟩ (.int .i64 0)).setCell ⟨w.heap.size, 7, none⟩ (.int .i64 0)).setCell ⟨w.heap.size, 8, none⟩ (.int .i64 0)).setCell ⟨w.heap.size, 9, none⟩ (.int .i64 0)).setCell ⟨w.heap.size, 10, none⟩ (.int .i64 0)).setCell ⟨w.heap.size, 11, none⟩ (.string ⟨#[]⟩)).setCell ⟨w.heap.size, 12, none⟩ (.string ⟨#[]⟩))) := (((((((((((((TZ.out.1.setCell (Nat.le_refl _) _).setCell (Nat.le_refl _) _).setCell (Nat.le_refl _) _).setCell (Nat.le_refl _) _).setCell (Nat.le_refl _) _).setCell (Nat.le_refl _) _).setCell (Nat.le_refl _) _).setCell (Nat.le_refl _) _).setCell (Nat.le_refl _) _).setCell (Nat.le_refl _) _).setCell (Nat.le_refl _) _).setCell (Nat.le_refl _) _).setCell (Nat.le_refl _) _)
      go_wp2
      (try simp only [Exit.inBlock, Exit.then])
      refine bodyPost_ret (v := .tuple #[.agg #[.int .i64 0, .int .i64 0, .int .i64 0, .slice none 0 0, .int .i64 0, .int .i64 0, .int .i64 0, .int .i64 0, .int .i64 0, .int .i64 0, .int .i64 0, .string ⟨#[]⟩, .string ⟨#[]⟩], .int .i64 2]) ?res2 rfl ?post2
      case res2 => exact results_cell_row2 rfl _ _ w.heap.size _ _ _ _ rfl FR.out Tryz.underlying26 rfl (by kernel_rfl) rfl
      exact ParseDone.zero HN.out FB.out
  · have HN : Hid (ParseCh s.data.toList Ch.none 2) := parse_got HLn.out HRD.out (fun h => hc h.1)
    have qc : (checkCh ⟨ac, ar, sq, ds, 4, nc, nr, 0, 0, 0, 0, nm, ⟨#[]⟩⟩ != 0) = true := by simp [hc]
    rw [if_neg hc]
    have FR : Hid ((((((((((((((wt.setCell ⟨w.heap.size, 0, none⟩ (.int .i64 0)).setCell ⟨w.heap.size, 1, none⟩ (.int .i64 0)).setCell ⟨w.heap.size, 2, none⟩ (.int .i64 0)).setCell ⟨w.heap.size, 3, none⟩ (.slice none 0 0)).setCell ⟨w.heap.size, 4, none⟩ (.int .i64 0)).setCell ⟨w.heap.size, 5, none⟩ (.int .i64 0)).setCell ⟨w.heap.size, 6, none⟩ (.int .i64 0)).setCell ⟨w.heap.size, 7, none⟩ (.int .i64 0)).setCell ⟨w.heap.size, 8, none⟩ (.int .i64 0)).setCell ⟨w.heap.size, 9, none⟩ (.int .i64 0)).setCell ⟨w.heap.size, 10, none⟩ (.int .i64 0)).setCell ⟨w.heap.size, 11, none⟩ (.string ⟨#[]⟩)).setCell ⟨w.heap.size, 12, none⟩ (.string ⟨#[]⟩)).heap[w.heap.size]? = some (.cells #[.int .i64 0, .int .i64 0, .int .i64 0, .slice none 0 0, .int .i64 0, .int .i64 0, .int .i64 0, .int .i64 0, .int .i64 0, .int .i64 0, .int .i64 0, .string ⟨#[]⟩, .string ⟨#[]⟩] 26)) := row_set13 TZ.out.2.1
    have FB : Hid (Below w.heap.size w (((((((((((((wt.setCell ⟨w.heap.size, 0, none⟩ (.int .i64 0)).setCell ⟨w.heap.size, 1, none⟩ (.int .i64 0)).setCell ⟨w.heap.size, 2, none⟩ (.int .i64 0)).setCell ⟨w.heap.size, 3, none⟩ (.slice none 0 0)).setCell ⟨w.heap.size, 4, none⟩ (.int .i64 0)).setCell ⟨w.heap.size, 5, none⟩ (.int .i64 0)).setCell ⟨w.heap.size, 6, none⟩ (.int .i64 0)).setCell ⟨w.heap.size, 7, none⟩ (.int .i64 0)).setCell ⟨w.heap.size, 8, none⟩ (.int .i64 0)).setCell ⟨w.heap.size, 9, none⟩ (.int .i64 0)).setCell ⟨w.heap.size, 10, none⟩ (.int .i64 0)).setCell ⟨w.heap.size, 11, none⟩ (.string ⟨#[]⟩)).setCell ⟨w.heap.size, 12, none⟩ (.string ⟨#[]⟩))) := (((((((((((((TZ.out.1.setCell (Nat.le_refl _) _).setCell (Nat.le_refl _) _).setCell (Nat.le_refl _) _).setCell (Nat.le_refl _) _).setCell (Nat.le_refl _) _).setCell (Nat.le_refl _) _).setCell (Nat.le_refl _) _).setCell (Nat.le_refl _) _).setCell (Nat.le_refl _) _).setCell (Nat.le_refl _) _).setCell (Nat.le_refl _) _).setCell (Nat.le_refl _) _).setCell (Nat.le_refl _) _)
    go_wp2
    (try simp only [Exit.inBlock, Exit.then])
    refine bodyPost_ret (v := .tuple #[.agg #[.int .i64 0, .int .i64 0, .int .i64 0, .slice none 0 0, .int .i64 0, .int .i64 0, .int .i64 0, .int .i64 0, .int .i64 0, .int .i64 0, .int .i64 0, .string ⟨#[]⟩, .string ⟨#[]⟩], .int .i64 2]) ?res3 rfl ?post3
    case res3 => exact results_cell_row2 rfl _ _ w.heap.size _ _ _ _ rfl FR.out Tryz.underlying26 rfl (by kernel_rfl) rfl
    exact ParseDone.zero HN.out FB.out

end Go.Proofs.YtaocjmipjibiaaaGreatDoor

namespace Go.Proofs.YtaocjmipjibiaaaGreatDoor
open Go.RowKit
set_option linter.unusedVariables false
set_option linter.unusedSimpArgs false

set_option maxRecDepth 100000 in
set_option maxHeartbeats 16000000 in
theorem refParse_k5 (s : ByteArray) (hs : s.size ≤ 262144) (hx : hdW s.data.toList = [116, 101, 120, 116]) (w : World) :
    Calls Tryz.prog 30 #[.string s] w fun e w' => ParseDone s.data.toList w e w' := by
  have HX : Hid (hdW s.data.toList = [116, 101, 120, 116]) := hx
  clear hx
  have q : ¬ (262144 : Int) < (s.size : Int) := by omega
  have HLn : Hid (s.data.toList.length ≤ 262144) := by show _ ≤ _; rw [size_list]; exact hs
  have HZ : Hid (∀ (m i : Nat) (t : ByteArray), t.data.toList = (wordsL m s.data.toList).getD i [] → t.size ≤ 140737488355328) := fun m i t ht => by have := words_at_len m s.data.toList i; rw [← ht, size_list, size_list] at this; omega
  have HB0 : Hid (Below w.heap.size w (w.alloc (.cells #[.int .i64 0, .int .i64 0, .int .i64 0, .slice none 0 0, .int .i64 0, .int .i64 0, .int .i64 0, .int .i64 0, .int .i64 0, .int .i64 0, .int .i64 0, .string ⟨#[]⟩, .string ⟨#[]⟩] 26))) := (Below.refl _ _).alloc (Nat.le_refl _) _
  have HR0 : Hid ((w.alloc (.cells #[.int .i64 0, .int .i64 0, .int .i64 0, .slice none 0 0, .int .i64 0, .int .i64 0, .int .i64 0, .int .i64 0, .int .i64 0, .int .i64 0, .int .i64 0, .string ⟨#[]⟩, .string ⟨#[]⟩] 26)).heap[w.heap.size]? = some (.cells #[.int .i64 0, .int .i64 0, .int .i64 0, .slice none 0 0, .int .i64 0, .int .i64 0, .int .i64 0, .int .i64 0, .int .i64 0, .int .i64 0, .int .i64 0, .string ⟨#[]⟩, .string ⟨#[]⟩] 26)) := heap_alloc_new _ _
  have hz0 : (w.alloc (.cells #[.int .i64 0, .int .i64 0, .int .i64 0, .slice none 0 0, .int .i64 0, .int .i64 0, .int .i64 0, .int .i64 0, .int .i64 0, .int .i64 0, .int .i64 0, .string ⟨#[]⟩, .string ⟨#[]⟩] 26)).heap.size = w.heap.size + 1 := by simp
  go_enter Tryz.func30, Tryz.ntmps30
  go_wp2_with fail
  refine (refWords_any 6 7 rfl (by omega) s hs _).mono ?_
  rintro e w1 ⟨g, cap, n, Wd, rfl, how, hnw, hmw, hWw, hb1⟩
  have HW1 : Hid (WdsAt w1 g n cap 6 s.data.toList) := ⟨_, Wd, how, hnw, hWw⟩
  have HBx : Hid (Below w.heap.size w w1) := HB0.out.trans (hb1.mono HB0.out.size)
  have HR1 : Hid (w1.heap[w.heap.size]? = some (.cells #[.int .i64 0, .int .i64 0, .int .i64 0, .slice none 0 0, .int .i64 0, .int .i64 0, .int .i64 0, .int .i64 0, .int .i64 0, .int .i64 0, .int .i64 0, .string ⟨#[]⟩, .string ⟨#[]⟩] 26)) := row_below HR0.out hb1
  have hgl := (World.ownsRow.lt how g rfl).1
  rw [hz0] at hgl
  clear how hnw hWw hb1 hz0
  go_wp2_with fail
  refine (refWordAt_any g n cap 6 _ 2 2 rfl _ HW1.out).mono ?_
  rintro e w' ⟨x2, rfl, ex2, hw⟩
  replace hw := hw.symm
  subst hw
  have E2 : Hid (x2.data.toList = (wordsL 6 s.data.toList).getD 2 []) := ex2
  clear ex2
  go_wp2_with fail
  refine (whole_any x2 _).mono ?_
  rintro e w' ⟨sq, okn, rfl, hnum, hw⟩
  replace hw := hw.symm
  subst hw
  have HQ : Hid (NumW (hdW (tlW (tlW s.data.toList))) sq) := ⟨okn, by have := numIs_whole hnum; rw [E2.out, words_at] at this; exact this⟩
  clear hnum
  go_wp2_with fail
  refine (refWordAt_any g n cap 6 _ 3 3 rfl _ HW1.out).mono ?_
  rintro e w' ⟨x3, rfl, ex3, hw⟩
  replace hw := hw.symm
  subst hw
  have E3 : Hid (x3.data.toList = (wordsL 6 s.data.toList).getD 3 []) := ex3
  have hz3 := HZ.out 6 3 x3 ex3
  clear ex3
  go_wp2_with fail
  refine (refParse_any x3 (by omega) _).mono ?_
  rintro e w2 ⟨dv, ds, k2, rfl, hov, hld, hpc, hb2⟩
  have HCL : Hid (ClockW (hdW (tlW (tlW (tlW s.data.toList)))) ds) := ⟨k2, by rw [E3.out, words_at] at hpc; exact hpc⟩
  have HOV : Hid (OwnI w1.heap.size w2 dv ds) := hov
  have hw1 := row_lt HR1.out
  have HR2 : Hid (w2.heap[w.heap.size]? = some (.cells #[.int .i64 0, .int .i64 0, .int .i64 0, .slice none 0 0, .int .i64 0, .int .i64 0, .int .i64 0, .int .i64 0, .int .i64 0, .int .i64 0, .int .i64 0, .string ⟨#[]⟩, .string ⟨#[]⟩] 26)) := row_below HR1.out hb2
  have HW2 : Hid (WdsAt w2 g n cap 6 s.data.toList) := HW1.out.below hb2
  have HBx2 : Hid (Below w.heap.size w w2) := HBx.out.trans (hb2.mono HBx.out.size)
  obtain ⟨ad, cpd, edv⟩ := hov.form
  subst edv
  clear hov hpc hb2 HR1 HBx HW1
  go_wp2_with fail
  refine (refStampAt_any g n cap 6 _ HLn.out 1 1 rfl _ HW2.out).mono ?_
  rintro e w3 ⟨ac, ar, rfl, hsa, hb3⟩
  have HA : Hid (StampW (hdW (tlW s.data.toList)) ac ar) := by rw [words_at] at hsa; exact hsa
  have hg3 : g < w3.heap.size := (HW2.out.below hb3).lt
  have hw3 := row_lt (row_below HR2.out hb3)
  have A3 : Below w3.heap.size w3 (w3.alloc (.cells #[.int .i64 ac, .int .i64 ar, .int .i64 sq, .slice ad ds.length cpd, .int .i64 0, .int .i64 0, .int .i64 0, .int .i64 0, .int .i64 0, .int .i64 0, .int .i64 0, .string ⟨#[]⟩, .string ⟨#[]⟩] 26)) := (Below.refl _ _).alloc (Nat.le_refl _) _
  have S0 : Hid (PSt w w3.heap.size g n cap 6 s.data.toList (.slice ad ds.length cpd) ds #[.int .i64 ac, .int .i64 ar, .int .i64 sq, .slice ad ds.length cpd, .int .i64 0, .int .i64 0, .int .i64 0, .int .i64 0, .int .i64 0, .int .i64 0, .int .i64 0, .string ⟨#[]⟩, .string ⟨#[]⟩] (w3.alloc (.cells #[.int .i64 ac, .int .i64 ar, .int .i64 sq, .slice ad ds.length cpd, .int .i64 0, .int .i64 0, .int .i64 0, .int .i64 0, .int .i64 0, .int .i64 0, .int .i64 0, .string ⟨#[]⟩, .string ⟨#[]⟩] 26))) := ⟨(HBx2.out.trans (hb3.mono HBx2.out.size)).trans (A3.mono (Nat.le_of_lt hw3)), row_below (row_below HR2.out hb3) A3, heap_alloc_new _ _, ⟨hw3, by omega⟩, (HW2.out.below hb3).below A3, ((DpN.of HOV.out hld hw1 hb3.size).below hb3).below A3⟩
  obtain ⟨gc, egc⟩ : ∃ x, x = w3.heap.size := ⟨_, rfl⟩
  rw [← egc] at S0
  have HGC : Hid (gc = w3.heap.size) := egc
  have hgc : w.heap.size < gc := by omega
  clear egc A3 hsa hb3 HR2 HW2 HBx2 HOV hg3
  go_wp2_with fail
  rw [← HGC.out]
  refine (refWordAt_any g n cap 6 _ 0 0 rfl _ S0.out.2.2.2.2.1).mono ?_
  rintro e w4 ⟨x0, rfl, ex0, hw⟩
  have S1 : Hid (PSt w gc g n cap 6 s.data.toList (.slice ad ds.length cpd) ds #[.int .i64 ac, .int .i64 ar, .int .i64 sq, .slice ad ds.length cpd, .int .i64 0, .int .i64 0, .int .i64 0, .int .i64 0, .int .i64 0, .int .i64 0, .int .i64 0, .string ⟨#[]⟩, .string ⟨#[]⟩] w4) := by rw [hw]; exact S0.out
  clear hw S0
  rw [words_at] at ex0
  have EX : Hid (x0.data.toList = hdW s.data.toList) := ex0
  clear ex0
  have c1 : (x0.toList == [99, 114, 101, 97, 116, 101]) = false := by rw [ByteArray.toList_eq, EX.out, HX.out]; rfl
  have c2 : (x0.toList == [109, 111, 118, 101]) = false := by rw [ByteArray.toList_eq, EX.out, HX.out]; rfl
  have c3 : (x0.toList == [115, 101, 116]) = false := by rw [ByteArray.toList_eq, EX.out, HX.out]; rfl
  have c4 : (x0.toList == [99, 108, 101, 97, 114]) = false := by rw [ByteArray.toList_eq, EX.out, HX.out]; rfl
  have c5 : (x0.toList == [116, 101, 120, 116]) = true := by rw [ByteArray.toList_eq, EX.out, HX.out]; rfl
  clear EX
  obtain ⟨k_0, k_1, k_2, k_3, k_4, k_5, k_6, k_7, k_8, k_9, k_10, k_11, k_12⟩ := row_cells S1.out.2.2.1
  have fz := row_free S1.out.2.2.1
  have R1 : Hid (PSt w gc g n cap 6 s.data.toList (.slice ad ds.length cpd) ds #[.int .i64 ac, .int .i64 ar, .int .i64 sq, .slice ad ds.length cpd, .int .i64 5, .int .i64 0, .int .i64 0, .int .i64 0, .int .i64 0, .int .i64 0, .int .i64 0, .string ⟨#[]⟩, .string ⟨#[]⟩] (w4.setCell ⟨gc, 4, none⟩ (.int .i64 5))) := (S1.out.set 4 _)
  go_wp2_with fail
  refine (refWords_any 5 6 rfl (by omega) s hs _).mono ?_
  rintro e v1 ⟨g2, cap2, n2, Wd2, rfl, how2, hnw2, hmw2, hWw2, hb⟩
  have T1 : Hid (PSt w gc g2 n2 cap2 5 s.data.toList (.slice ad ds.length cpd) ds #[.int .i64 ac, .int .i64 ar, .int .i64 sq, .slice ad ds.length cpd, .int .i64 5, .int .i64 0, .int .i64 0, .int .i64 0, .int .i64 0, .int .i64 0, .int .i64 0, .string ⟨#[]⟩, .string ⟨#[]⟩] v1) := R1.out.words hb ⟨_, Wd2, how2, hnw2, hWw2⟩ (World.ownsRow.lt how2 g2 rfl).1
  clear how2 hnw2 hWw2 hb R1
  clear k_0 k_1 k_2 k_3 k_4 k_5 k_6 k_7 k_8 k_9 k_10 k_11 k_12 fz
  obtain ⟨k_0, k_1, k_2, k_3, k_4, k_5, k_6, k_7, k_8, k_9, k_10, k_11, k_12⟩ := row_cells T1.out.2.2.1
  have fz := row_free T1.out.2.2.1
  have R2 : Hid (PSt w gc g2 n2 cap2 5 s.data.toList (.slice ad ds.length cpd) ds #[.int .i64 ac, .int .i64 ar, .int .i64 sq, .slice ad ds.length cpd, .int .i64 5, .int .i64 0, .int .i64 0, .int .i64 0, .int .i64 0, .int .i64 0, .int .i64 0, .string ⟨#[]⟩, .string ⟨#[]⟩] v1) := T1.out
  go_wp2_with fail
  refine (refStampAt_any g2 n2 cap2 5 _ HLn.out 4 4 rfl _ R2.out.2.2.2.2.1).mono ?_
  rintro e v2 ⟨nc, nr, rfl, hsa, hb⟩
  have Hnc : Hid (StampW (hdW (tlW (tlW (tlW (tlW s.data.toList))))) nc nr) := by rw [words_at] at hsa; exact hsa
  have T2 : Hid (PSt w gc g2 n2 cap2 5 s.data.toList (.slice ad ds.length cpd) ds #[.int .i64 ac, .int .i64 ar, .int .i64 sq, .slice ad ds.length cpd, .int .i64 5, .int .i64 0, .int .i64 0, .int .i64 0, .int .i64 0, .int .i64 0, .int .i64 0, .string ⟨#[]⟩, .string ⟨#[]⟩] v2) := R2.out.below hb
  clear hsa hb R2
  clear k_0 k_1 k_2 k_3 k_4 k_5 k_6 k_7 k_8 k_9 k_10 k_11 k_12 fz
  obtain ⟨k_0, k_1, k_2, k_3, k_4, k_5, k_6, k_7, k_8, k_9, k_10, k_11, k_12⟩ := row_cells T2.out.2.2.1
  have fz := row_free T2.out.2.2.1
  have R3 : Hid (PSt w gc g2 n2 cap2 5 s.data.toList (.slice ad ds.length cpd) ds #[.int .i64 ac, .int .i64 ar, .int .i64 sq, .slice ad ds.length cpd, .int .i64 5, .int .i64 nc, .int .i64 nr, .int .i64 0, .int .i64 0, .int .i64 0, .int .i64 0, .string ⟨#[]⟩, .string ⟨#[]⟩] ((v2.setCell ⟨gc, 5, none⟩ (.int .i64 nc)).setCell ⟨gc, 6, none⟩ (.int .i64 nr))) := ((T2.out.set 5 _).set 6 _)
  go_wp2_with fail
  refine (refWordAt_any g2 n2 cap2 5 _ 5 5 rfl _ R3.out.2.2.2.2.1).mono ?_
  rintro e v3 ⟨xq, rfl, hsa, hw⟩
  have zxq := HZ.out 5 5 xq hsa
  have Hxq : Hid (xq.data.toList = (tlW (tlW (tlW (tlW (tlW s.data.toList)))))) := by rw [words_at] at hsa; exact hsa
  have T3 : Hid (PSt w gc g2 n2 cap2 5 s.data.toList (.slice ad ds.length cpd) ds #[.int .i64 ac, .int .i64 ar, .int .i64 sq, .slice ad ds.length cpd, .int .i64 5, .int .i64 nc, .int .i64 nr, .int .i64 0, .int .i64 0, .int .i64 0, .int .i64 0, .string ⟨#[]⟩, .string ⟨#[]⟩] v3) := by rw [hw]; exact R3.out
  clear hsa hw R3
  clear k_0 k_1 k_2 k_3 k_4 k_5 k_6 k_7 k_8 k_9 k_10 k_11 k_12 fz
  obtain ⟨k_0, k_1, k_2, k_3, k_4, k_5, k_6, k_7, k_8, k_9, k_10, k_11, k_12⟩ := row_cells T3.out.2.2.1
  have fz := row_free T3.out.2.2.1
  go_wp2_with fail
  refine (refUnquote_any xq zxq _).mono ?_
  rintro e v4 ⟨tq, bq, rfl, huq, htq, hb⟩
  have HUQ : Hid (UnqW (tlW (tlW (tlW (tlW (tlW s.data.toList))))) tq) := ⟨bq, by rw [Hxq.out] at huq; exact huq⟩
  have T4 : Hid (PSt w gc g2 n2 cap2 5 s.data.toList (.slice ad ds.length cpd) ds #[.int .i64 ac, .int .i64 ar, .int .i64 sq, .slice ad ds.length cpd, .int .i64 5, .int .i64 nc, .int .i64 nr, .int .i64 0, .int .i64 0, .int .i64 0, .int .i64 0, .string ⟨#[]⟩, .string ⟨#[]⟩] v4) := T3.out.below hb
  clear huq htq hb
  clear k_0 k_1 k_2 k_3 k_4 k_5 k_6 k_7 k_8 k_9 k_10 k_11 k_12 fz
  obtain ⟨k_0, k_1, k_2, k_3, k_4, k_5, k_6, k_7, k_8, k_9, k_10, k_11, k_12⟩ := row_cells T4.out.2.2.1
  have fz := row_free T4.out.2.2.1
  have RZ : Hid (PSt w gc g2 n2 cap2 5 s.data.toList (.slice ad ds.length cpd) ds #[.int .i64 ac, .int .i64 ar, .int .i64 sq, .slice ad ds.length cpd, .int .i64 5, .int .i64 nc, .int .i64 nr, .int .i64 0, .int .i64 0, .int .i64 0, .int .i64 0, .string ⟨#[]⟩, .string (txt tq)] (v4.setCell ⟨gc, 12, none⟩ (.string (txt tq)))) := (T4.out.set 12 _)
  have HRD : Hid (∀ d, checkCh d = 0 → s.data.toList = textCh d → ((⟨ac, ar, sq, ds, 5, nc, nr, 0, 0, 0, 0, ⟨#[]⟩, (txt tq)⟩ : Ch)) = d) := fun d hd e => RefReadIs.back hd (e ▸ (show RefReadIs s.data.toList ⟨ac, ar, sq, ds, 5, nc, nr, 0, 0, 0, 0, ⟨#[]⟩, (txt tq)⟩ from ⟨by show (5 : Int) = kindOf (hdW s.data.toList); rw [HX.out]; rfl, HA.out, HQ.out, HCL.out, _, _, _, rfl, rfl, rfl, fun e => absurd e (by show ¬ (5 : Int) = 1; decide), fun e => absurd e (by show ¬ (5 : Int) = 2; decide), fun e => absurd e (by show ¬ (5 : Int) = 3; decide), fun e => absurd e (by show ¬ (5 : Int) = 4; decide), fun _ => ⟨Hnc.out, rfl, rfl, rfl, rfl, rfl, HUQ.out⟩⟩))
  go_wp2_with fail
  refine (refTextCh_any ac ar sq (.slice ad ds.length cpd) 5 nc nr 0 0 0 0 ⟨#[]⟩ (txt tq) ds (by simp [ByteArray.size]) _ RZ.out.2.2.2.2.2.isI).mono ?_
  rintro e wt ⟨rfl, hbt⟩
  have TZ : Hid (PSt w gc g2 n2 cap2 5 s.data.toList (.slice ad ds.length cpd) ds #[.int .i64 ac, .int .i64 ar, .int .i64 sq, .slice ad ds.length cpd, .int .i64 5, .int .i64 nc, .int .i64 nr, .int .i64 0, .int .i64 0, .int .i64 0, .int .i64 0, .string ⟨#[]⟩, .string (txt tq)] wt) := RZ.out.below hbt
  clear hbt RZ
  clear k_0 k_1 k_2 k_3 k_4 k_5 k_6 k_7 k_8 k_9 k_10 k_11 k_12 fz
  obtain ⟨k_0, k_1, k_2, k_3, k_4, k_5, k_6, k_7, k_8, k_9, k_10, k_11, k_12⟩ := row_cells TZ.out.2.2.1
  have fz := row_free TZ.out.2.2.1
  obtain ⟨z_0, z_1, z_2, z_3, z_4, z_5, z_6, z_7, z_8, z_9, z_10, z_11, z_12⟩ := row_cells TZ.out.2.1
  have fr0 := row_free TZ.out.2.1
  have hgn : gc ≠ w.heap.size := by omega
  by_cases hc : checkCh ⟨ac, ar, sq, ds, 5, nc, nr, 0, 0, 0, 0, ⟨#[]⟩, (txt tq)⟩ = 0
  · by_cases ht : textCh ⟨ac, ar, sq, ds, 5, nc, nr, 0, 0, 0, 0, ⟨#[]⟩, (txt tq)⟩ = s.data.toList
    · have qa : ((txt (textCh ⟨ac, ar, sq, ds, 5, nc, nr, 0, 0, 0, 0, ⟨#[]⟩, (txt tq)⟩)).toList == s.toList) = true := by rw [ByteArray.toList_eq, ByteArray.toList_eq]; rw [← ht]; simp [txt]
      have qb : ((txt (textCh ⟨ac, ar, sq, ds, 5, nc, nr, 0, 0, 0, 0, ⟨#[]⟩, (txt tq)⟩)).toList != s.toList) = false := by rw [bne, qa]; rfl
      have HP : Hid (ParseCh s.data.toList ⟨ac, ar, sq, ds, 5, nc, nr, 0, 0, 0, 0, ⟨#[]⟩, (txt tq)⟩ 0) := .inr (.inl ⟨hc, ht.symm, rfl⟩)
      clear ht
      rw [if_pos hc, hc]
      have FR : Hid ((((((((((((((wt.setCell ⟨w.heap.size, 0, none⟩ (.int .i64 ac)).setCell ⟨w.heap.size, 1, none⟩ (.int .i64 ar)).setCell ⟨w.heap.size, 2, none⟩ (.int .i64 sq)).setCell ⟨w.heap.size, 3, none⟩ (.slice ad ds.length cpd)).setCell ⟨w.heap.size, 4, none⟩ (.int .i64 5)).setCell ⟨w.heap.size, 5, none⟩ (.int .i64 nc)).setCell ⟨w.heap.size, 6, none⟩ (.int .i64 nr)).setCell ⟨w.heap.size, 7, none⟩ (.int .i64 0)).setCell ⟨w.heap.size, 8, none⟩ (.int .i64 0)).setCell ⟨w.heap.size, 9, none⟩ (.int .i64 0)).setCell ⟨w.heap.size, 10, none⟩ (.int .i64 0)).setCell ⟨w.heap.size, 11, none⟩ (.string ⟨#[]⟩)).setCell ⟨w.heap.size, 12, none⟩ (.string (txt tq))).heap[w.heap.size]? = some (.cells #[.int .i64 ac, .int .i64 ar, .int .i64 sq, .slice ad ds.length cpd, .int .i64 5, .int .i64 nc, .int .i64 nr, .int .i64 0, .int .i64 0, .int .i64 0, .int .i64 0, .string ⟨#[]⟩, .string (txt tq)] 26)) := row_set13 TZ.out.2.1
      have FB : Hid (Below w.heap.size w (((((((((((((wt.setCell ⟨w.heap.size, 0, none⟩ (.int .i64 ac)).setCell ⟨w.heap.size, 1, none⟩ (.int .i64 ar)).setCell ⟨w.heap.size, 2, none⟩ (.int .i64 sq)).setCell ⟨w.heap.size, 3, none⟩ (.slice ad ds.length cpd)).setCell ⟨w.heap.size, 4, none⟩ (.int .i64 5)).setCell ⟨w.heap.size, 5, none⟩ (.int .i64 nc)).setCell ⟨w.heap.size, 6, none⟩ (.int .i64 nr)).setCell ⟨w.heap.size, 7, none⟩ (.int .i64 0)).setCell ⟨w.heap.size, 8, none⟩ (.int .i64 0)).setCell ⟨w.heap.size, 9, none⟩ (.int .i64 0)).setCell ⟨w.heap.size, 10, none⟩ (.int .i64 0)).setCell ⟨w.heap.size, 11, none⟩ (.string ⟨#[]⟩)).setCell ⟨w.heap.size, 12, none⟩ (.string (txt tq)))) := (((((((((((((TZ.out.1.setCell (Nat.le_refl _) _).setCell (Nat.le_refl _) _).setCell (Nat.le_refl _) _).setCell (Nat.le_refl _) _).setCell (Nat.le_refl _) _).setCell (Nat.le_refl _) _).setCell (Nat.le_refl _) _).setCell (Nat.le_refl _) _).setCell (Nat.le_refl _) _).setCell (Nat.le_refl _) _).setCell (Nat.le_refl _) _).setCell (Nat.le_refl _) _).setCell (Nat.le_refl _) _)
      go_wp2
      (try simp only [Exit.inBlock, Exit.then])
      refine bodyPost_ret (v := .tuple #[.agg #[.int .i64 ac, .int .i64 ar, .int .i64 sq, .slice ad ds.length cpd, .int .i64 5, .int .i64 nc, .int .i64 nr, .int .i64 0, .int .i64 0, .int .i64 0, .int .i64 0, .string ⟨#[]⟩, .string (txt tq)], .int .i64 0]) ?res1 rfl ?post1
      case res1 => exact results_cell_row2 rfl _ _ w.heap.size _ _ _ _ rfl FR.out Tryz.underlying26 rfl (by kernel_rfl) rfl
      have FI : DpN w.heap.size gc (((((((((((((wt.setCell ⟨w.heap.size, 0, none⟩ (.int .i64 ac)).setCell ⟨w.heap.size, 1, none⟩ (.int .i64 ar)).setCell ⟨w.heap.size, 2, none⟩ (.int .i64 sq)).setCell ⟨w.heap.size, 3, none⟩ (.slice ad ds.length cpd)).setCell ⟨w.heap.size, 4, none⟩ (.int .i64 5)).setCell ⟨w.heap.size, 5, none⟩ (.int .i64 nc)).setCell ⟨w.heap.size, 6, none⟩ (.int .i64 nr)).setCell ⟨w.heap.size, 7, none⟩ (.int .i64 0)).setCell ⟨w.heap.size, 8, none⟩ (.int .i64 0)).setCell ⟨w.heap.size, 9, none⟩ (.int .i64 0)).setCell ⟨w.heap.size, 10, none⟩ (.int .i64 0)).setCell ⟨w.heap.size, 11, none⟩ (.string ⟨#[]⟩)).setCell ⟨w.heap.size, 12, none⟩ (.string (txt tq))) (.slice ad ds.length cpd) ds := (DpN.set (i := 12) (DpN.set (i := 11) (DpN.set (i := 10) (DpN.set (i := 9) (DpN.set (i := 8) (DpN.set (i := 7) (DpN.set (i := 6) (DpN.set (i := 5) (DpN.set (i := 4) (DpN.set (i := 3) (DpN.set (i := 2) (DpN.set (i := 1) (DpN.set (i := 0) TZ.out.2.2.2.2.2 (.inl rfl)) (.inl rfl)) (.inl rfl)) (.inl rfl)) (.inl rfl)) (.inl rfl)) (.inl rfl)) (.inl rfl)) (.inl rfl)) (.inl rfl)) (.inl rfl)) (.inl rfl)) (.inl rfl))
      exact ⟨ac, ar, sq, (.slice ad ds.length cpd), ds, 5, nc, nr, 0, 0, 0, 0, ⟨#[]⟩, (txt tq), 0, rfl, HP.out, FI.isI, by simp [ByteArray.size], FB.out⟩
    · have qa : ((txt (textCh ⟨ac, ar, sq, ds, 5, nc, nr, 0, 0, 0, 0, ⟨#[]⟩, (txt tq)⟩)).toList == s.toList) = false := by rw [ByteArray.toList_eq, ByteArray.toList_eq]; rw [beq_eq_false_iff_ne]; exact fun e => ht (by rw [← e]; simp [txt])
      have qb : ((txt (textCh ⟨ac, ar, sq, ds, 5, nc, nr, 0, 0, 0, 0, ⟨#[]⟩, (txt tq)⟩)).toList != s.toList) = true := by rw [bne, qa]; rfl
      have HN : Hid (ParseCh s.data.toList Ch.none 2) := parse_got HLn.out HRD.out (fun h => ht h.2)
      clear ht
      rw [if_pos hc, hc]
      have FR : Hid ((((((((((((((wt.setCell ⟨w.heap.size, 0, none⟩ (.int .i64 0)).setCell ⟨w.heap.size, 1, none⟩ (.int .i64 0)).setCell ⟨w.heap.size, 2, none⟩ (.int .i64 0)).setCell ⟨w.heap.size, 3, none⟩ (.slice none 0 0)).setCell ⟨w.heap.size, 4, none⟩ (.int .i64 0)).setCell ⟨w.heap.size, 5, none⟩ (.int .i64 0)).setCell ⟨w.heap.size, 6, none⟩ (.int .i64 0)).setCell ⟨w.heap.size, 7, none⟩ (.int .i64 0)).setCell ⟨w.heap.size, 8, none⟩ (.int .i64 0)).setCell ⟨w.heap.size, 9, none⟩ (.int .i64 0)).setCell ⟨w.heap.size, 10, none⟩ (.int .i64 0)).setCell ⟨w.heap.size, 11, none⟩ (.string ⟨#[]⟩)).setCell ⟨w.heap.size, 12, none⟩ (.string ⟨#[]⟩)).heap[w.heap.size]? = some (.cells #[.int .i64 0, .int .i64 0, .int .i64 0, .slice none 0 0, .int .i64 0, .int .i64 0, .int .i64 0, .int .i64 0, .int .i64 0, .int .i64 0, .int .i64 0, .string ⟨#[]⟩, .string ⟨#[]⟩] 26)) := row_set13 TZ.out.2.1
      have FB : Hid (Below w.heap.size w (((((((((((((wt.setCell ⟨w.heap.size, 0, none⟩ (.int .i64 0)).setCell ⟨w.heap.size, 1, none⟩ (.int .i64 0)).setCell ⟨w.heap.size, 2, none⟩ (.int .i64 0)).setCell ⟨w.heap.size, 3, none⟩ (.slice none 0 0)).setCell ⟨w.heap.size, 4, none⟩ (.int .i64 0)).setCell ⟨w.heap.size, 5, none⟩ (.int .i64 0)).setCell ⟨w.heap.size, 6, none⟩ (.int .i64 0)).setCell ⟨w.heap.size, 7, none⟩ (.int .i64 0)).setCell ⟨w.heap.size, 8, none⟩ (.int .i64 0)).setCell ⟨w.heap.size, 9, none⟩ (.int .i64 0)).setCell ⟨w.heap.size, 10, none⟩ (.int .i64 0)).setCell ⟨w.heap.size, 11, none⟩ (.string ⟨#[]⟩)).setCell ⟨w.heap.size, 12, none⟩ (.string ⟨#[]⟩))) := (((((((((((((TZ.out.1.setCell (Nat.le_refl _) _).setCell (Nat.le_refl _) _).setCell (Nat.le_refl _) _).setCell (Nat.le_refl _) _).setCell (Nat.le_refl _) _).setCell (Nat.le_refl _) _).setCell (Nat.le_refl _) _).setCell (Nat.le_refl _) _).setCell (Nat.le_refl _) _).setCell (Nat.le_refl _) _).setCell (Nat.le_refl _) _).setCell (Nat.le_refl _) _).setCell (Nat.le_refl _) _)
      go_wp2
      (try simp only [Exit.inBlock, Exit.then])
      refine bodyPost_ret (v := .tuple #[.agg #[.int .i64 0, .int .i64 0, .int .i64 0, .slice none 0 0, .int .i64 0, .int .i64 0, .int .i64 0, .int .i64 0, .int .i64 0, .int .i64 0, .int .i64 0, .string ⟨#[]⟩, .string ⟨#[]⟩], .int .i64 2]) ?res2 rfl ?post2
      case res2 => exact results_cell_row2 rfl _ _ w.heap.size _ _ _ _ rfl FR.out Tryz.underlying26 rfl (by kernel_rfl) rfl
      exact ParseDone.zero HN.out FB.out
  · have HN : Hid (ParseCh s.data.toList Ch.none 2) := parse_got HLn.out HRD.out (fun h => hc h.1)
    have qc : (checkCh ⟨ac, ar, sq, ds, 5, nc, nr, 0, 0, 0, 0, ⟨#[]⟩, (txt tq)⟩ != 0) = true := by simp [hc]
    rw [if_neg hc]
    have FR : Hid ((((((((((((((wt.setCell ⟨w.heap.size, 0, none⟩ (.int .i64 0)).setCell ⟨w.heap.size, 1, none⟩ (.int .i64 0)).setCell ⟨w.heap.size, 2, none⟩ (.int .i64 0)).setCell ⟨w.heap.size, 3, none⟩ (.slice none 0 0)).setCell ⟨w.heap.size, 4, none⟩ (.int .i64 0)).setCell ⟨w.heap.size, 5, none⟩ (.int .i64 0)).setCell ⟨w.heap.size, 6, none⟩ (.int .i64 0)).setCell ⟨w.heap.size, 7, none⟩ (.int .i64 0)).setCell ⟨w.heap.size, 8, none⟩ (.int .i64 0)).setCell ⟨w.heap.size, 9, none⟩ (.int .i64 0)).setCell ⟨w.heap.size, 10, none⟩ (.int .i64 0)).setCell ⟨w.heap.size, 11, none⟩ (.string ⟨#[]⟩)).setCell ⟨w.heap.size, 12, none⟩ (.string ⟨#[]⟩)).heap[w.heap.size]? = some (.cells #[.int .i64 0, .int .i64 0, .int .i64 0, .slice none 0 0, .int .i64 0, .int .i64 0, .int .i64 0, .int .i64 0, .int .i64 0, .int .i64 0, .int .i64 0, .string ⟨#[]⟩, .string ⟨#[]⟩] 26)) := row_set13 TZ.out.2.1
    have FB : Hid (Below w.heap.size w (((((((((((((wt.setCell ⟨w.heap.size, 0, none⟩ (.int .i64 0)).setCell ⟨w.heap.size, 1, none⟩ (.int .i64 0)).setCell ⟨w.heap.size, 2, none⟩ (.int .i64 0)).setCell ⟨w.heap.size, 3, none⟩ (.slice none 0 0)).setCell ⟨w.heap.size, 4, none⟩ (.int .i64 0)).setCell ⟨w.heap.size, 5, none⟩ (.int .i64 0)).setCell ⟨w.heap.size, 6, none⟩ (.int .i64 0)).setCell ⟨w.heap.size, 7, none⟩ (.int .i64 0)).setCell ⟨w.heap.size, 8, none⟩ (.int .i64 0)).setCell ⟨w.heap.size, 9, none⟩ (.int .i64 0)).setCell ⟨w.heap.size, 10, none⟩ (.int .i64 0)).setCell ⟨w.heap.size, 11, none⟩ (.string ⟨#[]⟩)).setCell ⟨w.heap.size, 12, none⟩ (.string ⟨#[]⟩))) := (((((((((((((TZ.out.1.setCell (Nat.le_refl _) _).setCell (Nat.le_refl _) _).setCell (Nat.le_refl _) _).setCell (Nat.le_refl _) _).setCell (Nat.le_refl _) _).setCell (Nat.le_refl _) _).setCell (Nat.le_refl _) _).setCell (Nat.le_refl _) _).setCell (Nat.le_refl _) _).setCell (Nat.le_refl _) _).setCell (Nat.le_refl _) _).setCell (Nat.le_refl _) _).setCell (Nat.le_refl _) _)
    go_wp2
    (try simp only [Exit.inBlock, Exit.then])
    refine bodyPost_ret (v := .tuple #[.agg #[.int .i64 0, .int .i64 0, .int .i64 0, .slice none 0 0, .int .i64 0, .int .i64 0, .int .i64 0, .int .i64 0, .int .i64 0, .int .i64 0, .int .i64 0, .string ⟨#[]⟩, .string ⟨#[]⟩], .int .i64 2]) ?res3 rfl ?post3
    case res3 => exact results_cell_row2 rfl _ _ w.heap.size _ _ _ _ rfl FR.out Tryz.underlying26 rfl (by kernel_rfl) rfl
    exact ParseDone.zero HN.out FB.out

end Go.Proofs.YtaocjmipjibiaaaGreatDoor
