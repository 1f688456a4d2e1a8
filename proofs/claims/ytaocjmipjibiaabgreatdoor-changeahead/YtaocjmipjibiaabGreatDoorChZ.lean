/- What read makes of any text. -/
import Derived.Test.YtaocjmipjibiaabGreatDoorChY
namespace Go.Proofs.YtaocjmipjibiaabGreatDoor
open Go.RowKit
set_option linter.unusedVariables false
set_option linter.unusedSimpArgs false

def ReadDone (l : List UInt8) (w : World) (e : Ending) (w' : World) : Prop := ∃ (ac ar sq : Int) (dv : Value) (ds : List Int) (kd nc nr pc pr fc fr : Int) (nm vl : ByteArray), e = .returned (.agg #[.int .i64 ac, .int .i64 ar, .int .i64 sq, dv, .int .i64 kd, .int .i64 nc, .int .i64 nr, .int .i64 pc, .int .i64 pr, .int .i64 fc, .int .i64 fr, .string nm, .string vl]) ∧ ReadIs l ⟨ac, ar, sq, ds, kd, nc, nr, pc, pr, fc, fr, nm, vl⟩ ∧ DpIs w.heap.size w' dv ds ∧ nm.size ≤ 281474976710656 ∧ Below w.heap.size w w'

set_option maxRecDepth 100000 in
set_option maxHeartbeats 16000000 in
/-- change.read. -/
theorem read_any (s : ByteArray) (hs : s.size ≤ 140737488355328) (w : World) (he : Env w) :
    Calls Tryz.prog 21 #[.string s] w fun e w' => ReadDone s.data.toList w e w' := by
  have B1 : Below w.heap.size w ((w.alloc (.cells #[.int .i64 0, .int .i64 0, .int .i64 0, .slice none 0 0, .int .i64 0, .int .i64 0, .int .i64 0, .int .i64 0, .int .i64 0, .int .i64 0, .int .i64 0, .string ⟨#[]⟩, .string ⟨#[]⟩] 26)).alloc (.cells #[.string s] 72)) := ((Below.refl _ _).alloc (Nat.le_refl _) _).alloc (by simp) _
  have HR0 : Hid (((w.alloc (.cells #[.int .i64 0, .int .i64 0, .int .i64 0, .slice none 0 0, .int .i64 0, .int .i64 0, .int .i64 0, .int .i64 0, .int .i64 0, .int .i64 0, .int .i64 0, .string ⟨#[]⟩, .string ⟨#[]⟩] 26)).alloc (.cells #[.string s] 72)).heap[w.heap.size]? = some (.cells #[.int .i64 0, .int .i64 0, .int .i64 0, .slice none 0 0, .int .i64 0, .int .i64 0, .int .i64 0, .int .i64 0, .int .i64 0, .int .i64 0, .int .i64 0, .string ⟨#[]⟩, .string ⟨#[]⟩] 26)) := row_below (heap_alloc_new w _) ((Below.refl _ _).alloc (Nat.le_refl _) _)
  have HWd : Hid (WdIs ((w.alloc (.cells #[.int .i64 0, .int .i64 0, .int .i64 0, .slice none 0 0, .int .i64 0, .int .i64 0, .int .i64 0, .int .i64 0, .int .i64 0, .int .i64 0, .int .i64 0, .string ⟨#[]⟩, .string ⟨#[]⟩] 26)).alloc (.cells #[.string s] 72)) (w.heap.size + 1) s) := by have h0 := heap_alloc_new (w.alloc (.cells #[.int .i64 0, .int .i64 0, .int .i64 0, .slice none 0 0, .int .i64 0, .int .i64 0, .int .i64 0, .int .i64 0, .int .i64 0, .int .i64 0, .int .i64 0, .string ⟨#[]⟩, .string ⟨#[]⟩] 26)) (.cells #[.string s] 72); rw [show (w.alloc (.cells #[.int .i64 0, .int .i64 0, .int .i64 0, .slice none 0 0, .int .i64 0, .int .i64 0, .int .i64 0, .int .i64 0, .int .i64 0, .int .i64 0, .int .i64 0, .string ⟨#[]⟩, .string ⟨#[]⟩] 26)).heap.size = w.heap.size + 1 by simp] at h0; exact h0
  have H1 : Hid (RdSt w (w.heap.size + 1) s ((w.alloc (.cells #[.int .i64 0, .int .i64 0, .int .i64 0, .slice none 0 0, .int .i64 0, .int .i64 0, .int .i64 0, .int .i64 0, .int .i64 0, .int .i64 0, .int .i64 0, .string ⟨#[]⟩, .string ⟨#[]⟩] 26)).alloc (.cells #[.string s] 72))) := ⟨he, B1, by omega, HWd.out, by omega⟩
  obtain ⟨g, eg⟩ : ∃ g, g = w.heap.size + 1 := ⟨_, rfl⟩
  rw [← eg] at H1 HWd
  have HEG : Hid (g = w.heap.size + 1) := eg
  have hgg : w.heap.size < g := by omega
  clear B1 HWd eg
  go_enter Tryz.func21, Tryz.ntmps21
  go_wp2_with fail
  rw [← HEG.out]
  refine (kindW_any w g s _ H1.out).mono ?_
  rintro e w2 ⟨s2, rfl, es2, hr2, ho2⟩
  have HR2 : Hid (w2.heap[w.heap.size]? = some (.cells #[.int .i64 0, .int .i64 0, .int .i64 0, .slice none 0 0, .int .i64 0, .int .i64 0, .int .i64 0, .int .i64 0, .int .i64 0, .int .i64 0, .int .i64 0, .string ⟨#[]⟩, .string ⟨#[]⟩] 26)) := row_out HR0.out ho2 (by omega)
  have HD2 : Hid (RdSt w g s2 w2) := hr2
  have HS2 : Hid (s2.data.toList = tlW s.data.toList) := es2
  clear hr2 ho2 es2 HR0 H1 he
  obtain ⟨kd, ek⟩ : ∃ kd, kd = kindOf (hdW s.data.toList) := ⟨_, rfl⟩
  rw [← ek]
  have HK : Hid (kd = kindOf (hdW s.data.toList)) := ek
  have hkc : kd = 0 ∨ kd = 1 ∨ kd = 2 ∨ kd = 3 ∨ kd = 4 ∨ kd = 5 := by rw [ek]; exact kindOf_cases _
  clear ek
  have HZ : Hid (∀ t : ByteArray, t.data.toList.length ≤ s.size → t.size ≤ 140737488355328) := fun t ht => by rw [size_list] at ht; omega
  have HLs2 : Hid (s2.data.toList.length ≤ s.size) := by show _ ≤ _; rw [HS2.out, ← size_list s]; exact tlW_len _
  have hz2 := row_lt HR2.out
  have hg2 := HD2.out.lt
  have R2 : Hid (Rst w g w.heap.size w2.heap.size s2 #[.int .i64 0, .int .i64 0, .int .i64 0, .slice none 0 0, .int .i64 kd, .int .i64 0, .int .i64 0, .int .i64 0, .int .i64 0, .int .i64 0, .int .i64 0, .string ⟨#[]⟩, .string ⟨#[]⟩] (w2.alloc (.cells #[.int .i64 0, .int .i64 0, .int .i64 0, .slice none 0 0, .int .i64 kd, .int .i64 0, .int .i64 0, .int .i64 0, .int .i64 0, .int .i64 0, .int .i64 0, .string ⟨#[]⟩, .string ⟨#[]⟩] 26))) := ⟨HD2.out.below ((Below.refl _ _).alloc (Nat.le_refl _) _), row_below HR2.out ((Below.refl _ _).alloc (Nat.le_refl _) _), heap_alloc_new _ _, ⟨by omega, by omega, by omega⟩, by omega, by omega⟩
  obtain ⟨gc, egc⟩ : ∃ x, x = w2.heap.size := ⟨_, rfl⟩
  rw [← egc] at R2
  have HGC : Hid (gc = w2.heap.size) := egc
  have hgw : gc ≠ w.heap.size ∧ gc ≠ g ∧ w.heap.size < gc := by omega
  clear egc
  go_wp2_with fail
  rw [← HGC.out]
  refine (stampW_any w g s2 _ R2.out.1).mono ?_
  rintro e w3 ⟨ac, ar, s3, rfl, hst, es3, hr3, ho3⟩
  have R3 : Hid (Rst w g w.heap.size gc s3 #[.int .i64 0, .int .i64 0, .int .i64 0, .slice none 0 0, .int .i64 kd, .int .i64 0, .int .i64 0, .int .i64 0, .int .i64 0, .int .i64 0, .int .i64 0, .string ⟨#[]⟩, .string ⟨#[]⟩] w3) := R2.out.out hr3 ho3
  have HA : Hid (StampW (hdW s2.data.toList) ac ar) := hst
  have HS3 : Hid (s3.data.toList = tlW s2.data.toList) := es3
  have HLs3 : Hid (s3.data.toList.length ≤ s.size) := by show _ ≤ _; rw [HS3.out]; exact Nat.le_trans (tlW_len _) HLs2.out
  obtain ⟨hgw1, hgw2, hgw3⟩ := hgw
  clear hst es3 hr3 ho3 R2 HD2 HR2 hz2 hg2
  obtain ⟨k_0, k_1, k_2, k_3, k_4, k_5, k_6, k_7, k_8, k_9, k_10, k_11, k_12⟩ := row_cells R3.out.2.2.1
  have fz := row_free R3.out.2.2.1
  have R3b : Hid (Rst w g w.heap.size gc s3 #[.int .i64 ac, .int .i64 ar, .int .i64 0, .slice none 0 0, .int .i64 kd, .int .i64 0, .int .i64 0, .int .i64 0, .int .i64 0, .int .i64 0, .int .i64 0, .string ⟨#[]⟩, .string ⟨#[]⟩] ((w3.setCell ⟨gc, 0, none⟩ (.int .i64 ac)).setCell ⟨gc, 1, none⟩ (.int .i64 ar))) := (R3.out.set 0 _).set 1 _
  go_wp2_with fail
  refine (numberW_any w g s3 _ R3b.out.1).mono ?_
  rintro e w4 ⟨sq, s4, rfl, hsq, es4, hr4, ho4⟩
  have R4 : Hid (Rst w g w.heap.size gc s4 #[.int .i64 ac, .int .i64 ar, .int .i64 0, .slice none 0 0, .int .i64 kd, .int .i64 0, .int .i64 0, .int .i64 0, .int .i64 0, .int .i64 0, .int .i64 0, .string ⟨#[]⟩, .string ⟨#[]⟩] w4) := R3b.out.out hr4 ho4
  have HQ : Hid (NumW (hdW s3.data.toList) sq) := hsq
  have HS4 : Hid (s4.data.toList = tlW s3.data.toList) := es4
  have HLs4 : Hid (s4.data.toList.length ≤ s.size) := by show _ ≤ _; rw [HS4.out]; exact Nat.le_trans (tlW_len _) HLs3.out
  clear hsq es4 hr4 ho4 R3b R3
  clear k_0 k_1 k_2 k_3 k_4 k_5 k_6 k_7 k_8 k_9 k_10 k_11 k_12 fz
  obtain ⟨k_0, k_1, k_2, k_3, k_4, k_5, k_6, k_7, k_8, k_9, k_10, k_11, k_12⟩ := row_cells R4.out.2.2.1
  have fz := row_free R4.out.2.2.1
  have R4b : Hid (Rst w g w.heap.size gc s4 #[.int .i64 ac, .int .i64 ar, .int .i64 sq, .slice none 0 0, .int .i64 kd, .int .i64 0, .int .i64 0, .int .i64 0, .int .i64 0, .int .i64 0, .int .i64 0, .string ⟨#[]⟩, .string ⟨#[]⟩] (w4.setCell ⟨gc, 2, none⟩ (.int .i64 sq))) := R4.out.set 2 _
  go_wp2_with fail
  refine (clockW_any w g s4 _ R4b.out.1).mono ?_
  rintro e w5 ⟨dv, ds, s5, rfl, hcl, es5, hown, hlen, hr5, ho5⟩
  obtain ⟨ad, cpd, edv⟩ := hown.form
  subst edv
  have R5 : Hid (Rst w g w.heap.size gc s5 #[.int .i64 ac, .int .i64 ar, .int .i64 sq, .slice none 0 0, .int .i64 kd, .int .i64 0, .int .i64 0, .int .i64 0, .int .i64 0, .int .i64 0, .int .i64 0, .string ⟨#[]⟩, .string ⟨#[]⟩] w5) := R4b.out.out hr5 ho5
  have HC : Hid (ClockW (hdW s4.data.toList) ds) := hcl
  have HS5 : Hid (s5.data.toList = tlW s4.data.toList) := es5
  have HLs5 : Hid (s5.data.toList.length ≤ s.size) := by show _ ≤ _; rw [HS5.out]; exact Nat.le_trans (tlW_len _) HLs4.out
  obtain ⟨N, eN⟩ : ∃ n, n = (w4.setCell ⟨gc, 2, none⟩ (.int .i64 sq)).heap.size := ⟨_, rfl⟩
  have HD5 : Hid (DpIs N w5 (.slice ad ds.length cpd) ds) := DpIs.of (by rw [eN]; exact hown) hlen
  have hN : g < N ∧ gc < N ∧ w.heap.size < N := by rw [eN]; exact ⟨R4b.out.1.lt, row_lt R4b.out.2.2.1, row_lt R4b.out.2.1⟩
  clear hcl es5 hr5 ho5 R4b R4 hown eN
  clear k_0 k_1 k_2 k_3 k_4 k_5 k_6 k_7 k_8 k_9 k_10 k_11 k_12 fz
  obtain ⟨k_0, k_1, k_2, k_3, k_4, k_5, k_6, k_7, k_8, k_9, k_10, k_11, k_12⟩ := row_cells R5.out.2.2.1
  have fz := row_free R5.out.2.2.1
  have R5b : Hid (Rst w g w.heap.size gc s5 #[.int .i64 ac, .int .i64 ar, .int .i64 sq, .slice ad ds.length cpd, .int .i64 kd, .int .i64 ac, .int .i64 ar, .int .i64 0, .int .i64 0, .int .i64 0, .int .i64 0, .string ⟨#[]⟩, .string ⟨#[]⟩] (((w5.setCell ⟨gc, 3, none⟩ (.slice ad ds.length cpd)).setCell ⟨gc, 5, none⟩ (.int .i64 ac)).setCell ⟨gc, 6, none⟩ (.int .i64 ar))) := ((R5.out.set 3 _).set 5 _).set 6 _
  have HD5b : Hid (DpIs N (((w5.setCell ⟨gc, 3, none⟩ (.slice ad ds.length cpd)).setCell ⟨gc, 5, none⟩ (.int .i64 ac)).setCell ⟨gc, 6, none⟩ (.int .i64 ar)) (.slice ad ds.length cpd) ds) := ((HD5.out.set hN.2.1).set hN.2.1).set hN.2.1
  go_wp2_with fail
  refine (fieldsOf_any kd _).mono ?_
  rintro e w6 ⟨rfl, hb6⟩
  have R6 : Hid (Rst w g w.heap.size gc s5 #[.int .i64 ac, .int .i64 ar, .int .i64 sq, .slice ad ds.length cpd, .int .i64 kd, .int .i64 ac, .int .i64 ar, .int .i64 0, .int .i64 0, .int .i64 0, .int .i64 0, .string ⟨#[]⟩, .string ⟨#[]⟩] w6) := R5b.out.below hb6
  have HD6 : Hid (DpIs N w6 (.slice ad ds.length cpd) ds) := HD5b.out.below hb6
  clear hb6 R5b HD5b R5 HD5
  clear k_0 k_1 k_2 k_3 k_4 k_5 k_6 k_7 k_8 k_9 k_10 k_11 k_12 fz
  rcases hkc with rfl | rfl | rfl | rfl | rfl | rfl
  · rw [show hasNode 0 = true by decide, show hasPlace 0 = false by decide, show hasName 0 = false by decide, show hasValue 0 = false by decide]
    have S0 : Hid (Rs2 w g w.heap.size gc w6.heap.size N s5 #[.int .i64 ac, .int .i64 ar, .int .i64 sq, .slice ad ds.length cpd, .int .i64 0, .int .i64 ac, .int .i64 ar, .int .i64 0, .int .i64 0, .int .i64 0, .int .i64 0, .string ⟨#[]⟩, .string ⟨#[]⟩] #[.bool true, .bool false, .bool false, .bool false] (.slice ad ds.length cpd) ds (w6.alloc (.cells #[.bool true, .bool false, .bool false, .bool false] 45))) := ⟨R6.out.below ((Below.refl _ _).alloc (Nat.le_refl _) _), ⟨HD6.out.below ((Below.refl _ _).alloc (Nat.le_refl _) _), hN.1, hN.2.1, hN.2.2⟩, heap_alloc_new _ _, by have := R6.out.1.lt; omega, by have := row_lt R6.out.2.2.1; omega⟩
    obtain ⟨gh, egh⟩ : ∃ x, x = w6.heap.size := ⟨_, rfl⟩
    rw [← egh] at S0
    have HGH : Hid (gh = w6.heap.size) := egh
    clear egh
    clear R6 HD6
    have hne1 : gh ≠ gc := S0.out.2.2.2.2
    have hne2 : gc ≠ gh := fun e => hne1 e.symm
    obtain ⟨k_0, k_1, k_2, k_3, k_4, k_5, k_6, k_7, k_8, k_9, k_10, k_11, k_12⟩ := row_cells S0.out.1.2.2.1
    have fz := row_free S0.out.1.2.2.1
    obtain ⟨z_0, z_1, z_2, z_3, z_4, z_5, z_6, z_7, z_8, z_9, z_10, z_11, z_12⟩ := row_cells S0.out.1.2.1
    have fr0 := row_free S0.out.1.2.1
    have wg := cell_of_row _ _ 0 _ _ _ S0.out.1.1.2.2.2.1
    have b_0 := cell_of_row _ _ 0 _ _ _ S0.out.2.2.1
    have b_1 := cell_of_row _ _ 1 _ _ _ S0.out.2.2.1
    have b_2 := cell_of_row _ _ 2 _ _ _ S0.out.2.2.1
    have b_3 := cell_of_row _ _ 3 _ _ _ S0.out.2.2.1
    simp only [List.getElem?_toArray, List.getElem?_cons_zero, List.getElem?_cons_succ] at b_0 b_1 b_2 b_3 wg
    go_wp2_with fail
    (try rw [← HGH.out])
    refine (stampW_any w g s5 _ S0.out.1.1).mono ?_
    rintro e w10 ⟨nc, nr, s10, rfl, hst, es, hr, ho⟩
    have HP10 : Hid (StampW (hdW s5.data.toList) nc nr) := hst
    have HS10 : Hid (s10.data.toList = tlW s5.data.toList) := es
    have S10 : Hid (Rs2 w g w.heap.size gc gh N s10 #[.int .i64 ac, .int .i64 ar, .int .i64 sq, .slice ad ds.length cpd, .int .i64 0, .int .i64 ac, .int .i64 ar, .int .i64 0, .int .i64 0, .int .i64 0, .int .i64 0, .string ⟨#[]⟩, .string ⟨#[]⟩] #[.bool true, .bool false, .bool false, .bool false] (.slice ad ds.length cpd) ds w10) := S0.out.out hr ho
    clear hst es hr ho S0
    clear k_0 k_1 k_2 k_3 k_4 k_5 k_6 k_7 k_8 k_9 k_10 k_11 k_12 z_0 z_1 z_2 z_3 z_4 z_5 z_6 z_7 z_8 z_9 z_10 z_11 z_12 b_0 b_1 b_2 b_3 fz fr0 wg
    obtain ⟨k_0, k_1, k_2, k_3, k_4, k_5, k_6, k_7, k_8, k_9, k_10, k_11, k_12⟩ := row_cells S10.out.1.2.2.1
    have fz := row_free S10.out.1.2.2.1
    obtain ⟨z_0, z_1, z_2, z_3, z_4, z_5, z_6, z_7, z_8, z_9, z_10, z_11, z_12⟩ := row_cells S10.out.1.2.1
    have fr0 := row_free S10.out.1.2.1
    have wg := cell_of_row _ _ 0 _ _ _ S10.out.1.1.2.2.2.1
    have b_0 := cell_of_row _ _ 0 _ _ _ S10.out.2.2.1
    have b_1 := cell_of_row _ _ 1 _ _ _ S10.out.2.2.1
    have b_2 := cell_of_row _ _ 2 _ _ _ S10.out.2.2.1
    have b_3 := cell_of_row _ _ 3 _ _ _ S10.out.2.2.1
    simp only [List.getElem?_toArray, List.getElem?_cons_zero, List.getElem?_cons_succ] at b_0 b_1 b_2 b_3 wg
    have S10b : Hid (Rs2 w g w.heap.size gc gh N s10 #[.int .i64 ac, .int .i64 ar, .int .i64 sq, .slice ad ds.length cpd, .int .i64 0, .int .i64 nc, .int .i64 nr, .int .i64 0, .int .i64 0, .int .i64 0, .int .i64 0, .string ⟨#[]⟩, .string ⟨#[]⟩] #[.bool true, .bool false, .bool false, .bool false] (.slice ad ds.length cpd) ds ((w10.setCell ⟨gc, 5, none⟩ (.int .i64 nc)).setCell ⟨gc, 6, none⟩ (.int .i64 nr))) := ((S10.out.set 5 _).set 6 _)
    go_wp2
    have FR : Hid ((((((((((((((((w10.setCell ⟨gc, 5, none⟩ (.int .i64 nc)).setCell ⟨gc, 6, none⟩ (.int .i64 nr)).setCell ⟨w.heap.size, 0, none⟩ (.int .i64 ac)).setCell ⟨w.heap.size, 1, none⟩ (.int .i64 ar)).setCell ⟨w.heap.size, 2, none⟩ (.int .i64 sq)).setCell ⟨w.heap.size, 3, none⟩ (.slice ad ds.length cpd)).setCell ⟨w.heap.size, 4, none⟩ (.int .i64 0)).setCell ⟨w.heap.size, 5, none⟩ (.int .i64 nc)).setCell ⟨w.heap.size, 6, none⟩ (.int .i64 nr)).setCell ⟨w.heap.size, 7, none⟩ (.int .i64 0)).setCell ⟨w.heap.size, 8, none⟩ (.int .i64 0)).setCell ⟨w.heap.size, 9, none⟩ (.int .i64 0)).setCell ⟨w.heap.size, 10, none⟩ (.int .i64 0)).setCell ⟨w.heap.size, 11, none⟩ (.string ⟨#[]⟩)).setCell ⟨w.heap.size, 12, none⟩ (.string ⟨#[]⟩)).heap[w.heap.size]? = some (.cells #[.int .i64 ac, .int .i64 ar, .int .i64 sq, .slice ad ds.length cpd, .int .i64 0, .int .i64 nc, .int .i64 nr, .int .i64 0, .int .i64 0, .int .i64 0, .int .i64 0, .string ⟨#[]⟩, .string ⟨#[]⟩] 26)) := row_set13 S10b.out.1.2.1
    have FD : Hid (DpIs N (((((((((((((((w10.setCell ⟨gc, 5, none⟩ (.int .i64 nc)).setCell ⟨gc, 6, none⟩ (.int .i64 nr)).setCell ⟨w.heap.size, 0, none⟩ (.int .i64 ac)).setCell ⟨w.heap.size, 1, none⟩ (.int .i64 ar)).setCell ⟨w.heap.size, 2, none⟩ (.int .i64 sq)).setCell ⟨w.heap.size, 3, none⟩ (.slice ad ds.length cpd)).setCell ⟨w.heap.size, 4, none⟩ (.int .i64 0)).setCell ⟨w.heap.size, 5, none⟩ (.int .i64 nc)).setCell ⟨w.heap.size, 6, none⟩ (.int .i64 nr)).setCell ⟨w.heap.size, 7, none⟩ (.int .i64 0)).setCell ⟨w.heap.size, 8, none⟩ (.int .i64 0)).setCell ⟨w.heap.size, 9, none⟩ (.int .i64 0)).setCell ⟨w.heap.size, 10, none⟩ (.int .i64 0)).setCell ⟨w.heap.size, 11, none⟩ (.string ⟨#[]⟩)).setCell ⟨w.heap.size, 12, none⟩ (.string ⟨#[]⟩)) (.slice ad ds.length cpd) ds) := by show DpIs _ _ _ _; refine DpIs.set ?_ hN.2.2; refine DpIs.set ?_ hN.2.2; refine DpIs.set ?_ hN.2.2; refine DpIs.set ?_ hN.2.2; refine DpIs.set ?_ hN.2.2; refine DpIs.set ?_ hN.2.2; refine DpIs.set ?_ hN.2.2; refine DpIs.set ?_ hN.2.2; refine DpIs.set ?_ hN.2.2; refine DpIs.set ?_ hN.2.2; refine DpIs.set ?_ hN.2.2; refine DpIs.set ?_ hN.2.2; refine DpIs.set ?_ hN.2.2; exact S10b.out.2.1.1
    have FB : Hid (Below w.heap.size w (((((((((((((((w10.setCell ⟨gc, 5, none⟩ (.int .i64 nc)).setCell ⟨gc, 6, none⟩ (.int .i64 nr)).setCell ⟨w.heap.size, 0, none⟩ (.int .i64 ac)).setCell ⟨w.heap.size, 1, none⟩ (.int .i64 ar)).setCell ⟨w.heap.size, 2, none⟩ (.int .i64 sq)).setCell ⟨w.heap.size, 3, none⟩ (.slice ad ds.length cpd)).setCell ⟨w.heap.size, 4, none⟩ (.int .i64 0)).setCell ⟨w.heap.size, 5, none⟩ (.int .i64 nc)).setCell ⟨w.heap.size, 6, none⟩ (.int .i64 nr)).setCell ⟨w.heap.size, 7, none⟩ (.int .i64 0)).setCell ⟨w.heap.size, 8, none⟩ (.int .i64 0)).setCell ⟨w.heap.size, 9, none⟩ (.int .i64 0)).setCell ⟨w.heap.size, 10, none⟩ (.int .i64 0)).setCell ⟨w.heap.size, 11, none⟩ (.string ⟨#[]⟩)).setCell ⟨w.heap.size, 12, none⟩ (.string ⟨#[]⟩))) := by show Below _ _ _; refine Below.setCell ?_ (by exact Nat.le_refl _) _; refine Below.setCell ?_ (by exact Nat.le_refl _) _; refine Below.setCell ?_ (by exact Nat.le_refl _) _; refine Below.setCell ?_ (by exact Nat.le_refl _) _; refine Below.setCell ?_ (by exact Nat.le_refl _) _; refine Below.setCell ?_ (by exact Nat.le_refl _) _; refine Below.setCell ?_ (by exact Nat.le_refl _) _; refine Below.setCell ?_ (by exact Nat.le_refl _) _; refine Below.setCell ?_ (by exact Nat.le_refl _) _; refine Below.setCell ?_ (by exact Nat.le_refl _) _; refine Below.setCell ?_ (by exact Nat.le_refl _) _; refine Below.setCell ?_ (by exact Nat.le_refl _) _; refine Below.setCell ?_ (by exact Nat.le_refl _) _; exact S10b.out.1.1.2.1
    (try simp only [Exit.inBlock, Exit.then])
    refine bodyPost_ret (v := .agg #[.int .i64 ac, .int .i64 ar, .int .i64 sq, .slice ad ds.length cpd, .int .i64 0, .int .i64 nc, .int .i64 nr, .int .i64 0, .int .i64 0, .int .i64 0, .int .i64 0, .string ⟨#[]⟩, .string ⟨#[]⟩]) ?res0 rfl ?post0
    case res0 => exact results_cell_row rfl _ _ w.heap.size _ _ _ _ rfl FR.out Tryz.underlying26 rfl (by kernel_rfl)
    have e5 : s5.data.toList = tlW (tlW (tlW (tlW s.data.toList))) := by rw [HS5.out, HS4.out, HS3.out, HS2.out]
    refine ⟨ac, ar, sq, (.slice ad ds.length cpd), ds, 0, nc, nr, 0, 0, 0, 0, ⟨#[]⟩, ⟨#[]⟩, rfl, ⟨HK.out, HS2.out ▸ HA.out, ?_, ?_, s5.data.toList, s10.data.toList, s10.data.toList, s10.data.toList, e5, (if_pos (show hasNode 0 = true by decide)).mpr ⟨HP10.out, HS10.out⟩, (if_neg (show ¬ hasPlace 0 = true by decide)).mpr ⟨⟨rfl, rfl, rfl, rfl⟩, rfl⟩, (if_neg (show ¬ hasName 0 = true by decide)).mpr ⟨rfl, rfl⟩, (if_neg (show ¬ hasValue 0 = true by decide)).mpr rfl⟩, FD.out.mono (Nat.le_of_lt hN.2.2), (by simp [ByteArray.size]), FB.out⟩
    · rw [← HS2.out, ← HS3.out]; exact HQ.out
    · rw [← HS2.out, ← HS3.out, ← HS4.out]; exact HC.out
  · rw [show hasNode 1 = false by decide, show hasPlace 1 = true by decide, show hasName 1 = true by decide, show hasValue 1 = false by decide]
    have S0 : Hid (Rs2 w g w.heap.size gc w6.heap.size N s5 #[.int .i64 ac, .int .i64 ar, .int .i64 sq, .slice ad ds.length cpd, .int .i64 1, .int .i64 ac, .int .i64 ar, .int .i64 0, .int .i64 0, .int .i64 0, .int .i64 0, .string ⟨#[]⟩, .string ⟨#[]⟩] #[.bool false, .bool true, .bool true, .bool false] (.slice ad ds.length cpd) ds (w6.alloc (.cells #[.bool false, .bool true, .bool true, .bool false] 45))) := ⟨R6.out.below ((Below.refl _ _).alloc (Nat.le_refl _) _), ⟨HD6.out.below ((Below.refl _ _).alloc (Nat.le_refl _) _), hN.1, hN.2.1, hN.2.2⟩, heap_alloc_new _ _, by have := R6.out.1.lt; omega, by have := row_lt R6.out.2.2.1; omega⟩
    obtain ⟨gh, egh⟩ : ∃ x, x = w6.heap.size := ⟨_, rfl⟩
    rw [← egh] at S0
    have HGH : Hid (gh = w6.heap.size) := egh
    clear egh
    clear R6 HD6
    have hne1 : gh ≠ gc := S0.out.2.2.2.2
    have hne2 : gc ≠ gh := fun e => hne1 e.symm
    obtain ⟨k_0, k_1, k_2, k_3, k_4, k_5, k_6, k_7, k_8, k_9, k_10, k_11, k_12⟩ := row_cells S0.out.1.2.2.1
    have fz := row_free S0.out.1.2.2.1
    obtain ⟨z_0, z_1, z_2, z_3, z_4, z_5, z_6, z_7, z_8, z_9, z_10, z_11, z_12⟩ := row_cells S0.out.1.2.1
    have fr0 := row_free S0.out.1.2.1
    have wg := cell_of_row _ _ 0 _ _ _ S0.out.1.1.2.2.2.1
    have b_0 := cell_of_row _ _ 0 _ _ _ S0.out.2.2.1
    have b_1 := cell_of_row _ _ 1 _ _ _ S0.out.2.2.1
    have b_2 := cell_of_row _ _ 2 _ _ _ S0.out.2.2.1
    have b_3 := cell_of_row _ _ 3 _ _ _ S0.out.2.2.1
    simp only [List.getElem?_toArray, List.getElem?_cons_zero, List.getElem?_cons_succ] at b_0 b_1 b_2 b_3 wg
    go_wp2_with fail
    (try rw [← HGH.out])
    refine (stampW_any w g s5 _ S0.out.1.1).mono ?_
    rintro e w10 ⟨pc, pr, s10, rfl, hst, es, hr, ho⟩
    have HP10 : Hid (StampW (hdW s5.data.toList) pc pr) := hst
    have HS10 : Hid (s10.data.toList = tlW s5.data.toList) := es
    have S10 : Hid (Rs2 w g w.heap.size gc gh N s10 #[.int .i64 ac, .int .i64 ar, .int .i64 sq, .slice ad ds.length cpd, .int .i64 1, .int .i64 ac, .int .i64 ar, .int .i64 0, .int .i64 0, .int .i64 0, .int .i64 0, .string ⟨#[]⟩, .string ⟨#[]⟩] #[.bool false, .bool true, .bool true, .bool false] (.slice ad ds.length cpd) ds w10) := S0.out.out hr ho
    clear hst es hr ho S0
    clear k_0 k_1 k_2 k_3 k_4 k_5 k_6 k_7 k_8 k_9 k_10 k_11 k_12 z_0 z_1 z_2 z_3 z_4 z_5 z_6 z_7 z_8 z_9 z_10 z_11 z_12 b_0 b_1 b_2 b_3 fz fr0 wg
    obtain ⟨k_0, k_1, k_2, k_3, k_4, k_5, k_6, k_7, k_8, k_9, k_10, k_11, k_12⟩ := row_cells S10.out.1.2.2.1
    have fz := row_free S10.out.1.2.2.1
    obtain ⟨z_0, z_1, z_2, z_3, z_4, z_5, z_6, z_7, z_8, z_9, z_10, z_11, z_12⟩ := row_cells S10.out.1.2.1
    have fr0 := row_free S10.out.1.2.1
    have wg := cell_of_row _ _ 0 _ _ _ S10.out.1.1.2.2.2.1
    have b_0 := cell_of_row _ _ 0 _ _ _ S10.out.2.2.1
    have b_1 := cell_of_row _ _ 1 _ _ _ S10.out.2.2.1
    have b_2 := cell_of_row _ _ 2 _ _ _ S10.out.2.2.1
    have b_3 := cell_of_row _ _ 3 _ _ _ S10.out.2.2.1
    simp only [List.getElem?_toArray, List.getElem?_cons_zero, List.getElem?_cons_succ] at b_0 b_1 b_2 b_3 wg
    have S10b : Hid (Rs2 w g w.heap.size gc gh N s10 #[.int .i64 ac, .int .i64 ar, .int .i64 sq, .slice ad ds.length cpd, .int .i64 1, .int .i64 ac, .int .i64 ar, .int .i64 pc, .int .i64 pr, .int .i64 0, .int .i64 0, .string ⟨#[]⟩, .string ⟨#[]⟩] #[.bool false, .bool true, .bool true, .bool false] (.slice ad ds.length cpd) ds ((w10.setCell ⟨gc, 7, none⟩ (.int .i64 pc)).setCell ⟨gc, 8, none⟩ (.int .i64 pr))) := ((S10.out.set 7 _).set 8 _)
    go_wp2_with fail
    refine (stampW_any w g s10 _ S10b.out.1.1).mono ?_
    rintro e w11 ⟨fc, fr, s11, rfl, hst, es, hr, ho⟩
    have HP11 : Hid (StampW (hdW s10.data.toList) fc fr) := hst
    have HS11 : Hid (s11.data.toList = tlW s10.data.toList) := es
    have S11 : Hid (Rs2 w g w.heap.size gc gh N s11 #[.int .i64 ac, .int .i64 ar, .int .i64 sq, .slice ad ds.length cpd, .int .i64 1, .int .i64 ac, .int .i64 ar, .int .i64 pc, .int .i64 pr, .int .i64 0, .int .i64 0, .string ⟨#[]⟩, .string ⟨#[]⟩] #[.bool false, .bool true, .bool true, .bool false] (.slice ad ds.length cpd) ds w11) := S10b.out.out hr ho
    clear hst es hr ho S10b
    clear k_0 k_1 k_2 k_3 k_4 k_5 k_6 k_7 k_8 k_9 k_10 k_11 k_12 z_0 z_1 z_2 z_3 z_4 z_5 z_6 z_7 z_8 z_9 z_10 z_11 z_12 b_0 b_1 b_2 b_3 fz fr0 wg
    obtain ⟨k_0, k_1, k_2, k_3, k_4, k_5, k_6, k_7, k_8, k_9, k_10, k_11, k_12⟩ := row_cells S11.out.1.2.2.1
    have fz := row_free S11.out.1.2.2.1
    obtain ⟨z_0, z_1, z_2, z_3, z_4, z_5, z_6, z_7, z_8, z_9, z_10, z_11, z_12⟩ := row_cells S11.out.1.2.1
    have fr0 := row_free S11.out.1.2.1
    have wg := cell_of_row _ _ 0 _ _ _ S11.out.1.1.2.2.2.1
    have b_0 := cell_of_row _ _ 0 _ _ _ S11.out.2.2.1
    have b_1 := cell_of_row _ _ 1 _ _ _ S11.out.2.2.1
    have b_2 := cell_of_row _ _ 2 _ _ _ S11.out.2.2.1
    have b_3 := cell_of_row _ _ 3 _ _ _ S11.out.2.2.1
    simp only [List.getElem?_toArray, List.getElem?_cons_zero, List.getElem?_cons_succ] at b_0 b_1 b_2 b_3 wg
    have S11b : Hid (Rs2 w g w.heap.size gc gh N s11 #[.int .i64 ac, .int .i64 ar, .int .i64 sq, .slice ad ds.length cpd, .int .i64 1, .int .i64 ac, .int .i64 ar, .int .i64 pc, .int .i64 pr, .int .i64 fc, .int .i64 fr, .string ⟨#[]⟩, .string ⟨#[]⟩] #[.bool false, .bool true, .bool true, .bool false] (.slice ad ds.length cpd) ds ((w11.setCell ⟨gc, 9, none⟩ (.int .i64 fc)).setCell ⟨gc, 10, none⟩ (.int .i64 fr))) := ((S11.out.set 9 _).set 10 _)
    go_wp2_with fail
    refine (next_any g s11 _ S11b.out.1.1.2.2.2.1 S11b.out.1.1.2.2.2.2).mono ?_
    rintro e w12 ⟨nm, s12, rfl, ⟨en, es⟩, ⟨zn, z2⟩, hw, ho⟩
    have hr : RdSt w g s12 w12 := S11b.out.1.1.out ho hw z2
    have HP12 : Hid (nm.data.toList = hdW s11.data.toList) := en
    have HS12 : Hid (s12.data.toList = tlW s11.data.toList) := es
    have S12 : Hid (Rs2 w g w.heap.size gc gh N s12 #[.int .i64 ac, .int .i64 ar, .int .i64 sq, .slice ad ds.length cpd, .int .i64 1, .int .i64 ac, .int .i64 ar, .int .i64 pc, .int .i64 pr, .int .i64 fc, .int .i64 fr, .string ⟨#[]⟩, .string ⟨#[]⟩] #[.bool false, .bool true, .bool true, .bool false] (.slice ad ds.length cpd) ds w12) := S11b.out.out hr ho
    clear en es hr ho hw S11b
    clear k_0 k_1 k_2 k_3 k_4 k_5 k_6 k_7 k_8 k_9 k_10 k_11 k_12 z_0 z_1 z_2 z_3 z_4 z_5 z_6 z_7 z_8 z_9 z_10 z_11 z_12 b_0 b_1 b_2 b_3 fz fr0 wg
    obtain ⟨k_0, k_1, k_2, k_3, k_4, k_5, k_6, k_7, k_8, k_9, k_10, k_11, k_12⟩ := row_cells S12.out.1.2.2.1
    have fz := row_free S12.out.1.2.2.1
    obtain ⟨z_0, z_1, z_2, z_3, z_4, z_5, z_6, z_7, z_8, z_9, z_10, z_11, z_12⟩ := row_cells S12.out.1.2.1
    have fr0 := row_free S12.out.1.2.1
    have wg := cell_of_row _ _ 0 _ _ _ S12.out.1.1.2.2.2.1
    have b_0 := cell_of_row _ _ 0 _ _ _ S12.out.2.2.1
    have b_1 := cell_of_row _ _ 1 _ _ _ S12.out.2.2.1
    have b_2 := cell_of_row _ _ 2 _ _ _ S12.out.2.2.1
    have b_3 := cell_of_row _ _ 3 _ _ _ S12.out.2.2.1
    simp only [List.getElem?_toArray, List.getElem?_cons_zero, List.getElem?_cons_succ] at b_0 b_1 b_2 b_3 wg
    have S12b : Hid (Rs2 w g w.heap.size gc gh N s12 #[.int .i64 ac, .int .i64 ar, .int .i64 sq, .slice ad ds.length cpd, .int .i64 1, .int .i64 ac, .int .i64 ar, .int .i64 pc, .int .i64 pr, .int .i64 fc, .int .i64 fr, .string nm, .string ⟨#[]⟩] #[.bool false, .bool true, .bool true, .bool false] (.slice ad ds.length cpd) ds (w12.setCell ⟨gc, 11, none⟩ (.string nm))) := (S12.out.set 11 _)
    go_wp2
    have FR : Hid (((((((((((((((w12.setCell ⟨gc, 11, none⟩ (.string nm)).setCell ⟨w.heap.size, 0, none⟩ (.int .i64 ac)).setCell ⟨w.heap.size, 1, none⟩ (.int .i64 ar)).setCell ⟨w.heap.size, 2, none⟩ (.int .i64 sq)).setCell ⟨w.heap.size, 3, none⟩ (.slice ad ds.length cpd)).setCell ⟨w.heap.size, 4, none⟩ (.int .i64 1)).setCell ⟨w.heap.size, 5, none⟩ (.int .i64 ac)).setCell ⟨w.heap.size, 6, none⟩ (.int .i64 ar)).setCell ⟨w.heap.size, 7, none⟩ (.int .i64 pc)).setCell ⟨w.heap.size, 8, none⟩ (.int .i64 pr)).setCell ⟨w.heap.size, 9, none⟩ (.int .i64 fc)).setCell ⟨w.heap.size, 10, none⟩ (.int .i64 fr)).setCell ⟨w.heap.size, 11, none⟩ (.string nm)).setCell ⟨w.heap.size, 12, none⟩ (.string ⟨#[]⟩)).heap[w.heap.size]? = some (.cells #[.int .i64 ac, .int .i64 ar, .int .i64 sq, .slice ad ds.length cpd, .int .i64 1, .int .i64 ac, .int .i64 ar, .int .i64 pc, .int .i64 pr, .int .i64 fc, .int .i64 fr, .string nm, .string ⟨#[]⟩] 26)) := row_set13 S12b.out.1.2.1
    have FD : Hid (DpIs N ((((((((((((((w12.setCell ⟨gc, 11, none⟩ (.string nm)).setCell ⟨w.heap.size, 0, none⟩ (.int .i64 ac)).setCell ⟨w.heap.size, 1, none⟩ (.int .i64 ar)).setCell ⟨w.heap.size, 2, none⟩ (.int .i64 sq)).setCell ⟨w.heap.size, 3, none⟩ (.slice ad ds.length cpd)).setCell ⟨w.heap.size, 4, none⟩ (.int .i64 1)).setCell ⟨w.heap.size, 5, none⟩ (.int .i64 ac)).setCell ⟨w.heap.size, 6, none⟩ (.int .i64 ar)).setCell ⟨w.heap.size, 7, none⟩ (.int .i64 pc)).setCell ⟨w.heap.size, 8, none⟩ (.int .i64 pr)).setCell ⟨w.heap.size, 9, none⟩ (.int .i64 fc)).setCell ⟨w.heap.size, 10, none⟩ (.int .i64 fr)).setCell ⟨w.heap.size, 11, none⟩ (.string nm)).setCell ⟨w.heap.size, 12, none⟩ (.string ⟨#[]⟩)) (.slice ad ds.length cpd) ds) := by show DpIs _ _ _ _; refine DpIs.set ?_ hN.2.2; refine DpIs.set ?_ hN.2.2; refine DpIs.set ?_ hN.2.2; refine DpIs.set ?_ hN.2.2; refine DpIs.set ?_ hN.2.2; refine DpIs.set ?_ hN.2.2; refine DpIs.set ?_ hN.2.2; refine DpIs.set ?_ hN.2.2; refine DpIs.set ?_ hN.2.2; refine DpIs.set ?_ hN.2.2; refine DpIs.set ?_ hN.2.2; refine DpIs.set ?_ hN.2.2; refine DpIs.set ?_ hN.2.2; exact S12b.out.2.1.1
    have FB : Hid (Below w.heap.size w ((((((((((((((w12.setCell ⟨gc, 11, none⟩ (.string nm)).setCell ⟨w.heap.size, 0, none⟩ (.int .i64 ac)).setCell ⟨w.heap.size, 1, none⟩ (.int .i64 ar)).setCell ⟨w.heap.size, 2, none⟩ (.int .i64 sq)).setCell ⟨w.heap.size, 3, none⟩ (.slice ad ds.length cpd)).setCell ⟨w.heap.size, 4, none⟩ (.int .i64 1)).setCell ⟨w.heap.size, 5, none⟩ (.int .i64 ac)).setCell ⟨w.heap.size, 6, none⟩ (.int .i64 ar)).setCell ⟨w.heap.size, 7, none⟩ (.int .i64 pc)).setCell ⟨w.heap.size, 8, none⟩ (.int .i64 pr)).setCell ⟨w.heap.size, 9, none⟩ (.int .i64 fc)).setCell ⟨w.heap.size, 10, none⟩ (.int .i64 fr)).setCell ⟨w.heap.size, 11, none⟩ (.string nm)).setCell ⟨w.heap.size, 12, none⟩ (.string ⟨#[]⟩))) := by show Below _ _ _; refine Below.setCell ?_ (by exact Nat.le_refl _) _; refine Below.setCell ?_ (by exact Nat.le_refl _) _; refine Below.setCell ?_ (by exact Nat.le_refl _) _; refine Below.setCell ?_ (by exact Nat.le_refl _) _; refine Below.setCell ?_ (by exact Nat.le_refl _) _; refine Below.setCell ?_ (by exact Nat.le_refl _) _; refine Below.setCell ?_ (by exact Nat.le_refl _) _; refine Below.setCell ?_ (by exact Nat.le_refl _) _; refine Below.setCell ?_ (by exact Nat.le_refl _) _; refine Below.setCell ?_ (by exact Nat.le_refl _) _; refine Below.setCell ?_ (by exact Nat.le_refl _) _; refine Below.setCell ?_ (by exact Nat.le_refl _) _; refine Below.setCell ?_ (by exact Nat.le_refl _) _; exact S12b.out.1.1.2.1
    (try simp only [Exit.inBlock, Exit.then])
    refine bodyPost_ret (v := .agg #[.int .i64 ac, .int .i64 ar, .int .i64 sq, .slice ad ds.length cpd, .int .i64 1, .int .i64 ac, .int .i64 ar, .int .i64 pc, .int .i64 pr, .int .i64 fc, .int .i64 fr, .string nm, .string ⟨#[]⟩]) ?res1 rfl ?post1
    case res1 => exact results_cell_row rfl _ _ w.heap.size _ _ _ _ rfl FR.out Tryz.underlying26 rfl (by kernel_rfl)
    have e5 : s5.data.toList = tlW (tlW (tlW (tlW s.data.toList))) := by rw [HS5.out, HS4.out, HS3.out, HS2.out]
    refine ⟨ac, ar, sq, (.slice ad ds.length cpd), ds, 1, ac, ar, pc, pr, fc, fr, nm, ⟨#[]⟩, rfl, ⟨HK.out, HS2.out ▸ HA.out, ?_, ?_, s5.data.toList, s5.data.toList, s11.data.toList, s12.data.toList, e5, (if_neg (show ¬ hasNode 1 = true by decide)).mpr ⟨⟨rfl, rfl⟩, rfl⟩, (if_pos (show hasPlace 1 = true by decide)).mpr ⟨HP10.out, HS10.out ▸ HP11.out, HS10.out ▸ HS11.out⟩, (if_pos (show hasName 1 = true by decide)).mpr ⟨HP12.out, HS12.out⟩, (if_neg (show ¬ hasValue 1 = true by decide)).mpr rfl⟩, FD.out.mono (Nat.le_of_lt hN.2.2), zn, FB.out⟩
    · rw [← HS2.out, ← HS3.out]; exact HQ.out
    · rw [← HS2.out, ← HS3.out, ← HS4.out]; exact HC.out
  · rw [show hasNode 2 = true by decide, show hasPlace 2 = true by decide, show hasName 2 = false by decide, show hasValue 2 = false by decide]
    have S0 : Hid (Rs2 w g w.heap.size gc w6.heap.size N s5 #[.int .i64 ac, .int .i64 ar, .int .i64 sq, .slice ad ds.length cpd, .int .i64 2, .int .i64 ac, .int .i64 ar, .int .i64 0, .int .i64 0, .int .i64 0, .int .i64 0, .string ⟨#[]⟩, .string ⟨#[]⟩] #[.bool true, .bool true, .bool false, .bool false] (.slice ad ds.length cpd) ds (w6.alloc (.cells #[.bool true, .bool true, .bool false, .bool false] 45))) := ⟨R6.out.below ((Below.refl _ _).alloc (Nat.le_refl _) _), ⟨HD6.out.below ((Below.refl _ _).alloc (Nat.le_refl _) _), hN.1, hN.2.1, hN.2.2⟩, heap_alloc_new _ _, by have := R6.out.1.lt; omega, by have := row_lt R6.out.2.2.1; omega⟩
    obtain ⟨gh, egh⟩ : ∃ x, x = w6.heap.size := ⟨_, rfl⟩
    rw [← egh] at S0
    have HGH : Hid (gh = w6.heap.size) := egh
    clear egh
    clear R6 HD6
    have hne1 : gh ≠ gc := S0.out.2.2.2.2
    have hne2 : gc ≠ gh := fun e => hne1 e.symm
    obtain ⟨k_0, k_1, k_2, k_3, k_4, k_5, k_6, k_7, k_8, k_9, k_10, k_11, k_12⟩ := row_cells S0.out.1.2.2.1
    have fz := row_free S0.out.1.2.2.1
    obtain ⟨z_0, z_1, z_2, z_3, z_4, z_5, z_6, z_7, z_8, z_9, z_10, z_11, z_12⟩ := row_cells S0.out.1.2.1
    have fr0 := row_free S0.out.1.2.1
    have wg := cell_of_row _ _ 0 _ _ _ S0.out.1.1.2.2.2.1
    have b_0 := cell_of_row _ _ 0 _ _ _ S0.out.2.2.1
    have b_1 := cell_of_row _ _ 1 _ _ _ S0.out.2.2.1
    have b_2 := cell_of_row _ _ 2 _ _ _ S0.out.2.2.1
    have b_3 := cell_of_row _ _ 3 _ _ _ S0.out.2.2.1
    simp only [List.getElem?_toArray, List.getElem?_cons_zero, List.getElem?_cons_succ] at b_0 b_1 b_2 b_3 wg
    go_wp2_with fail
    (try rw [← HGH.out])
    refine (stampW_any w g s5 _ S0.out.1.1).mono ?_
    rintro e w10 ⟨nc, nr, s10, rfl, hst, es, hr, ho⟩
    have HP10 : Hid (StampW (hdW s5.data.toList) nc nr) := hst
    have HS10 : Hid (s10.data.toList = tlW s5.data.toList) := es
    have S10 : Hid (Rs2 w g w.heap.size gc gh N s10 #[.int .i64 ac, .int .i64 ar, .int .i64 sq, .slice ad ds.length cpd, .int .i64 2, .int .i64 ac, .int .i64 ar, .int .i64 0, .int .i64 0, .int .i64 0, .int .i64 0, .string ⟨#[]⟩, .string ⟨#[]⟩] #[.bool true, .bool true, .bool false, .bool false] (.slice ad ds.length cpd) ds w10) := S0.out.out hr ho
    clear hst es hr ho S0
    clear k_0 k_1 k_2 k_3 k_4 k_5 k_6 k_7 k_8 k_9 k_10 k_11 k_12 z_0 z_1 z_2 z_3 z_4 z_5 z_6 z_7 z_8 z_9 z_10 z_11 z_12 b_0 b_1 b_2 b_3 fz fr0 wg
    obtain ⟨k_0, k_1, k_2, k_3, k_4, k_5, k_6, k_7, k_8, k_9, k_10, k_11, k_12⟩ := row_cells S10.out.1.2.2.1
    have fz := row_free S10.out.1.2.2.1
    obtain ⟨z_0, z_1, z_2, z_3, z_4, z_5, z_6, z_7, z_8, z_9, z_10, z_11, z_12⟩ := row_cells S10.out.1.2.1
    have fr0 := row_free S10.out.1.2.1
    have wg := cell_of_row _ _ 0 _ _ _ S10.out.1.1.2.2.2.1
    have b_0 := cell_of_row _ _ 0 _ _ _ S10.out.2.2.1
    have b_1 := cell_of_row _ _ 1 _ _ _ S10.out.2.2.1
    have b_2 := cell_of_row _ _ 2 _ _ _ S10.out.2.2.1
    have b_3 := cell_of_row _ _ 3 _ _ _ S10.out.2.2.1
    simp only [List.getElem?_toArray, List.getElem?_cons_zero, List.getElem?_cons_succ] at b_0 b_1 b_2 b_3 wg
    have S10b : Hid (Rs2 w g w.heap.size gc gh N s10 #[.int .i64 ac, .int .i64 ar, .int .i64 sq, .slice ad ds.length cpd, .int .i64 2, .int .i64 nc, .int .i64 nr, .int .i64 0, .int .i64 0, .int .i64 0, .int .i64 0, .string ⟨#[]⟩, .string ⟨#[]⟩] #[.bool true, .bool true, .bool false, .bool false] (.slice ad ds.length cpd) ds ((w10.setCell ⟨gc, 5, none⟩ (.int .i64 nc)).setCell ⟨gc, 6, none⟩ (.int .i64 nr))) := ((S10.out.set 5 _).set 6 _)
    go_wp2_with fail
    refine (stampW_any w g s10 _ S10b.out.1.1).mono ?_
    rintro e w11 ⟨pc, pr, s11, rfl, hst, es, hr, ho⟩
    have HP11 : Hid (StampW (hdW s10.data.toList) pc pr) := hst
    have HS11 : Hid (s11.data.toList = tlW s10.data.toList) := es
    have S11 : Hid (Rs2 w g w.heap.size gc gh N s11 #[.int .i64 ac, .int .i64 ar, .int .i64 sq, .slice ad ds.length cpd, .int .i64 2, .int .i64 nc, .int .i64 nr, .int .i64 0, .int .i64 0, .int .i64 0, .int .i64 0, .string ⟨#[]⟩, .string ⟨#[]⟩] #[.bool true, .bool true, .bool false, .bool false] (.slice ad ds.length cpd) ds w11) := S10b.out.out hr ho
    clear hst es hr ho S10b
    clear k_0 k_1 k_2 k_3 k_4 k_5 k_6 k_7 k_8 k_9 k_10 k_11 k_12 z_0 z_1 z_2 z_3 z_4 z_5 z_6 z_7 z_8 z_9 z_10 z_11 z_12 b_0 b_1 b_2 b_3 fz fr0 wg
    obtain ⟨k_0, k_1, k_2, k_3, k_4, k_5, k_6, k_7, k_8, k_9, k_10, k_11, k_12⟩ := row_cells S11.out.1.2.2.1
    have fz := row_free S11.out.1.2.2.1
    obtain ⟨z_0, z_1, z_2, z_3, z_4, z_5, z_6, z_7, z_8, z_9, z_10, z_11, z_12⟩ := row_cells S11.out.1.2.1
    have fr0 := row_free S11.out.1.2.1
    have wg := cell_of_row _ _ 0 _ _ _ S11.out.1.1.2.2.2.1
    have b_0 := cell_of_row _ _ 0 _ _ _ S11.out.2.2.1
    have b_1 := cell_of_row _ _ 1 _ _ _ S11.out.2.2.1
    have b_2 := cell_of_row _ _ 2 _ _ _ S11.out.2.2.1
    have b_3 := cell_of_row _ _ 3 _ _ _ S11.out.2.2.1
    simp only [List.getElem?_toArray, List.getElem?_cons_zero, List.getElem?_cons_succ] at b_0 b_1 b_2 b_3 wg
    have S11b : Hid (Rs2 w g w.heap.size gc gh N s11 #[.int .i64 ac, .int .i64 ar, .int .i64 sq, .slice ad ds.length cpd, .int .i64 2, .int .i64 nc, .int .i64 nr, .int .i64 pc, .int .i64 pr, .int .i64 0, .int .i64 0, .string ⟨#[]⟩, .string ⟨#[]⟩] #[.bool true, .bool true, .bool false, .bool false] (.slice ad ds.length cpd) ds ((w11.setCell ⟨gc, 7, none⟩ (.int .i64 pc)).setCell ⟨gc, 8, none⟩ (.int .i64 pr))) := ((S11.out.set 7 _).set 8 _)
    go_wp2_with fail
    refine (stampW_any w g s11 _ S11b.out.1.1).mono ?_
    rintro e w12 ⟨fc, fr, s12, rfl, hst, es, hr, ho⟩
    have HP12 : Hid (StampW (hdW s11.data.toList) fc fr) := hst
    have HS12 : Hid (s12.data.toList = tlW s11.data.toList) := es
    have S12 : Hid (Rs2 w g w.heap.size gc gh N s12 #[.int .i64 ac, .int .i64 ar, .int .i64 sq, .slice ad ds.length cpd, .int .i64 2, .int .i64 nc, .int .i64 nr, .int .i64 pc, .int .i64 pr, .int .i64 0, .int .i64 0, .string ⟨#[]⟩, .string ⟨#[]⟩] #[.bool true, .bool true, .bool false, .bool false] (.slice ad ds.length cpd) ds w12) := S11b.out.out hr ho
    clear hst es hr ho S11b
    clear k_0 k_1 k_2 k_3 k_4 k_5 k_6 k_7 k_8 k_9 k_10 k_11 k_12 z_0 z_1 z_2 z_3 z_4 z_5 z_6 z_7 z_8 z_9 z_10 z_11 z_12 b_0 b_1 b_2 b_3 fz fr0 wg
    obtain ⟨k_0, k_1, k_2, k_3, k_4, k_5, k_6, k_7, k_8, k_9, k_10, k_11, k_12⟩ := row_cells S12.out.1.2.2.1
    have fz := row_free S12.out.1.2.2.1
    obtain ⟨z_0, z_1, z_2, z_3, z_4, z_5, z_6, z_7, z_8, z_9, z_10, z_11, z_12⟩ := row_cells S12.out.1.2.1
    have fr0 := row_free S12.out.1.2.1
    have wg := cell_of_row _ _ 0 _ _ _ S12.out.1.1.2.2.2.1
    have b_0 := cell_of_row _ _ 0 _ _ _ S12.out.2.2.1
    have b_1 := cell_of_row _ _ 1 _ _ _ S12.out.2.2.1
    have b_2 := cell_of_row _ _ 2 _ _ _ S12.out.2.2.1
    have b_3 := cell_of_row _ _ 3 _ _ _ S12.out.2.2.1
    simp only [List.getElem?_toArray, List.getElem?_cons_zero, List.getElem?_cons_succ] at b_0 b_1 b_2 b_3 wg
    have S12b : Hid (Rs2 w g w.heap.size gc gh N s12 #[.int .i64 ac, .int .i64 ar, .int .i64 sq, .slice ad ds.length cpd, .int .i64 2, .int .i64 nc, .int .i64 nr, .int .i64 pc, .int .i64 pr, .int .i64 fc, .int .i64 fr, .string ⟨#[]⟩, .string ⟨#[]⟩] #[.bool true, .bool true, .bool false, .bool false] (.slice ad ds.length cpd) ds ((w12.setCell ⟨gc, 9, none⟩ (.int .i64 fc)).setCell ⟨gc, 10, none⟩ (.int .i64 fr))) := ((S12.out.set 9 _).set 10 _)
    go_wp2
    have FR : Hid ((((((((((((((((w12.setCell ⟨gc, 9, none⟩ (.int .i64 fc)).setCell ⟨gc, 10, none⟩ (.int .i64 fr)).setCell ⟨w.heap.size, 0, none⟩ (.int .i64 ac)).setCell ⟨w.heap.size, 1, none⟩ (.int .i64 ar)).setCell ⟨w.heap.size, 2, none⟩ (.int .i64 sq)).setCell ⟨w.heap.size, 3, none⟩ (.slice ad ds.length cpd)).setCell ⟨w.heap.size, 4, none⟩ (.int .i64 2)).setCell ⟨w.heap.size, 5, none⟩ (.int .i64 nc)).setCell ⟨w.heap.size, 6, none⟩ (.int .i64 nr)).setCell ⟨w.heap.size, 7, none⟩ (.int .i64 pc)).setCell ⟨w.heap.size, 8, none⟩ (.int .i64 pr)).setCell ⟨w.heap.size, 9, none⟩ (.int .i64 fc)).setCell ⟨w.heap.size, 10, none⟩ (.int .i64 fr)).setCell ⟨w.heap.size, 11, none⟩ (.string ⟨#[]⟩)).setCell ⟨w.heap.size, 12, none⟩ (.string ⟨#[]⟩)).heap[w.heap.size]? = some (.cells #[.int .i64 ac, .int .i64 ar, .int .i64 sq, .slice ad ds.length cpd, .int .i64 2, .int .i64 nc, .int .i64 nr, .int .i64 pc, .int .i64 pr, .int .i64 fc, .int .i64 fr, .string ⟨#[]⟩, .string ⟨#[]⟩] 26)) := row_set13 S12b.out.1.2.1
    have FD : Hid (DpIs N (((((((((((((((w12.setCell ⟨gc, 9, none⟩ (.int .i64 fc)).setCell ⟨gc, 10, none⟩ (.int .i64 fr)).setCell ⟨w.heap.size, 0, none⟩ (.int .i64 ac)).setCell ⟨w.heap.size, 1, none⟩ (.int .i64 ar)).setCell ⟨w.heap.size, 2, none⟩ (.int .i64 sq)).setCell ⟨w.heap.size, 3, none⟩ (.slice ad ds.length cpd)).setCell ⟨w.heap.size, 4, none⟩ (.int .i64 2)).setCell ⟨w.heap.size, 5, none⟩ (.int .i64 nc)).setCell ⟨w.heap.size, 6, none⟩ (.int .i64 nr)).setCell ⟨w.heap.size, 7, none⟩ (.int .i64 pc)).setCell ⟨w.heap.size, 8, none⟩ (.int .i64 pr)).setCell ⟨w.heap.size, 9, none⟩ (.int .i64 fc)).setCell ⟨w.heap.size, 10, none⟩ (.int .i64 fr)).setCell ⟨w.heap.size, 11, none⟩ (.string ⟨#[]⟩)).setCell ⟨w.heap.size, 12, none⟩ (.string ⟨#[]⟩)) (.slice ad ds.length cpd) ds) := by show DpIs _ _ _ _; refine DpIs.set ?_ hN.2.2; refine DpIs.set ?_ hN.2.2; refine DpIs.set ?_ hN.2.2; refine DpIs.set ?_ hN.2.2; refine DpIs.set ?_ hN.2.2; refine DpIs.set ?_ hN.2.2; refine DpIs.set ?_ hN.2.2; refine DpIs.set ?_ hN.2.2; refine DpIs.set ?_ hN.2.2; refine DpIs.set ?_ hN.2.2; refine DpIs.set ?_ hN.2.2; refine DpIs.set ?_ hN.2.2; refine DpIs.set ?_ hN.2.2; exact S12b.out.2.1.1
    have FB : Hid (Below w.heap.size w (((((((((((((((w12.setCell ⟨gc, 9, none⟩ (.int .i64 fc)).setCell ⟨gc, 10, none⟩ (.int .i64 fr)).setCell ⟨w.heap.size, 0, none⟩ (.int .i64 ac)).setCell ⟨w.heap.size, 1, none⟩ (.int .i64 ar)).setCell ⟨w.heap.size, 2, none⟩ (.int .i64 sq)).setCell ⟨w.heap.size, 3, none⟩ (.slice ad ds.length cpd)).setCell ⟨w.heap.size, 4, none⟩ (.int .i64 2)).setCell ⟨w.heap.size, 5, none⟩ (.int .i64 nc)).setCell ⟨w.heap.size, 6, none⟩ (.int .i64 nr)).setCell ⟨w.heap.size, 7, none⟩ (.int .i64 pc)).setCell ⟨w.heap.size, 8, none⟩ (.int .i64 pr)).setCell ⟨w.heap.size, 9, none⟩ (.int .i64 fc)).setCell ⟨w.heap.size, 10, none⟩ (.int .i64 fr)).setCell ⟨w.heap.size, 11, none⟩ (.string ⟨#[]⟩)).setCell ⟨w.heap.size, 12, none⟩ (.string ⟨#[]⟩))) := by show Below _ _ _; refine Below.setCell ?_ (by exact Nat.le_refl _) _; refine Below.setCell ?_ (by exact Nat.le_refl _) _; refine Below.setCell ?_ (by exact Nat.le_refl _) _; refine Below.setCell ?_ (by exact Nat.le_refl _) _; refine Below.setCell ?_ (by exact Nat.le_refl _) _; refine Below.setCell ?_ (by exact Nat.le_refl _) _; refine Below.setCell ?_ (by exact Nat.le_refl _) _; refine Below.setCell ?_ (by exact Nat.le_refl _) _; refine Below.setCell ?_ (by exact Nat.le_refl _) _; refine Below.setCell ?_ (by exact Nat.le_refl _) _; refine Below.setCell ?_ (by exact Nat.le_refl _) _; refine Below.setCell ?_ (by exact Nat.le_refl _) _; refine Below.setCell ?_ (by exact Nat.le_refl _) _; exact S12b.out.1.1.2.1
    (try simp only [Exit.inBlock, Exit.then])
    refine bodyPost_ret (v := .agg #[.int .i64 ac, .int .i64 ar, .int .i64 sq, .slice ad ds.length cpd, .int .i64 2, .int .i64 nc, .int .i64 nr, .int .i64 pc, .int .i64 pr, .int .i64 fc, .int .i64 fr, .string ⟨#[]⟩, .string ⟨#[]⟩]) ?res2 rfl ?post2
    case res2 => exact results_cell_row rfl _ _ w.heap.size _ _ _ _ rfl FR.out Tryz.underlying26 rfl (by kernel_rfl)
    have e5 : s5.data.toList = tlW (tlW (tlW (tlW s.data.toList))) := by rw [HS5.out, HS4.out, HS3.out, HS2.out]
    refine ⟨ac, ar, sq, (.slice ad ds.length cpd), ds, 2, nc, nr, pc, pr, fc, fr, ⟨#[]⟩, ⟨#[]⟩, rfl, ⟨HK.out, HS2.out ▸ HA.out, ?_, ?_, s5.data.toList, s10.data.toList, s12.data.toList, s12.data.toList, e5, (if_pos (show hasNode 2 = true by decide)).mpr ⟨HP10.out, HS10.out⟩, (if_pos (show hasPlace 2 = true by decide)).mpr ⟨HP11.out, HS11.out ▸ HP12.out, HS11.out ▸ HS12.out⟩, (if_neg (show ¬ hasName 2 = true by decide)).mpr ⟨rfl, rfl⟩, (if_neg (show ¬ hasValue 2 = true by decide)).mpr rfl⟩, FD.out.mono (Nat.le_of_lt hN.2.2), (by simp [ByteArray.size]), FB.out⟩
    · rw [← HS2.out, ← HS3.out]; exact HQ.out
    · rw [← HS2.out, ← HS3.out, ← HS4.out]; exact HC.out
  · rw [show hasNode 3 = true by decide, show hasPlace 3 = false by decide, show hasName 3 = true by decide, show hasValue 3 = true by decide]
    have S0 : Hid (Rs2 w g w.heap.size gc w6.heap.size N s5 #[.int .i64 ac, .int .i64 ar, .int .i64 sq, .slice ad ds.length cpd, .int .i64 3, .int .i64 ac, .int .i64 ar, .int .i64 0, .int .i64 0, .int .i64 0, .int .i64 0, .string ⟨#[]⟩, .string ⟨#[]⟩] #[.bool true, .bool false, .bool true, .bool true] (.slice ad ds.length cpd) ds (w6.alloc (.cells #[.bool true, .bool false, .bool true, .bool true] 45))) := ⟨R6.out.below ((Below.refl _ _).alloc (Nat.le_refl _) _), ⟨HD6.out.below ((Below.refl _ _).alloc (Nat.le_refl _) _), hN.1, hN.2.1, hN.2.2⟩, heap_alloc_new _ _, by have := R6.out.1.lt; omega, by have := row_lt R6.out.2.2.1; omega⟩
    obtain ⟨gh, egh⟩ : ∃ x, x = w6.heap.size := ⟨_, rfl⟩
    rw [← egh] at S0
    have HGH : Hid (gh = w6.heap.size) := egh
    clear egh
    clear R6 HD6
    have hne1 : gh ≠ gc := S0.out.2.2.2.2
    have hne2 : gc ≠ gh := fun e => hne1 e.symm
    obtain ⟨k_0, k_1, k_2, k_3, k_4, k_5, k_6, k_7, k_8, k_9, k_10, k_11, k_12⟩ := row_cells S0.out.1.2.2.1
    have fz := row_free S0.out.1.2.2.1
    obtain ⟨z_0, z_1, z_2, z_3, z_4, z_5, z_6, z_7, z_8, z_9, z_10, z_11, z_12⟩ := row_cells S0.out.1.2.1
    have fr0 := row_free S0.out.1.2.1
    have wg := cell_of_row _ _ 0 _ _ _ S0.out.1.1.2.2.2.1
    have b_0 := cell_of_row _ _ 0 _ _ _ S0.out.2.2.1
    have b_1 := cell_of_row _ _ 1 _ _ _ S0.out.2.2.1
    have b_2 := cell_of_row _ _ 2 _ _ _ S0.out.2.2.1
    have b_3 := cell_of_row _ _ 3 _ _ _ S0.out.2.2.1
    simp only [List.getElem?_toArray, List.getElem?_cons_zero, List.getElem?_cons_succ] at b_0 b_1 b_2 b_3 wg
    go_wp2_with fail
    (try rw [← HGH.out])
    refine (stampW_any w g s5 _ S0.out.1.1).mono ?_
    rintro e w10 ⟨nc, nr, s10, rfl, hst, es, hr, ho⟩
    have HP10 : Hid (StampW (hdW s5.data.toList) nc nr) := hst
    have HS10 : Hid (s10.data.toList = tlW s5.data.toList) := es
    have S10 : Hid (Rs2 w g w.heap.size gc gh N s10 #[.int .i64 ac, .int .i64 ar, .int .i64 sq, .slice ad ds.length cpd, .int .i64 3, .int .i64 ac, .int .i64 ar, .int .i64 0, .int .i64 0, .int .i64 0, .int .i64 0, .string ⟨#[]⟩, .string ⟨#[]⟩] #[.bool true, .bool false, .bool true, .bool true] (.slice ad ds.length cpd) ds w10) := S0.out.out hr ho
    clear hst es hr ho S0
    clear k_0 k_1 k_2 k_3 k_4 k_5 k_6 k_7 k_8 k_9 k_10 k_11 k_12 z_0 z_1 z_2 z_3 z_4 z_5 z_6 z_7 z_8 z_9 z_10 z_11 z_12 b_0 b_1 b_2 b_3 fz fr0 wg
    obtain ⟨k_0, k_1, k_2, k_3, k_4, k_5, k_6, k_7, k_8, k_9, k_10, k_11, k_12⟩ := row_cells S10.out.1.2.2.1
    have fz := row_free S10.out.1.2.2.1
    obtain ⟨z_0, z_1, z_2, z_3, z_4, z_5, z_6, z_7, z_8, z_9, z_10, z_11, z_12⟩ := row_cells S10.out.1.2.1
    have fr0 := row_free S10.out.1.2.1
    have wg := cell_of_row _ _ 0 _ _ _ S10.out.1.1.2.2.2.1
    have b_0 := cell_of_row _ _ 0 _ _ _ S10.out.2.2.1
    have b_1 := cell_of_row _ _ 1 _ _ _ S10.out.2.2.1
    have b_2 := cell_of_row _ _ 2 _ _ _ S10.out.2.2.1
    have b_3 := cell_of_row _ _ 3 _ _ _ S10.out.2.2.1
    simp only [List.getElem?_toArray, List.getElem?_cons_zero, List.getElem?_cons_succ] at b_0 b_1 b_2 b_3 wg
    have S10b : Hid (Rs2 w g w.heap.size gc gh N s10 #[.int .i64 ac, .int .i64 ar, .int .i64 sq, .slice ad ds.length cpd, .int .i64 3, .int .i64 nc, .int .i64 nr, .int .i64 0, .int .i64 0, .int .i64 0, .int .i64 0, .string ⟨#[]⟩, .string ⟨#[]⟩] #[.bool true, .bool false, .bool true, .bool true] (.slice ad ds.length cpd) ds ((w10.setCell ⟨gc, 5, none⟩ (.int .i64 nc)).setCell ⟨gc, 6, none⟩ (.int .i64 nr))) := ((S10.out.set 5 _).set 6 _)
    have HLs10 : Hid (s10.data.toList.length ≤ s.size) := by show _ ≤ _; rw [HS10.out]; exact Nat.le_trans (tlW_len _) HLs5.out
    go_wp2_with fail
    refine (next_any g s10 _ S10b.out.1.1.2.2.2.1 S10b.out.1.1.2.2.2.2).mono ?_
    rintro e w11 ⟨nm, s11, rfl, ⟨en, es⟩, ⟨zn, z2⟩, hw, ho⟩
    have hr : RdSt w g s11 w11 := S10b.out.1.1.out ho hw z2
    have HP11 : Hid (nm.data.toList = hdW s10.data.toList) := en
    have HS11 : Hid (s11.data.toList = tlW s10.data.toList) := es
    have S11 : Hid (Rs2 w g w.heap.size gc gh N s11 #[.int .i64 ac, .int .i64 ar, .int .i64 sq, .slice ad ds.length cpd, .int .i64 3, .int .i64 nc, .int .i64 nr, .int .i64 0, .int .i64 0, .int .i64 0, .int .i64 0, .string ⟨#[]⟩, .string ⟨#[]⟩] #[.bool true, .bool false, .bool true, .bool true] (.slice ad ds.length cpd) ds w11) := S10b.out.out hr ho
    clear en es hr ho hw S10b
    clear k_0 k_1 k_2 k_3 k_4 k_5 k_6 k_7 k_8 k_9 k_10 k_11 k_12 z_0 z_1 z_2 z_3 z_4 z_5 z_6 z_7 z_8 z_9 z_10 z_11 z_12 b_0 b_1 b_2 b_3 fz fr0 wg
    obtain ⟨k_0, k_1, k_2, k_3, k_4, k_5, k_6, k_7, k_8, k_9, k_10, k_11, k_12⟩ := row_cells S11.out.1.2.2.1
    have fz := row_free S11.out.1.2.2.1
    obtain ⟨z_0, z_1, z_2, z_3, z_4, z_5, z_6, z_7, z_8, z_9, z_10, z_11, z_12⟩ := row_cells S11.out.1.2.1
    have fr0 := row_free S11.out.1.2.1
    have wg := cell_of_row _ _ 0 _ _ _ S11.out.1.1.2.2.2.1
    have b_0 := cell_of_row _ _ 0 _ _ _ S11.out.2.2.1
    have b_1 := cell_of_row _ _ 1 _ _ _ S11.out.2.2.1
    have b_2 := cell_of_row _ _ 2 _ _ _ S11.out.2.2.1
    have b_3 := cell_of_row _ _ 3 _ _ _ S11.out.2.2.1
    simp only [List.getElem?_toArray, List.getElem?_cons_zero, List.getElem?_cons_succ] at b_0 b_1 b_2 b_3 wg
    have S11b : Hid (Rs2 w g w.heap.size gc gh N s11 #[.int .i64 ac, .int .i64 ar, .int .i64 sq, .slice ad ds.length cpd, .int .i64 3, .int .i64 nc, .int .i64 nr, .int .i64 0, .int .i64 0, .int .i64 0, .int .i64 0, .string nm, .string ⟨#[]⟩] #[.bool true, .bool false, .bool true, .bool true] (.slice ad ds.length cpd) ds (w11.setCell ⟨gc, 11, none⟩ (.string nm))) := (S11.out.set 11 _)
    have HLs11 : Hid (s11.data.toList.length ≤ s.size) := by show _ ≤ _; rw [HS11.out]; exact Nat.le_trans (tlW_len _) HLs10.out
    go_wp2_with fail
    refine (unquote_any s11 (HZ.out s11 HLs11.out) _).mono ?_
    rintro e w12 ⟨t, ok, rfl, hu, htl, hb⟩
    have HP12 : Hid (UnqIs s11.data.toList t ok) := hu
    have S12 : Hid (Rs2 w g w.heap.size gc gh N s11 #[.int .i64 ac, .int .i64 ar, .int .i64 sq, .slice ad ds.length cpd, .int .i64 3, .int .i64 nc, .int .i64 nr, .int .i64 0, .int .i64 0, .int .i64 0, .int .i64 0, .string nm, .string ⟨#[]⟩] #[.bool true, .bool false, .bool true, .bool true] (.slice ad ds.length cpd) ds w12) := S11b.out.below hb
    clear hu hb S11b
    clear k_0 k_1 k_2 k_3 k_4 k_5 k_6 k_7 k_8 k_9 k_10 k_11 k_12 z_0 z_1 z_2 z_3 z_4 z_5 z_6 z_7 z_8 z_9 z_10 z_11 z_12 b_0 b_1 b_2 b_3 fz fr0 wg
    obtain ⟨k_0, k_1, k_2, k_3, k_4, k_5, k_6, k_7, k_8, k_9, k_10, k_11, k_12⟩ := row_cells S12.out.1.2.2.1
    have fz := row_free S12.out.1.2.2.1
    obtain ⟨z_0, z_1, z_2, z_3, z_4, z_5, z_6, z_7, z_8, z_9, z_10, z_11, z_12⟩ := row_cells S12.out.1.2.1
    have fr0 := row_free S12.out.1.2.1
    have wg := cell_of_row _ _ 0 _ _ _ S12.out.1.1.2.2.2.1
    have b_0 := cell_of_row _ _ 0 _ _ _ S12.out.2.2.1
    have b_1 := cell_of_row _ _ 1 _ _ _ S12.out.2.2.1
    have b_2 := cell_of_row _ _ 2 _ _ _ S12.out.2.2.1
    have b_3 := cell_of_row _ _ 3 _ _ _ S12.out.2.2.1
    simp only [List.getElem?_toArray, List.getElem?_cons_zero, List.getElem?_cons_succ] at b_0 b_1 b_2 b_3 wg
    have S12b : Hid (Rs2 w g w.heap.size gc gh N s11 #[.int .i64 ac, .int .i64 ar, .int .i64 sq, .slice ad ds.length cpd, .int .i64 3, .int .i64 nc, .int .i64 nr, .int .i64 0, .int .i64 0, .int .i64 0, .int .i64 0, .string nm, .string (txt t)] #[.bool true, .bool false, .bool true, .bool true] (.slice ad ds.length cpd) ds (w12.setCell ⟨gc, 12, none⟩ (.string (txt t)))) := (S12.out.set 12 _)
    go_wp2
    have FR : Hid (((((((((((((((w12.setCell ⟨gc, 12, none⟩ (.string (txt t))).setCell ⟨w.heap.size, 0, none⟩ (.int .i64 ac)).setCell ⟨w.heap.size, 1, none⟩ (.int .i64 ar)).setCell ⟨w.heap.size, 2, none⟩ (.int .i64 sq)).setCell ⟨w.heap.size, 3, none⟩ (.slice ad ds.length cpd)).setCell ⟨w.heap.size, 4, none⟩ (.int .i64 3)).setCell ⟨w.heap.size, 5, none⟩ (.int .i64 nc)).setCell ⟨w.heap.size, 6, none⟩ (.int .i64 nr)).setCell ⟨w.heap.size, 7, none⟩ (.int .i64 0)).setCell ⟨w.heap.size, 8, none⟩ (.int .i64 0)).setCell ⟨w.heap.size, 9, none⟩ (.int .i64 0)).setCell ⟨w.heap.size, 10, none⟩ (.int .i64 0)).setCell ⟨w.heap.size, 11, none⟩ (.string nm)).setCell ⟨w.heap.size, 12, none⟩ (.string (txt t))).heap[w.heap.size]? = some (.cells #[.int .i64 ac, .int .i64 ar, .int .i64 sq, .slice ad ds.length cpd, .int .i64 3, .int .i64 nc, .int .i64 nr, .int .i64 0, .int .i64 0, .int .i64 0, .int .i64 0, .string nm, .string (txt t)] 26)) := row_set13 S12b.out.1.2.1
    have FD : Hid (DpIs N ((((((((((((((w12.setCell ⟨gc, 12, none⟩ (.string (txt t))).setCell ⟨w.heap.size, 0, none⟩ (.int .i64 ac)).setCell ⟨w.heap.size, 1, none⟩ (.int .i64 ar)).setCell ⟨w.heap.size, 2, none⟩ (.int .i64 sq)).setCell ⟨w.heap.size, 3, none⟩ (.slice ad ds.length cpd)).setCell ⟨w.heap.size, 4, none⟩ (.int .i64 3)).setCell ⟨w.heap.size, 5, none⟩ (.int .i64 nc)).setCell ⟨w.heap.size, 6, none⟩ (.int .i64 nr)).setCell ⟨w.heap.size, 7, none⟩ (.int .i64 0)).setCell ⟨w.heap.size, 8, none⟩ (.int .i64 0)).setCell ⟨w.heap.size, 9, none⟩ (.int .i64 0)).setCell ⟨w.heap.size, 10, none⟩ (.int .i64 0)).setCell ⟨w.heap.size, 11, none⟩ (.string nm)).setCell ⟨w.heap.size, 12, none⟩ (.string (txt t))) (.slice ad ds.length cpd) ds) := by show DpIs _ _ _ _; refine DpIs.set ?_ hN.2.2; refine DpIs.set ?_ hN.2.2; refine DpIs.set ?_ hN.2.2; refine DpIs.set ?_ hN.2.2; refine DpIs.set ?_ hN.2.2; refine DpIs.set ?_ hN.2.2; refine DpIs.set ?_ hN.2.2; refine DpIs.set ?_ hN.2.2; refine DpIs.set ?_ hN.2.2; refine DpIs.set ?_ hN.2.2; refine DpIs.set ?_ hN.2.2; refine DpIs.set ?_ hN.2.2; refine DpIs.set ?_ hN.2.2; exact S12b.out.2.1.1
    have FB : Hid (Below w.heap.size w ((((((((((((((w12.setCell ⟨gc, 12, none⟩ (.string (txt t))).setCell ⟨w.heap.size, 0, none⟩ (.int .i64 ac)).setCell ⟨w.heap.size, 1, none⟩ (.int .i64 ar)).setCell ⟨w.heap.size, 2, none⟩ (.int .i64 sq)).setCell ⟨w.heap.size, 3, none⟩ (.slice ad ds.length cpd)).setCell ⟨w.heap.size, 4, none⟩ (.int .i64 3)).setCell ⟨w.heap.size, 5, none⟩ (.int .i64 nc)).setCell ⟨w.heap.size, 6, none⟩ (.int .i64 nr)).setCell ⟨w.heap.size, 7, none⟩ (.int .i64 0)).setCell ⟨w.heap.size, 8, none⟩ (.int .i64 0)).setCell ⟨w.heap.size, 9, none⟩ (.int .i64 0)).setCell ⟨w.heap.size, 10, none⟩ (.int .i64 0)).setCell ⟨w.heap.size, 11, none⟩ (.string nm)).setCell ⟨w.heap.size, 12, none⟩ (.string (txt t)))) := by show Below _ _ _; refine Below.setCell ?_ (by exact Nat.le_refl _) _; refine Below.setCell ?_ (by exact Nat.le_refl _) _; refine Below.setCell ?_ (by exact Nat.le_refl _) _; refine Below.setCell ?_ (by exact Nat.le_refl _) _; refine Below.setCell ?_ (by exact Nat.le_refl _) _; refine Below.setCell ?_ (by exact Nat.le_refl _) _; refine Below.setCell ?_ (by exact Nat.le_refl _) _; refine Below.setCell ?_ (by exact Nat.le_refl _) _; refine Below.setCell ?_ (by exact Nat.le_refl _) _; refine Below.setCell ?_ (by exact Nat.le_refl _) _; refine Below.setCell ?_ (by exact Nat.le_refl _) _; refine Below.setCell ?_ (by exact Nat.le_refl _) _; refine Below.setCell ?_ (by exact Nat.le_refl _) _; exact S12b.out.1.1.2.1
    (try simp only [Exit.inBlock, Exit.then])
    refine bodyPost_ret (v := .agg #[.int .i64 ac, .int .i64 ar, .int .i64 sq, .slice ad ds.length cpd, .int .i64 3, .int .i64 nc, .int .i64 nr, .int .i64 0, .int .i64 0, .int .i64 0, .int .i64 0, .string nm, .string (txt t)]) ?res3 rfl ?post3
    case res3 => exact results_cell_row rfl _ _ w.heap.size _ _ _ _ rfl FR.out Tryz.underlying26 rfl (by kernel_rfl)
    have e5 : s5.data.toList = tlW (tlW (tlW (tlW s.data.toList))) := by rw [HS5.out, HS4.out, HS3.out, HS2.out]
    refine ⟨ac, ar, sq, (.slice ad ds.length cpd), ds, 3, nc, nr, 0, 0, 0, 0, nm, (txt t), rfl, ⟨HK.out, HS2.out ▸ HA.out, ?_, ?_, s5.data.toList, s10.data.toList, s10.data.toList, s11.data.toList, e5, (if_pos (show hasNode 3 = true by decide)).mpr ⟨HP10.out, HS10.out⟩, (if_neg (show ¬ hasPlace 3 = true by decide)).mpr ⟨⟨rfl, rfl, rfl, rfl⟩, rfl⟩, (if_pos (show hasName 3 = true by decide)).mpr ⟨HP11.out, HS11.out⟩, (if_pos (show hasValue 3 = true by decide)).mpr ⟨ok, HP12.out⟩⟩, FD.out.mono (Nat.le_of_lt hN.2.2), zn, FB.out⟩
    · rw [← HS2.out, ← HS3.out]; exact HQ.out
    · rw [← HS2.out, ← HS3.out, ← HS4.out]; exact HC.out
  · rw [show hasNode 4 = true by decide, show hasPlace 4 = false by decide, show hasName 4 = true by decide, show hasValue 4 = false by decide]
    have S0 : Hid (Rs2 w g w.heap.size gc w6.heap.size N s5 #[.int .i64 ac, .int .i64 ar, .int .i64 sq, .slice ad ds.length cpd, .int .i64 4, .int .i64 ac, .int .i64 ar, .int .i64 0, .int .i64 0, .int .i64 0, .int .i64 0, .string ⟨#[]⟩, .string ⟨#[]⟩] #[.bool true, .bool false, .bool true, .bool false] (.slice ad ds.length cpd) ds (w6.alloc (.cells #[.bool true, .bool false, .bool true, .bool false] 45))) := ⟨R6.out.below ((Below.refl _ _).alloc (Nat.le_refl _) _), ⟨HD6.out.below ((Below.refl _ _).alloc (Nat.le_refl _) _), hN.1, hN.2.1, hN.2.2⟩, heap_alloc_new _ _, by have := R6.out.1.lt; omega, by have := row_lt R6.out.2.2.1; omega⟩
    obtain ⟨gh, egh⟩ : ∃ x, x = w6.heap.size := ⟨_, rfl⟩
    rw [← egh] at S0
    have HGH : Hid (gh = w6.heap.size) := egh
    clear egh
    clear R6 HD6
    have hne1 : gh ≠ gc := S0.out.2.2.2.2
    have hne2 : gc ≠ gh := fun e => hne1 e.symm
    obtain ⟨k_0, k_1, k_2, k_3, k_4, k_5, k_6, k_7, k_8, k_9, k_10, k_11, k_12⟩ := row_cells S0.out.1.2.2.1
    have fz := row_free S0.out.1.2.2.1
    obtain ⟨z_0, z_1, z_2, z_3, z_4, z_5, z_6, z_7, z_8, z_9, z_10, z_11, z_12⟩ := row_cells S0.out.1.2.1
    have fr0 := row_free S0.out.1.2.1
    have wg := cell_of_row _ _ 0 _ _ _ S0.out.1.1.2.2.2.1
    have b_0 := cell_of_row _ _ 0 _ _ _ S0.out.2.2.1
    have b_1 := cell_of_row _ _ 1 _ _ _ S0.out.2.2.1
    have b_2 := cell_of_row _ _ 2 _ _ _ S0.out.2.2.1
    have b_3 := cell_of_row _ _ 3 _ _ _ S0.out.2.2.1
    simp only [List.getElem?_toArray, List.getElem?_cons_zero, List.getElem?_cons_succ] at b_0 b_1 b_2 b_3 wg
    go_wp2_with fail
    (try rw [← HGH.out])
    refine (stampW_any w g s5 _ S0.out.1.1).mono ?_
    rintro e w10 ⟨nc, nr, s10, rfl, hst, es, hr, ho⟩
    have HP10 : Hid (StampW (hdW s5.data.toList) nc nr) := hst
    have HS10 : Hid (s10.data.toList = tlW s5.data.toList) := es
    have S10 : Hid (Rs2 w g w.heap.size gc gh N s10 #[.int .i64 ac, .int .i64 ar, .int .i64 sq, .slice ad ds.length cpd, .int .i64 4, .int .i64 ac, .int .i64 ar, .int .i64 0, .int .i64 0, .int .i64 0, .int .i64 0, .string ⟨#[]⟩, .string ⟨#[]⟩] #[.bool true, .bool false, .bool true, .bool false] (.slice ad ds.length cpd) ds w10) := S0.out.out hr ho
    clear hst es hr ho S0
    clear k_0 k_1 k_2 k_3 k_4 k_5 k_6 k_7 k_8 k_9 k_10 k_11 k_12 z_0 z_1 z_2 z_3 z_4 z_5 z_6 z_7 z_8 z_9 z_10 z_11 z_12 b_0 b_1 b_2 b_3 fz fr0 wg
    obtain ⟨k_0, k_1, k_2, k_3, k_4, k_5, k_6, k_7, k_8, k_9, k_10, k_11, k_12⟩ := row_cells S10.out.1.2.2.1
    have fz := row_free S10.out.1.2.2.1
    obtain ⟨z_0, z_1, z_2, z_3, z_4, z_5, z_6, z_7, z_8, z_9, z_10, z_11, z_12⟩ := row_cells S10.out.1.2.1
    have fr0 := row_free S10.out.1.2.1
    have wg := cell_of_row _ _ 0 _ _ _ S10.out.1.1.2.2.2.1
    have b_0 := cell_of_row _ _ 0 _ _ _ S10.out.2.2.1
    have b_1 := cell_of_row _ _ 1 _ _ _ S10.out.2.2.1
    have b_2 := cell_of_row _ _ 2 _ _ _ S10.out.2.2.1
    have b_3 := cell_of_row _ _ 3 _ _ _ S10.out.2.2.1
    simp only [List.getElem?_toArray, List.getElem?_cons_zero, List.getElem?_cons_succ] at b_0 b_1 b_2 b_3 wg
    have S10b : Hid (Rs2 w g w.heap.size gc gh N s10 #[.int .i64 ac, .int .i64 ar, .int .i64 sq, .slice ad ds.length cpd, .int .i64 4, .int .i64 nc, .int .i64 nr, .int .i64 0, .int .i64 0, .int .i64 0, .int .i64 0, .string ⟨#[]⟩, .string ⟨#[]⟩] #[.bool true, .bool false, .bool true, .bool false] (.slice ad ds.length cpd) ds ((w10.setCell ⟨gc, 5, none⟩ (.int .i64 nc)).setCell ⟨gc, 6, none⟩ (.int .i64 nr))) := ((S10.out.set 5 _).set 6 _)
    go_wp2_with fail
    refine (next_any g s10 _ S10b.out.1.1.2.2.2.1 S10b.out.1.1.2.2.2.2).mono ?_
    rintro e w11 ⟨nm, s11, rfl, ⟨en, es⟩, ⟨zn, z2⟩, hw, ho⟩
    have hr : RdSt w g s11 w11 := S10b.out.1.1.out ho hw z2
    have HP11 : Hid (nm.data.toList = hdW s10.data.toList) := en
    have HS11 : Hid (s11.data.toList = tlW s10.data.toList) := es
    have S11 : Hid (Rs2 w g w.heap.size gc gh N s11 #[.int .i64 ac, .int .i64 ar, .int .i64 sq, .slice ad ds.length cpd, .int .i64 4, .int .i64 nc, .int .i64 nr, .int .i64 0, .int .i64 0, .int .i64 0, .int .i64 0, .string ⟨#[]⟩, .string ⟨#[]⟩] #[.bool true, .bool false, .bool true, .bool false] (.slice ad ds.length cpd) ds w11) := S10b.out.out hr ho
    clear en es hr ho hw S10b
    clear k_0 k_1 k_2 k_3 k_4 k_5 k_6 k_7 k_8 k_9 k_10 k_11 k_12 z_0 z_1 z_2 z_3 z_4 z_5 z_6 z_7 z_8 z_9 z_10 z_11 z_12 b_0 b_1 b_2 b_3 fz fr0 wg
    obtain ⟨k_0, k_1, k_2, k_3, k_4, k_5, k_6, k_7, k_8, k_9, k_10, k_11, k_12⟩ := row_cells S11.out.1.2.2.1
    have fz := row_free S11.out.1.2.2.1
    obtain ⟨z_0, z_1, z_2, z_3, z_4, z_5, z_6, z_7, z_8, z_9, z_10, z_11, z_12⟩ := row_cells S11.out.1.2.1
    have fr0 := row_free S11.out.1.2.1
    have wg := cell_of_row _ _ 0 _ _ _ S11.out.1.1.2.2.2.1
    have b_0 := cell_of_row _ _ 0 _ _ _ S11.out.2.2.1
    have b_1 := cell_of_row _ _ 1 _ _ _ S11.out.2.2.1
    have b_2 := cell_of_row _ _ 2 _ _ _ S11.out.2.2.1
    have b_3 := cell_of_row _ _ 3 _ _ _ S11.out.2.2.1
    simp only [List.getElem?_toArray, List.getElem?_cons_zero, List.getElem?_cons_succ] at b_0 b_1 b_2 b_3 wg
    have S11b : Hid (Rs2 w g w.heap.size gc gh N s11 #[.int .i64 ac, .int .i64 ar, .int .i64 sq, .slice ad ds.length cpd, .int .i64 4, .int .i64 nc, .int .i64 nr, .int .i64 0, .int .i64 0, .int .i64 0, .int .i64 0, .string nm, .string ⟨#[]⟩] #[.bool true, .bool false, .bool true, .bool false] (.slice ad ds.length cpd) ds (w11.setCell ⟨gc, 11, none⟩ (.string nm))) := (S11.out.set 11 _)
    go_wp2
    have FR : Hid (((((((((((((((w11.setCell ⟨gc, 11, none⟩ (.string nm)).setCell ⟨w.heap.size, 0, none⟩ (.int .i64 ac)).setCell ⟨w.heap.size, 1, none⟩ (.int .i64 ar)).setCell ⟨w.heap.size, 2, none⟩ (.int .i64 sq)).setCell ⟨w.heap.size, 3, none⟩ (.slice ad ds.length cpd)).setCell ⟨w.heap.size, 4, none⟩ (.int .i64 4)).setCell ⟨w.heap.size, 5, none⟩ (.int .i64 nc)).setCell ⟨w.heap.size, 6, none⟩ (.int .i64 nr)).setCell ⟨w.heap.size, 7, none⟩ (.int .i64 0)).setCell ⟨w.heap.size, 8, none⟩ (.int .i64 0)).setCell ⟨w.heap.size, 9, none⟩ (.int .i64 0)).setCell ⟨w.heap.size, 10, none⟩ (.int .i64 0)).setCell ⟨w.heap.size, 11, none⟩ (.string nm)).setCell ⟨w.heap.size, 12, none⟩ (.string ⟨#[]⟩)).heap[w.heap.size]? = some (.cells #[.int .i64 ac, .int .i64 ar, .int .i64 sq, .slice ad ds.length cpd, .int .i64 4, .int .i64 nc, .int .i64 nr, .int .i64 0, .int .i64 0, .int .i64 0, .int .i64 0, .string nm, .string ⟨#[]⟩] 26)) := row_set13 S11b.out.1.2.1
    have FD : Hid (DpIs N ((((((((((((((w11.setCell ⟨gc, 11, none⟩ (.string nm)).setCell ⟨w.heap.size, 0, none⟩ (.int .i64 ac)).setCell ⟨w.heap.size, 1, none⟩ (.int .i64 ar)).setCell ⟨w.heap.size, 2, none⟩ (.int .i64 sq)).setCell ⟨w.heap.size, 3, none⟩ (.slice ad ds.length cpd)).setCell ⟨w.heap.size, 4, none⟩ (.int .i64 4)).setCell ⟨w.heap.size, 5, none⟩ (.int .i64 nc)).setCell ⟨w.heap.size, 6, none⟩ (.int .i64 nr)).setCell ⟨w.heap.size, 7, none⟩ (.int .i64 0)).setCell ⟨w.heap.size, 8, none⟩ (.int .i64 0)).setCell ⟨w.heap.size, 9, none⟩ (.int .i64 0)).setCell ⟨w.heap.size, 10, none⟩ (.int .i64 0)).setCell ⟨w.heap.size, 11, none⟩ (.string nm)).setCell ⟨w.heap.size, 12, none⟩ (.string ⟨#[]⟩)) (.slice ad ds.length cpd) ds) := by show DpIs _ _ _ _; refine DpIs.set ?_ hN.2.2; refine DpIs.set ?_ hN.2.2; refine DpIs.set ?_ hN.2.2; refine DpIs.set ?_ hN.2.2; refine DpIs.set ?_ hN.2.2; refine DpIs.set ?_ hN.2.2; refine DpIs.set ?_ hN.2.2; refine DpIs.set ?_ hN.2.2; refine DpIs.set ?_ hN.2.2; refine DpIs.set ?_ hN.2.2; refine DpIs.set ?_ hN.2.2; refine DpIs.set ?_ hN.2.2; refine DpIs.set ?_ hN.2.2; exact S11b.out.2.1.1
    have FB : Hid (Below w.heap.size w ((((((((((((((w11.setCell ⟨gc, 11, none⟩ (.string nm)).setCell ⟨w.heap.size, 0, none⟩ (.int .i64 ac)).setCell ⟨w.heap.size, 1, none⟩ (.int .i64 ar)).setCell ⟨w.heap.size, 2, none⟩ (.int .i64 sq)).setCell ⟨w.heap.size, 3, none⟩ (.slice ad ds.length cpd)).setCell ⟨w.heap.size, 4, none⟩ (.int .i64 4)).setCell ⟨w.heap.size, 5, none⟩ (.int .i64 nc)).setCell ⟨w.heap.size, 6, none⟩ (.int .i64 nr)).setCell ⟨w.heap.size, 7, none⟩ (.int .i64 0)).setCell ⟨w.heap.size, 8, none⟩ (.int .i64 0)).setCell ⟨w.heap.size, 9, none⟩ (.int .i64 0)).setCell ⟨w.heap.size, 10, none⟩ (.int .i64 0)).setCell ⟨w.heap.size, 11, none⟩ (.string nm)).setCell ⟨w.heap.size, 12, none⟩ (.string ⟨#[]⟩))) := by show Below _ _ _; refine Below.setCell ?_ (by exact Nat.le_refl _) _; refine Below.setCell ?_ (by exact Nat.le_refl _) _; refine Below.setCell ?_ (by exact Nat.le_refl _) _; refine Below.setCell ?_ (by exact Nat.le_refl _) _; refine Below.setCell ?_ (by exact Nat.le_refl _) _; refine Below.setCell ?_ (by exact Nat.le_refl _) _; refine Below.setCell ?_ (by exact Nat.le_refl _) _; refine Below.setCell ?_ (by exact Nat.le_refl _) _; refine Below.setCell ?_ (by exact Nat.le_refl _) _; refine Below.setCell ?_ (by exact Nat.le_refl _) _; refine Below.setCell ?_ (by exact Nat.le_refl _) _; refine Below.setCell ?_ (by exact Nat.le_refl _) _; refine Below.setCell ?_ (by exact Nat.le_refl _) _; exact S11b.out.1.1.2.1
    (try simp only [Exit.inBlock, Exit.then])
    refine bodyPost_ret (v := .agg #[.int .i64 ac, .int .i64 ar, .int .i64 sq, .slice ad ds.length cpd, .int .i64 4, .int .i64 nc, .int .i64 nr, .int .i64 0, .int .i64 0, .int .i64 0, .int .i64 0, .string nm, .string ⟨#[]⟩]) ?res4 rfl ?post4
    case res4 => exact results_cell_row rfl _ _ w.heap.size _ _ _ _ rfl FR.out Tryz.underlying26 rfl (by kernel_rfl)
    have e5 : s5.data.toList = tlW (tlW (tlW (tlW s.data.toList))) := by rw [HS5.out, HS4.out, HS3.out, HS2.out]
    refine ⟨ac, ar, sq, (.slice ad ds.length cpd), ds, 4, nc, nr, 0, 0, 0, 0, nm, ⟨#[]⟩, rfl, ⟨HK.out, HS2.out ▸ HA.out, ?_, ?_, s5.data.toList, s10.data.toList, s10.data.toList, s11.data.toList, e5, (if_pos (show hasNode 4 = true by decide)).mpr ⟨HP10.out, HS10.out⟩, (if_neg (show ¬ hasPlace 4 = true by decide)).mpr ⟨⟨rfl, rfl, rfl, rfl⟩, rfl⟩, (if_pos (show hasName 4 = true by decide)).mpr ⟨HP11.out, HS11.out⟩, (if_neg (show ¬ hasValue 4 = true by decide)).mpr rfl⟩, FD.out.mono (Nat.le_of_lt hN.2.2), zn, FB.out⟩
    · rw [← HS2.out, ← HS3.out]; exact HQ.out
    · rw [← HS2.out, ← HS3.out, ← HS4.out]; exact HC.out
  · rw [show hasNode 5 = true by decide, show hasPlace 5 = false by decide, show hasName 5 = false by decide, show hasValue 5 = true by decide]
    have S0 : Hid (Rs2 w g w.heap.size gc w6.heap.size N s5 #[.int .i64 ac, .int .i64 ar, .int .i64 sq, .slice ad ds.length cpd, .int .i64 5, .int .i64 ac, .int .i64 ar, .int .i64 0, .int .i64 0, .int .i64 0, .int .i64 0, .string ⟨#[]⟩, .string ⟨#[]⟩] #[.bool true, .bool false, .bool false, .bool true] (.slice ad ds.length cpd) ds (w6.alloc (.cells #[.bool true, .bool false, .bool false, .bool true] 45))) := ⟨R6.out.below ((Below.refl _ _).alloc (Nat.le_refl _) _), ⟨HD6.out.below ((Below.refl _ _).alloc (Nat.le_refl _) _), hN.1, hN.2.1, hN.2.2⟩, heap_alloc_new _ _, by have := R6.out.1.lt; omega, by have := row_lt R6.out.2.2.1; omega⟩
    obtain ⟨gh, egh⟩ : ∃ x, x = w6.heap.size := ⟨_, rfl⟩
    rw [← egh] at S0
    have HGH : Hid (gh = w6.heap.size) := egh
    clear egh
    clear R6 HD6
    have hne1 : gh ≠ gc := S0.out.2.2.2.2
    have hne2 : gc ≠ gh := fun e => hne1 e.symm
    obtain ⟨k_0, k_1, k_2, k_3, k_4, k_5, k_6, k_7, k_8, k_9, k_10, k_11, k_12⟩ := row_cells S0.out.1.2.2.1
    have fz := row_free S0.out.1.2.2.1
    obtain ⟨z_0, z_1, z_2, z_3, z_4, z_5, z_6, z_7, z_8, z_9, z_10, z_11, z_12⟩ := row_cells S0.out.1.2.1
    have fr0 := row_free S0.out.1.2.1
    have wg := cell_of_row _ _ 0 _ _ _ S0.out.1.1.2.2.2.1
    have b_0 := cell_of_row _ _ 0 _ _ _ S0.out.2.2.1
    have b_1 := cell_of_row _ _ 1 _ _ _ S0.out.2.2.1
    have b_2 := cell_of_row _ _ 2 _ _ _ S0.out.2.2.1
    have b_3 := cell_of_row _ _ 3 _ _ _ S0.out.2.2.1
    simp only [List.getElem?_toArray, List.getElem?_cons_zero, List.getElem?_cons_succ] at b_0 b_1 b_2 b_3 wg
    go_wp2_with fail
    (try rw [← HGH.out])
    refine (stampW_any w g s5 _ S0.out.1.1).mono ?_
    rintro e w10 ⟨nc, nr, s10, rfl, hst, es, hr, ho⟩
    have HP10 : Hid (StampW (hdW s5.data.toList) nc nr) := hst
    have HS10 : Hid (s10.data.toList = tlW s5.data.toList) := es
    have S10 : Hid (Rs2 w g w.heap.size gc gh N s10 #[.int .i64 ac, .int .i64 ar, .int .i64 sq, .slice ad ds.length cpd, .int .i64 5, .int .i64 ac, .int .i64 ar, .int .i64 0, .int .i64 0, .int .i64 0, .int .i64 0, .string ⟨#[]⟩, .string ⟨#[]⟩] #[.bool true, .bool false, .bool false, .bool true] (.slice ad ds.length cpd) ds w10) := S0.out.out hr ho
    clear hst es hr ho S0
    clear k_0 k_1 k_2 k_3 k_4 k_5 k_6 k_7 k_8 k_9 k_10 k_11 k_12 z_0 z_1 z_2 z_3 z_4 z_5 z_6 z_7 z_8 z_9 z_10 z_11 z_12 b_0 b_1 b_2 b_3 fz fr0 wg
    obtain ⟨k_0, k_1, k_2, k_3, k_4, k_5, k_6, k_7, k_8, k_9, k_10, k_11, k_12⟩ := row_cells S10.out.1.2.2.1
    have fz := row_free S10.out.1.2.2.1
    obtain ⟨z_0, z_1, z_2, z_3, z_4, z_5, z_6, z_7, z_8, z_9, z_10, z_11, z_12⟩ := row_cells S10.out.1.2.1
    have fr0 := row_free S10.out.1.2.1
    have wg := cell_of_row _ _ 0 _ _ _ S10.out.1.1.2.2.2.1
    have b_0 := cell_of_row _ _ 0 _ _ _ S10.out.2.2.1
    have b_1 := cell_of_row _ _ 1 _ _ _ S10.out.2.2.1
    have b_2 := cell_of_row _ _ 2 _ _ _ S10.out.2.2.1
    have b_3 := cell_of_row _ _ 3 _ _ _ S10.out.2.2.1
    simp only [List.getElem?_toArray, List.getElem?_cons_zero, List.getElem?_cons_succ] at b_0 b_1 b_2 b_3 wg
    have S10b : Hid (Rs2 w g w.heap.size gc gh N s10 #[.int .i64 ac, .int .i64 ar, .int .i64 sq, .slice ad ds.length cpd, .int .i64 5, .int .i64 nc, .int .i64 nr, .int .i64 0, .int .i64 0, .int .i64 0, .int .i64 0, .string ⟨#[]⟩, .string ⟨#[]⟩] #[.bool true, .bool false, .bool false, .bool true] (.slice ad ds.length cpd) ds ((w10.setCell ⟨gc, 5, none⟩ (.int .i64 nc)).setCell ⟨gc, 6, none⟩ (.int .i64 nr))) := ((S10.out.set 5 _).set 6 _)
    have HLs10 : Hid (s10.data.toList.length ≤ s.size) := by show _ ≤ _; rw [HS10.out]; exact Nat.le_trans (tlW_len _) HLs5.out
    go_wp2_with fail
    refine (unquote_any s10 (HZ.out s10 HLs10.out) _).mono ?_
    rintro e w11 ⟨t, ok, rfl, hu, htl, hb⟩
    have HP11 : Hid (UnqIs s10.data.toList t ok) := hu
    have S11 : Hid (Rs2 w g w.heap.size gc gh N s10 #[.int .i64 ac, .int .i64 ar, .int .i64 sq, .slice ad ds.length cpd, .int .i64 5, .int .i64 nc, .int .i64 nr, .int .i64 0, .int .i64 0, .int .i64 0, .int .i64 0, .string ⟨#[]⟩, .string ⟨#[]⟩] #[.bool true, .bool false, .bool false, .bool true] (.slice ad ds.length cpd) ds w11) := S10b.out.below hb
    clear hu hb S10b
    clear k_0 k_1 k_2 k_3 k_4 k_5 k_6 k_7 k_8 k_9 k_10 k_11 k_12 z_0 z_1 z_2 z_3 z_4 z_5 z_6 z_7 z_8 z_9 z_10 z_11 z_12 b_0 b_1 b_2 b_3 fz fr0 wg
    obtain ⟨k_0, k_1, k_2, k_3, k_4, k_5, k_6, k_7, k_8, k_9, k_10, k_11, k_12⟩ := row_cells S11.out.1.2.2.1
    have fz := row_free S11.out.1.2.2.1
    obtain ⟨z_0, z_1, z_2, z_3, z_4, z_5, z_6, z_7, z_8, z_9, z_10, z_11, z_12⟩ := row_cells S11.out.1.2.1
    have fr0 := row_free S11.out.1.2.1
    have wg := cell_of_row _ _ 0 _ _ _ S11.out.1.1.2.2.2.1
    have b_0 := cell_of_row _ _ 0 _ _ _ S11.out.2.2.1
    have b_1 := cell_of_row _ _ 1 _ _ _ S11.out.2.2.1
    have b_2 := cell_of_row _ _ 2 _ _ _ S11.out.2.2.1
    have b_3 := cell_of_row _ _ 3 _ _ _ S11.out.2.2.1
    simp only [List.getElem?_toArray, List.getElem?_cons_zero, List.getElem?_cons_succ] at b_0 b_1 b_2 b_3 wg
    have S11b : Hid (Rs2 w g w.heap.size gc gh N s10 #[.int .i64 ac, .int .i64 ar, .int .i64 sq, .slice ad ds.length cpd, .int .i64 5, .int .i64 nc, .int .i64 nr, .int .i64 0, .int .i64 0, .int .i64 0, .int .i64 0, .string ⟨#[]⟩, .string (txt t)] #[.bool true, .bool false, .bool false, .bool true] (.slice ad ds.length cpd) ds (w11.setCell ⟨gc, 12, none⟩ (.string (txt t)))) := (S11.out.set 12 _)
    go_wp2
    have FR : Hid (((((((((((((((w11.setCell ⟨gc, 12, none⟩ (.string (txt t))).setCell ⟨w.heap.size, 0, none⟩ (.int .i64 ac)).setCell ⟨w.heap.size, 1, none⟩ (.int .i64 ar)).setCell ⟨w.heap.size, 2, none⟩ (.int .i64 sq)).setCell ⟨w.heap.size, 3, none⟩ (.slice ad ds.length cpd)).setCell ⟨w.heap.size, 4, none⟩ (.int .i64 5)).setCell ⟨w.heap.size, 5, none⟩ (.int .i64 nc)).setCell ⟨w.heap.size, 6, none⟩ (.int .i64 nr)).setCell ⟨w.heap.size, 7, none⟩ (.int .i64 0)).setCell ⟨w.heap.size, 8, none⟩ (.int .i64 0)).setCell ⟨w.heap.size, 9, none⟩ (.int .i64 0)).setCell ⟨w.heap.size, 10, none⟩ (.int .i64 0)).setCell ⟨w.heap.size, 11, none⟩ (.string ⟨#[]⟩)).setCell ⟨w.heap.size, 12, none⟩ (.string (txt t))).heap[w.heap.size]? = some (.cells #[.int .i64 ac, .int .i64 ar, .int .i64 sq, .slice ad ds.length cpd, .int .i64 5, .int .i64 nc, .int .i64 nr, .int .i64 0, .int .i64 0, .int .i64 0, .int .i64 0, .string ⟨#[]⟩, .string (txt t)] 26)) := row_set13 S11b.out.1.2.1
    have FD : Hid (DpIs N ((((((((((((((w11.setCell ⟨gc, 12, none⟩ (.string (txt t))).setCell ⟨w.heap.size, 0, none⟩ (.int .i64 ac)).setCell ⟨w.heap.size, 1, none⟩ (.int .i64 ar)).setCell ⟨w.heap.size, 2, none⟩ (.int .i64 sq)).setCell ⟨w.heap.size, 3, none⟩ (.slice ad ds.length cpd)).setCell ⟨w.heap.size, 4, none⟩ (.int .i64 5)).setCell ⟨w.heap.size, 5, none⟩ (.int .i64 nc)).setCell ⟨w.heap.size, 6, none⟩ (.int .i64 nr)).setCell ⟨w.heap.size, 7, none⟩ (.int .i64 0)).setCell ⟨w.heap.size, 8, none⟩ (.int .i64 0)).setCell ⟨w.heap.size, 9, none⟩ (.int .i64 0)).setCell ⟨w.heap.size, 10, none⟩ (.int .i64 0)).setCell ⟨w.heap.size, 11, none⟩ (.string ⟨#[]⟩)).setCell ⟨w.heap.size, 12, none⟩ (.string (txt t))) (.slice ad ds.length cpd) ds) := by show DpIs _ _ _ _; refine DpIs.set ?_ hN.2.2; refine DpIs.set ?_ hN.2.2; refine DpIs.set ?_ hN.2.2; refine DpIs.set ?_ hN.2.2; refine DpIs.set ?_ hN.2.2; refine DpIs.set ?_ hN.2.2; refine DpIs.set ?_ hN.2.2; refine DpIs.set ?_ hN.2.2; refine DpIs.set ?_ hN.2.2; refine DpIs.set ?_ hN.2.2; refine DpIs.set ?_ hN.2.2; refine DpIs.set ?_ hN.2.2; refine DpIs.set ?_ hN.2.2; exact S11b.out.2.1.1
    have FB : Hid (Below w.heap.size w ((((((((((((((w11.setCell ⟨gc, 12, none⟩ (.string (txt t))).setCell ⟨w.heap.size, 0, none⟩ (.int .i64 ac)).setCell ⟨w.heap.size, 1, none⟩ (.int .i64 ar)).setCell ⟨w.heap.size, 2, none⟩ (.int .i64 sq)).setCell ⟨w.heap.size, 3, none⟩ (.slice ad ds.length cpd)).setCell ⟨w.heap.size, 4, none⟩ (.int .i64 5)).setCell ⟨w.heap.size, 5, none⟩ (.int .i64 nc)).setCell ⟨w.heap.size, 6, none⟩ (.int .i64 nr)).setCell ⟨w.heap.size, 7, none⟩ (.int .i64 0)).setCell ⟨w.heap.size, 8, none⟩ (.int .i64 0)).setCell ⟨w.heap.size, 9, none⟩ (.int .i64 0)).setCell ⟨w.heap.size, 10, none⟩ (.int .i64 0)).setCell ⟨w.heap.size, 11, none⟩ (.string ⟨#[]⟩)).setCell ⟨w.heap.size, 12, none⟩ (.string (txt t)))) := by show Below _ _ _; refine Below.setCell ?_ (by exact Nat.le_refl _) _; refine Below.setCell ?_ (by exact Nat.le_refl _) _; refine Below.setCell ?_ (by exact Nat.le_refl _) _; refine Below.setCell ?_ (by exact Nat.le_refl _) _; refine Below.setCell ?_ (by exact Nat.le_refl _) _; refine Below.setCell ?_ (by exact Nat.le_refl _) _; refine Below.setCell ?_ (by exact Nat.le_refl _) _; refine Below.setCell ?_ (by exact Nat.le_refl _) _; refine Below.setCell ?_ (by exact Nat.le_refl _) _; refine Below.setCell ?_ (by exact Nat.le_refl _) _; refine Below.setCell ?_ (by exact Nat.le_refl _) _; refine Below.setCell ?_ (by exact Nat.le_refl _) _; refine Below.setCell ?_ (by exact Nat.le_refl _) _; exact S11b.out.1.1.2.1
    (try simp only [Exit.inBlock, Exit.then])
    refine bodyPost_ret (v := .agg #[.int .i64 ac, .int .i64 ar, .int .i64 sq, .slice ad ds.length cpd, .int .i64 5, .int .i64 nc, .int .i64 nr, .int .i64 0, .int .i64 0, .int .i64 0, .int .i64 0, .string ⟨#[]⟩, .string (txt t)]) ?res5 rfl ?post5
    case res5 => exact results_cell_row rfl _ _ w.heap.size _ _ _ _ rfl FR.out Tryz.underlying26 rfl (by kernel_rfl)
    have e5 : s5.data.toList = tlW (tlW (tlW (tlW s.data.toList))) := by rw [HS5.out, HS4.out, HS3.out, HS2.out]
    refine ⟨ac, ar, sq, (.slice ad ds.length cpd), ds, 5, nc, nr, 0, 0, 0, 0, ⟨#[]⟩, (txt t), rfl, ⟨HK.out, HS2.out ▸ HA.out, ?_, ?_, s5.data.toList, s10.data.toList, s10.data.toList, s10.data.toList, e5, (if_pos (show hasNode 5 = true by decide)).mpr ⟨HP10.out, HS10.out⟩, (if_neg (show ¬ hasPlace 5 = true by decide)).mpr ⟨⟨rfl, rfl, rfl, rfl⟩, rfl⟩, (if_neg (show ¬ hasName 5 = true by decide)).mpr ⟨rfl, rfl⟩, (if_pos (show hasValue 5 = true by decide)).mpr ⟨ok, HP11.out⟩⟩, FD.out.mono (Nat.le_of_lt hN.2.2), (by simp [ByteArray.size]), FB.out⟩
    · rw [← HS2.out, ← HS3.out]; exact HQ.out
    · rw [← HS2.out, ← HS3.out, ← HS4.out]; exact HC.out

end Go.Proofs.YtaocjmipjibiaabGreatDoor
