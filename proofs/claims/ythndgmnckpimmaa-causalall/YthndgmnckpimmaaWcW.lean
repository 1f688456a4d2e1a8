/- What isNameRight and checkValue do, for every change. -/
import Derived.Test.YthndgmnckpimmaaWcN
namespace Go.Proofs.Ythndgmnckpimmaa
open Go.RowKit
set_option linter.unusedVariables false
set_option linter.unusedSimpArgs false

set_option maxRecDepth 100000 in
set_option maxHeartbeats 4000000 in
theorem isNameRight_any (ac ar sq : Int) (dv : Value) (kd nc nr pc pr fc fr : Int) (nm vl : ByteArray) (ds : List Int) (hs : nm.size ≤ 281474976710656) (w : World) :
    Calls Try.prog 75 #[.agg #[.int .i64 ac, .int .i64 ar, .int .i64 sq, dv, .int .i64 kd, .int .i64 nc, .int .i64 nr, .int .i64 pc, .int .i64 pr, .int .i64 fc, .int .i64 fr, .string nm, .string vl]] w fun e w' => e = .returned (.bool (nameR ⟨ac, ar, sq, ds, kd, nc, nr, pc, pr, fc, fr, nm, vl⟩)) ∧ Below w.heap.size w w' := by
  unfold nameR
  have hf1 := fld1
  have hf2 := fld2
  have hf3 := fld3
  have K0 := KeptC.start w #[.int .i64 ac, .int .i64 ar, .int .i64 sq, dv, .int .i64 kd, .int .i64 nc, .int .i64 nr, .int .i64 pc, .int .i64 pr, .int .i64 fc, .int .i64 fr, .string nm, .string vl].toList 35
  cases hp : hasName kd
  · rw [if_neg (by simp)]
    by_cases h1 : nm.size = 0
    · have q : (nm.toList == []) = true := by rw [bytes_none h1]; simp [ByteArray.toList_eq]
      go_enter Try.func75, Try.ntmps75
      go_wp2_with fail
      refine (fieldsOf_any _ _).mono ?_
      rintro e w1 ⟨rfl, hb1⟩
      rw [hp]
      have K1 := K0.step hb1
      obtain ⟨k1_0, k1_1, k1_2, k1_3, k1_4, k1_5, k1_6, k1_7, k1_8, k1_9, k1_10, k1_11, k1_12⟩ := K1.all
      go_wp2
      go_ret
      exact ⟨ret_bool (by simp [h1]), K1.2.2⟩
    · have q : (nm.toList == []) = false := by rw [beq_eq_false_iff_ne]; intro e; exact h1 (by rw [← size_list, ← ByteArray.toList_eq, e]; rfl)
      go_enter Try.func75, Try.ntmps75
      go_wp2_with fail
      refine (fieldsOf_any _ _).mono ?_
      rintro e w1 ⟨rfl, hb1⟩
      rw [hp]
      have K1 := K0.step hb1
      obtain ⟨k1_0, k1_1, k1_2, k1_3, k1_4, k1_5, k1_6, k1_7, k1_8, k1_9, k1_10, k1_11, k1_12⟩ := K1.all
      go_wp2
      go_ret
      exact ⟨ret_bool (by simp [h1]), K1.2.2⟩
  · rw [if_pos rfl]
    go_enter Try.func75, Try.ntmps75
    go_wp2_with fail
    refine (fieldsOf_any _ _).mono ?_
    rintro e w1 ⟨rfl, hb1⟩
    rw [hp]
    have K1 := K0.step hb1
    obtain ⟨k1_0, k1_1, k1_2, k1_3, k1_4, k1_5, k1_6, k1_7, k1_8, k1_9, k1_10, k1_11, k1_12⟩ := K1.all
    go_wp2_with fail
    refine (name_any nm hs _).mono ?_
    rintro e w2 ⟨rfl, hw⟩
    replace hw := hw.symm
    subst hw
    go_wp2
    go_ret
    exact ⟨rfl, K1.2.2⟩

set_option maxRecDepth 100000 in
set_option maxHeartbeats 4000000 in
theorem checkValue_any (ac ar sq : Int) (dv : Value) (kd nc nr pc pr fc fr : Int) (nm vl : ByteArray) (ds : List Int) (w : World) :
    Calls Try.prog 76 #[.agg #[.int .i64 ac, .int .i64 ar, .int .i64 sq, dv, .int .i64 kd, .int .i64 nc, .int .i64 nr, .int .i64 pc, .int .i64 pr, .int .i64 fc, .int .i64 fr, .string nm, .string vl]] w fun e w' => e = .returned (.int .i64 (valueE ⟨ac, ar, sq, ds, kd, nc, nr, pc, pr, fc, fr, nm, vl⟩)) ∧ Below w.heap.size w w' := by
  have hf1 := fld1
  have hf2 := fld2
  have hf3 := fld3
  have K0 := KeptC.start w #[.int .i64 ac, .int .i64 ar, .int .i64 sq, dv, .int .i64 kd, .int .i64 nc, .int .i64 nr, .int .i64 pc, .int .i64 pr, .int .i64 fc, .int .i64 fr, .string nm, .string vl].toList 35
  by_cases h0 : 256 < vl.size
  · have HE : Hid (valueE ⟨ac, ar, sq, ds, kd, nc, nr, pc, pr, fc, fr, nm, vl⟩ = 3) := by show _ = _; simp [valueE, h0]
    have q0 : (256 : Int) < (vl.size : Int) := by omega
    go_enter Try.func76, Try.ntmps76
    go_wp2
    go_ret
    exact ⟨ret_i HE.out.symm, K0.2.2⟩
  · have q0 : ¬ (256 : Int) < (vl.size : Int) := by omega
    cases hp : hasValue kd
    · by_cases h1 : vl.size = 0
      · have q : (vl.toList != []) = false := by rw [bytes_none h1]; simp [ByteArray.toList_eq]
        have q9 : (vl.toList == []) = true := by rw [← Bool.not_inj_iff]; exact q
        have HE : Hid (valueE ⟨ac, ar, sq, ds, kd, nc, nr, pc, pr, fc, fr, nm, vl⟩ = 0) := by show _ = _; simp [valueE, h0, hp, h1]
        clear h1 h0
        go_enter Try.func76, Try.ntmps76
        go_wp2_with fail
        refine (fieldsOf_any _ _).mono ?_
        rintro e w1 ⟨rfl, hb1⟩
        rw [hp]
        have K1 := K0.step hb1
        obtain ⟨k1_0, k1_1, k1_2, k1_3, k1_4, k1_5, k1_6, k1_7, k1_8, k1_9, k1_10, k1_11, k1_12⟩ := K1.all
        go_wp2
        go_ret
        exact ⟨ret_i HE.out.symm, K1.2.2⟩
      · have q : (vl.toList != []) = true := by rw [bne_iff_ne]; intro e; exact h1 (by rw [← size_list, ← ByteArray.toList_eq, e]; rfl)
        have q9 : (vl.toList == []) = false := by rw [← Bool.not_inj_iff]; exact q
        have HE : Hid (valueE ⟨ac, ar, sq, ds, kd, nc, nr, pc, pr, fc, fr, nm, vl⟩ = 2) := by show _ = _; simp [valueE, h0, hp, h1]
        clear h1 h0
        go_enter Try.func76, Try.ntmps76
        go_wp2_with fail
        refine (fieldsOf_any _ _).mono ?_
        rintro e w1 ⟨rfl, hb1⟩
        rw [hp]
        have K1 := K0.step hb1
        obtain ⟨k1_0, k1_1, k1_2, k1_3, k1_4, k1_5, k1_6, k1_7, k1_8, k1_9, k1_10, k1_11, k1_12⟩ := K1.all
        go_wp2
        go_ret
        exact ⟨ret_i HE.out.symm, K1.2.2⟩
    · have HE : Hid (valueE ⟨ac, ar, sq, ds, kd, nc, nr, pc, pr, fc, fr, nm, vl⟩ = 0) := by show _ = _; simp [valueE, h0, hp]
      clear h0
      go_enter Try.func76, Try.ntmps76
      go_wp2_with fail
      refine (fieldsOf_any _ _).mono ?_
      rintro e w1 ⟨rfl, hb1⟩
      rw [hp]
      have K1 := K0.step hb1
      obtain ⟨k1_0, k1_1, k1_2, k1_3, k1_4, k1_5, k1_6, k1_7, k1_8, k1_9, k1_10, k1_11, k1_12⟩ := K1.all
      go_wp2
      go_ret
      exact ⟨ret_i HE.out.symm, K1.2.2⟩

end Go.Proofs.Ythndgmnckpimmaa
