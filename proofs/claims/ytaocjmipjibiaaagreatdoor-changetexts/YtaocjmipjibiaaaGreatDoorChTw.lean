/- The document's Text of any change; the walk of ChangeTexts: for every change it returns true. -/
import Derived.Test.YtaocjmipjibiaaaGreatDoorChRt
import Derived.Test.YtaocjmipjibiaaaGreatDoorChWk
namespace Go.Proofs.YtaocjmipjibiaaaGreatDoor
open Go.RowKit
set_option linter.unusedVariables false
set_option linter.unusedSimpArgs false

set_option maxRecDepth 100000 in
set_option maxHeartbeats 4000000 in
/-- The document's Text. -/
theorem refTextCh_any (ac ar sq : Int) (dv : Value) (kd nc nr pc pr fc fr : Int) (nm vl : ByteArray) (ds : List Int) (hs : nm.size ≤ 281474976710656) (w : World) (h1 : IsI w dv ds) :
    Calls Tryz.prog 28 #[.agg #[.int .i64 ac, .int .i64 ar, .int .i64 sq, dv, .int .i64 kd, .int .i64 nc, .int .i64 nr, .int .i64 pc, .int .i64 pr, .int .i64 fc, .int .i64 fr, .string nm, .string vl]] w fun e w' => e = .returned (.tuple #[.string (txt (if checkCh ⟨ac, ar, sq, ds, kd, nc, nr, pc, pr, fc, fr, nm, vl⟩ = 0 then textCh ⟨ac, ar, sq, ds, kd, nc, nr, pc, pr, fc, fr, nm, vl⟩ else [])), .int .i64 (checkCh ⟨ac, ar, sq, ds, kd, nc, nr, pc, pr, fc, fr, nm, vl⟩)]) ∧ Below w.heap.size w w' := by
  by_cases hc : checkCh ⟨ac, ar, sq, ds, kd, nc, nr, pc, pr, fc, fr, nm, vl⟩ = 0
  · rw [if_pos hc, hc]
    exact refTextCh_ok ac ar sq dv kd nc nr pc pr fc fr nm vl ds hs w h1 hc
  · rw [if_neg hc]
    have K0 := KeptC.start w #[.int .i64 ac, .int .i64 ar, .int .i64 sq, dv, .int .i64 kd, .int .i64 nc, .int .i64 nr, .int .i64 pc, .int .i64 pr, .int .i64 fc, .int .i64 fr, .string nm, .string vl].toList 26
    have H1 : Hid (IsI w dv ds) := h1
    have q : (checkCh ⟨ac, ar, sq, ds, kd, nc, nr, pc, pr, fc, fr, nm, vl⟩ != 0) = true := by simp [hc]
    clear h1 hc
    go_enter Tryz.func28, Tryz.ntmps28
    go_wp2_with fail
    refine (refCheckCh_any ac ar sq dv kd nc nr pc pr fc fr nm vl ds hs _ (H1.out.below K0.2.2)).mono ?_
    rintro e w1 ⟨rfl, hb1⟩
    have K1 := K0.step hb1
    clear hb1
    obtain ⟨k_0, k_1, k_2, k_3, k_4, k_5, k_6, k_7, k_8, k_9, k_10, k_11, k_12⟩ := K1.all
    go_wp2_with fail
    refine (refCheckCh_any ac ar sq dv kd nc nr pc pr fc fr nm vl ds hs _ (H1.out.below K1.2.2)).mono ?_
    rintro e w2 ⟨rfl, hb2⟩
    have K2 := K1.step hb2
    clear hb2
    go_wp2
    go_ret2
    exact ⟨rfl, K2.2.2⟩

set_option maxRecDepth 100000 in
set_option maxHeartbeats 4000000 in
theorem changeTexts_walk (ac ar sq : Int) (dv : Value) (kd nc nr pc pr fc fr : Int) (nm vl : ByteArray) (ds : List Int) (w : World) (h1 : IsI w dv ds) (hnm : nm.size ≤ 281474976710656) (he : Env w) :
    Calls Tryz.prog 7 #[.agg #[.int .i64 ac, .int .i64 ar, .int .i64 sq, dv, .int .i64 kd, .int .i64 nc, .int .i64 nr, .int .i64 pc, .int .i64 pr, .int .i64 fc, .int .i64 fr, .string nm, .string vl]] w fun e w' => e = .returned (.bool true) ∧ Below w.heap.size w w' := by
  have K0 := KeptC.start w #[.int .i64 ac, .int .i64 ar, .int .i64 sq, dv, .int .i64 kd, .int .i64 nc, .int .i64 nr, .int .i64 pc, .int .i64 pr, .int .i64 fc, .int .i64 fr, .string nm, .string vl].toList 26
  have H1 : Hid (IsI w dv ds) := h1
  have HEnv : Hid (Env w) := he
  clear h1 he
  obtain ⟨t, et⟩ : ∃ t : ByteArray, t = txt (if checkCh ⟨ac, ar, sq, ds, kd, nc, nr, pc, pr, fc, fr, nm, vl⟩ = 0 then textCh ⟨ac, ar, sq, ds, kd, nc, nr, pc, pr, fc, fr, nm, vl⟩ else []) := ⟨_, rfl⟩
  obtain ⟨k, ek⟩ : ∃ k : Int, k = checkCh ⟨ac, ar, sq, ds, kd, nc, nr, pc, pr, fc, fr, nm, vl⟩ := ⟨_, rfl⟩
  have HT : Hid (∀ W, IsI W dv ds → Env W → Calls Tryz.prog 27 #[.agg #[.int .i64 ac, .int .i64 ar, .int .i64 sq, dv, .int .i64 kd, .int .i64 nc, .int .i64 nr, .int .i64 pc, .int .i64 pr, .int .i64 fc, .int .i64 fr, .string nm, .string vl]] W fun e w' => e = .returned (.tuple #[.string t, .int .i64 k]) ∧ Below W.heap.size W w') := fun W hW hE => by rw [et, ek]; exact textCh_any ac ar sq dv kd nc nr pc pr fc fr nm vl ds hnm W hW hE
  have HR : Hid (∀ W, IsI W dv ds → Calls Tryz.prog 28 #[.agg #[.int .i64 ac, .int .i64 ar, .int .i64 sq, dv, .int .i64 kd, .int .i64 nc, .int .i64 nr, .int .i64 pc, .int .i64 pr, .int .i64 fc, .int .i64 fr, .string nm, .string vl]] W fun e w' => e = .returned (.tuple #[.string t, .int .i64 k]) ∧ Below W.heap.size W w') := fun W hW => by rw [et, ek]; exact refTextCh_any ac ar sq dv kd nc nr pc pr fc fr nm vl ds hnm W hW
  clear et ek
  have q1 : (t.toList == t.toList) = true := by simp
  have q2 : (k == k) = true := by simp
  go_enter Tryz.func7, Tryz.ntmps7
  go_wp2_with fail
  refine (HT.out _ (H1.out.below K0.2.2) (HEnv.out.below K0.2.2)).mono ?_
  rintro e w1 ⟨rfl, hb1⟩
  have K1 := K0.step hb1
  clear hb1
  obtain ⟨k_0, k_1, k_2, k_3, k_4, k_5, k_6, k_7, k_8, k_9, k_10, k_11, k_12⟩ := K1.all
  go_wp2_with fail
  refine (HR.out _ (H1.out.below K1.2.2)).mono ?_
  rintro e w2 ⟨rfl, hb2⟩
  have K2 := K1.step hb2
  clear hb2 k_0 k_1 k_2 k_3 k_4 k_5 k_6 k_7 k_8 k_9 k_10 k_11 k_12
  go_wp2_with fail
  refine (awake5_any _ (HEnv.out.below K2.2.2)).mono ?_
  rintro e w3 ⟨rfl, hb3⟩
  have K3 := K2.step hb3
  go_wp2
  go_ret
  exact ⟨rfl, K3.2.2⟩

end Go.Proofs.YtaocjmipjibiaaaGreatDoor
