/- The walk of WirePuts. -/
import Derived.Test.YtlioiblpcpaejaaXM
import Derived.Test.YtlioiblpcpaejaaXWdP
import Derived.Test.YtlioiblpcpaejaaXWdQ
namespace Go.Proofs.Ytlioiblpcpaejaa
open Go.RowKit
set_option linter.unusedVariables false
set_option linter.unusedSimpArgs false

theorem putCh_lenP (c : Ch) : (putCh c).1.length ≤ 1000 := by
  unfold putCh
  split
  · rename_i h; exact bytesCh_len h
  · simp

set_option maxRecDepth 100000 in
set_option maxHeartbeats 8000000 in
theorem wirePuts_walk (ac ar sq : Int) (dv : Value) (kd nc nr pc pr fc fr : Int) (nm vl : ByteArray) (ds : List Int) (w : World) (h1 : IsI w dv ds) (hs : nm.size ≤ 281474976710656) :
    Calls Try.prog 3 #[.agg #[.int .i64 ac, .int .i64 ar, .int .i64 sq, dv, .int .i64 kd, .int .i64 nc, .int .i64 nr, .int .i64 pc, .int .i64 pr, .int .i64 fc, .int .i64 fr, .string nm, .string vl]] w fun e w' => e = .returned (.bool true) ∧ Below w.heap.size w w' := by
  obtain ⟨a0, c0, e0⟩ := h1.form
  subst e0
  have hdl : ds.length ≤ 17592186044416 := by obtain ⟨_, _, _, _, h, _⟩ := h1; exact h
  have K0 := KeptC.start w [.int .i64 ac, .int .i64 ar, .int .i64 sq, .slice a0 ds.length c0, .int .i64 kd, .int .i64 nc, .int .i64 nr, .int .i64 pc, .int .i64 pr, .int .i64 fc, .int .i64 fr, .string nm, .string vl] 26
  have H1 : Hid (IsI w (.slice a0 ds.length c0) ds) := h1
  have hwl := putCh_lenP ⟨ac, ar, sq, ds, kd, nc, nr, pc, pr, fc, fr, nm, vl⟩
  obtain ⟨⟨B, ee⟩, eW⟩ : ∃ r, putCh ⟨ac, ar, sq, ds, kd, nc, nr, pc, pr, fc, fr, nm, vl⟩ = r := ⟨_, rfl⟩
  have C1 : Hid (∀ W a c, IsI W (.slice a ds.length c) ds → Calls Try.prog 8 #[.agg #[.int .i64 ac, .int .i64 ar, .int .i64 sq, .slice a ds.length c, .int .i64 kd, .int .i64 nc, .int .i64 nr, .int .i64 pc, .int .i64 pr, .int .i64 fc, .int .i64 fr, .string nm, .string vl]] W fun e w' => ∃ v, e = .returned (.tuple #[v, .int .i64 ee]) ∧ OwnB W.heap.size w' v B ∧ Below W.heap.size W w') := fun W a c i1 => by
    have := putCh_any ac ar sq a ds c kd nc nr pc pr fc fr nm vl hs W i1
    rw [eW] at this
    exact this
  have C2 : Hid (∀ W, IsI W (.slice a0 ds.length c0) ds → Calls Try.prog 10 #[.agg #[.int .i64 ac, .int .i64 ar, .int .i64 sq, .slice a0 ds.length c0, .int .i64 kd, .int .i64 nc, .int .i64 nr, .int .i64 pc, .int .i64 pr, .int .i64 fc, .int .i64 fr, .string nm, .string vl]] W fun e w' => ∃ v, e = .returned (.tuple #[v, .int .i64 ee]) ∧ OwnB W.heap.size w' v B ∧ Below W.heap.size W w') := fun W i1 => by
    have := refPutCh_any ac ar sq a0 ds c0 kd nc nr pc pr fc fr nm vl hs W i1
    rw [eW] at this
    exact this
  rw [eW] at hwl
  have hBl : B.length ≤ 281474976710656 := Nat.le_trans hwl (by decide)
  clear h1 eW hwl
  go_enter Try.func3, Try.ntmps3
  go_wp2_with fail
  refine (refCopyCh_any ac ar sq (.slice a0 ds.length c0) kd nc nr pc pr fc fr nm vl ds _ (H1.out.below K0.2.2)).mono ?_
  rintro e w1 ⟨v2, rfl, o2, hb1⟩
  obtain ⟨a3, c3, e3⟩ := o2.form
  subst e3
  have K1 := K0.step hb1
  have I3 : Hid (IsI w1 (.slice a3 ds.length c3) ds) := o2.isI hdl
  clear o2 hb1 K0
  go_wp2_with fail
  refine (C1.out _ a3 c3 I3.out).mono ?_
  rintro e w2 ⟨v4, rfl, o4, hb2⟩
  have K2 := K1.step hb2
  have I4 : Hid (IsB w2 v4 B) := o4.isB hBl
  clear o4 hb2 K1 I3 C1
  obtain ⟨k_0, k_1, k_2, k_3, k_4, k_5, k_6, k_7, k_8, k_9, k_10, k_11, k_12⟩ := K2.cells13
  go_wp2_with fail
  refine (C2.out _ (H1.out.below K2.2.2)).mono ?_
  rintro e w3 ⟨v5, rfl, o5, hb3⟩
  have K3 := K2.step hb3
  have cv1 := conv_txt (o5.isB hBl)
  have cv2 := conv_txt (I4.out.below hb3)
  have q1 : ((txt B).toList == (txt B).toList) = true := by simp
  have q2 : (ee == ee) = true := by simp
  clear k_0 k_1 k_2 k_3 k_4 k_5 k_6 k_7 k_8 k_9 k_10 k_11 k_12 o5 hb3 K2 I4 C2
  go_wp2_with fail
  refine (wawake_any _).mono ?_
  rintro e w4 ⟨rfl, hb4⟩
  have K4 := K3.step hb4
  go_wp2
  go_ret
  exact ⟨rfl, K4.2.2⟩

end Go.Proofs.Ytlioiblpcpaejaa
