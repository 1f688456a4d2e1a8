/- What the document's Stamp, After and Text make of any change. -/
import Derived.Test.YtaocjmipjibiaaaGreatDoorChRc
import Derived.Test.YtaocjmipjibiaaaGreatDoorChRq
import Derived.Test.YtaocjmipjibiaaaGreatDoorTxB
import Derived.Test.YtaocjmipjibiaaaGreatDoorIdY
import Derived.Test.YtaocjmipjibiaaaGreatDoorChWk
import Derived.Test.YtaocjmipjibiaaaGreatDoorPlainQ
import Derived.Test.YtaocjmipjibiaaaGreatDoorChUq
import Derived.OwnWalk
import Derived.Test.YtaocjmipjibiaaaGreatDoorChT
import Derived.Test.YtaocjmipjibiaaaGreatDoorPlainG
import Derived.Test.YtaocjmipjibiaaaGreatDoorTxC
import Derived.Test.YtaocjmipjibiaaaGreatDoorChPa
namespace Go.Proofs.YtaocjmipjibiaaaGreatDoor
open Go.RowKit
set_option linter.unusedVariables false
set_option linter.unusedSimpArgs false

theorem bytes_app (a b : ByteArray) : (a ++ b).data.toList = a.data.toList ++ b.data.toList := by
  obtain ⟨⟨la⟩⟩ := a
  obtain ⟨⟨lb⟩⟩ := b
  have h := ByteArray.mk_append_mk la lb
  exact congrArg (fun z : ByteArray => z.data.toList) h

set_option maxHeartbeats 1000000 in
theorem refStamp_any (c r : Int) (w : World) :
    Calls Tryz.prog 63 #[.agg #[.int .i64 c, .int .i64 r]] w fun e w' => e = .returned (.string (txt (textL c r))) ∧ Below w.heap.size w w' := by
  have K0 := KeptC.start w [.int .i64 c, .int .i64 r] 23
  go_enter Tryz.func63, Tryz.ntmps63
  go_wp2_with fail
  refine (refTextS_any c r _).mono ?_
  rintro e w1 ⟨rfl, hb1⟩
  have K1 := K0.step hb1
  go_wp2
  go_ret
  exact ⟨rfl, K1.2.2⟩

set_option maxHeartbeats 1000000 in
theorem refAfter_any (c r : Int) (w : World) :
    Calls Tryz.prog 65 #[.agg #[.int .i64 c, .int .i64 r]] w fun e w' => e = .returned (.string (txt (afterL c r))) ∧ Below w.heap.size w w' := by
  have K0 := KeptC.start w [.int .i64 c, .int .i64 r] 23
  by_cases h0 : c = 0
  · by_cases h1 : r = 0
    · have HE : Hid (afterL c r = [45]) := by show _ = _; simp [afterL, rootB, h0, h1]
      have q0 : (c == 0) = true := by simp [h0]
      have q1 : (r == 0) = true := by simp [h1]
      clear h0 h1
      go_enter Tryz.func65, Tryz.ntmps65
      go_wp2
      go_ret
      exact ⟨by rw [HE.out]; rfl, K0.2.2⟩
    · have HE : Hid (afterL c r = textL c r) := by show _ = _; simp [afterL, rootB, h1]
      have q0 : (c == 0) = true := by simp [h0]
      have q1 : (r == 0) = false := by simp [h1]
      clear h0 h1
      go_enter Tryz.func65, Tryz.ntmps65
      go_wp2_with fail
      refine (refStamp_any c r _).mono ?_
      rintro e w1 ⟨rfl, hb1⟩
      have K1 := K0.step hb1
      go_wp2
      go_ret
      exact ⟨by rw [HE.out]; rfl, K1.2.2⟩
  · have HE : Hid (afterL c r = textL c r) := by show _ = _; simp [afterL, rootB, h0]
    have q0 : (c == 0) = false := by simp [h0]
    clear h0
    go_enter Tryz.func65, Tryz.ntmps65
    go_wp2_with fail
    refine (refStamp_any c r _).mono ?_
    rintro e w1 ⟨rfl, hb1⟩
    have K1 := K0.step hb1
    go_wp2
    go_ret
    exact ⟨by rw [HE.out]; rfl, K1.2.2⟩

theorem ret_siT {a b : ByteArray} (h : a = b) : Ending.returned (.tuple #[.string a, .int .i64 0]) = .returned (.tuple #[.string b, .int .i64 0]) := by rw [h]

set_option maxRecDepth 100000 in
set_option maxHeartbeats 16000000 in
theorem refTextCh_ok (ac ar sq : Int) (dv : Value) (kd nc nr pc pr fc fr : Int) (nm vl : ByteArray) (ds : List Int) (hs : nm.size ≤ 281474976710656) (w : World) (h1 : IsI w dv ds) (hc : checkCh ⟨ac, ar, sq, ds, kd, nc, nr, pc, pr, fc, fr, nm, vl⟩ = 0) :
    Calls Tryz.prog 28 #[.agg #[.int .i64 ac, .int .i64 ar, .int .i64 sq, dv, .int .i64 kd, .int .i64 nc, .int .i64 nr, .int .i64 pc, .int .i64 pr, .int .i64 fc, .int .i64 fr, .string nm, .string vl]] w fun e w' => e = .returned (.tuple #[.string (txt (textCh ⟨ac, ar, sq, ds, kd, nc, nr, pc, pr, fc, fr, nm, vl⟩)), .int .i64 0]) ∧ Below w.heap.size w w' := by
  obtain ⟨a1, c1, e1⟩ := h1.form
  subst e1
  have K0 := KeptC.start w [.int .i64 ac, .int .i64 ar, .int .i64 sq, .slice a1 ds.length c1, .int .i64 kd, .int .i64 nc, .int .i64 nr, .int .i64 pc, .int .i64 pr, .int .i64 fc, .int .i64 fr, .string nm, .string vl] 26
  have H1 : Hid (IsI w (.slice a1 ds.length c1) ds) := h1
  obtain ⟨g1, g2, g3, g4, _, _, g7, g8⟩ := checkCh_ok _ hc
  have hkd : kd = 1 ∨ kd = 2 ∨ kd = 3 ∨ kd = 4 ∨ kd = 5 := (fine _ hc).kind
  have hcl : checkL ds = 0 := (depsE_ok _ g4).1
  have hv : vl.size ≤ 256 := by unfold valueE at g8; split at g8 <;> (try split at g8) <;> first | omega | (simp at *; omega)
  have hsq : 1 ≤ sq ∧ sq ≤ 1099511627776 := by
    have h2 := g2
    unfold rightB at h2
    simp only [decide_eq_true_eq] at h2
    exact ⟨g3.1, by have := g3.2; simp at this; omega⟩
  obtain ⟨s1, s2⟩ := hsq
  clear h1 g1 g2 g3 g4 g7 g8
  obtain ⟨t1, et1⟩ : ∃ u : ByteArray, u = txt (textL ac ar) := ⟨_, rfl⟩
  have Ht1 : Hid (∀ W, Calls Tryz.prog 63 #[.agg #[.int .i64 ac, .int .i64 ar]] W fun e w' => e = .returned (.string t1) ∧ Below W.heap.size W w') := fun W => by rw [et1]; exact refStamp_any ac ar W
  have zt1 : t1.size ≤ 43 := by rw [et1]; show (textL _ _).toArray.size ≤ _; rw [List.size_toArray]; exact textL_len _ _
  have Et1 : Hid (t1.data.toList = textL ac ar) := by show _ = _; rw [et1]; simp [txt]
  clear et1
  obtain ⟨t2, et2⟩ : ∃ u : ByteArray, u = txt (Lib.itoa sq) := ⟨_, rfl⟩
  have Ht2 : Hid (∀ W, Calls Tryz.prog 64 #[.int .i64 sq] W fun e w' => e = .returned (.string t2) ∧ Below W.heap.size W w') := fun W => by rw [et2]; exact digitsI sq (by omega) (by omega) W
  have zt2 : t2.size ≤ 21 := by rw [et2]; show (Lib.itoa sq).toArray.size ≤ _; rw [List.size_toArray]; exact itoa_len64 sq (by omega) (by omega)
  have Et2 : Hid (t2.data.toList = Lib.itoa sq) := by show _ = _; rw [et2]; simp [txt]
  clear et2
  obtain ⟨t3, et3⟩ : ∃ u : ByteArray, u = txt (textC ds) := ⟨_, rfl⟩
  have zt3 : t3.size ≤ 1408 := by rw [et3]; show (textC ds).toArray.size ≤ _; rw [List.size_toArray]; exact textC_len ds
  have Et3 : Hid (t3.data.toList = textC ds) := by show _ = _; rw [et3]; simp [txt]
  have Ht3 : Hid (∀ W, IsI W (.slice a1 ds.length c1) ds → Calls Tryz.prog 62 #[.slice a1 ds.length c1] W fun e w' => e = .returned (.tuple #[.string t3, .int .i64 0]) ∧ Below W.heap.size W w') := fun W hW => by rw [et3]; have h0 := refText_any _ ds W hW; rw [hcl] at h0; exact h0
  clear et3 hcl
  have n1 : ¬ 9223372036854775807 < t1.size + 1 := by omega
  have n2 : ¬ 9223372036854775807 < t1.size + 1 + t2.size := by omega
  have n3 : ¬ 9223372036854775807 < t1.size + 1 + t2.size + 1 := by omega
  have n4 : ¬ 9223372036854775807 < t1.size + 1 + t2.size + 1 + t3.size := by omega
  have n5 : ¬ 9223372036854775807 < t1.size + 1 + t2.size + 1 + t3.size + 1 := by omega
  go_enter Tryz.func28, Tryz.ntmps28
  go_wp2_with fail
  refine (refCheckCh_any ac ar sq (.slice a1 ds.length c1) kd nc nr pc pr fc fr nm vl ds hs _ (H1.out.below K0.2.2)).mono ?_
  rintro e w1 ⟨rfl, hb1⟩
  rw [hc]
  have K1 := K0.step hb1
  clear hb1
  obtain ⟨k_0, k_1, k_2, k_3, k_4, k_5, k_6, k_7, k_8, k_9, k_10, k_11, k_12⟩ := K1.all
  go_wp2_with fail
  refine (Ht3.out _ (H1.out.below K1.2.2)).mono ?_
  rintro e w2 ⟨rfl, hb2⟩
  have K2 := K1.step hb2
  clear hb2 k_0 k_1 k_2 k_3 k_4 k_5 k_6 k_7 k_8 k_9 k_10 k_11 k_12
  go_wp2_with fail
  refine wp_region_held_drew (S := fun W' => KeptC w w.heap.size [.int .i64 ac, .int .i64 ar, .int .i64 sq, .slice a1 ds.length c1, .int .i64 kd, .int .i64 nc, .int .i64 nr, .int .i64 pc, .int .i64 pr, .int .i64 fc, .int .i64 fr, .string nm, .string vl] W') (by kernel_rfl) K2.drew (fun hHeld => ?_)
  refine wpAnyH_take (i := 0) (oi := ⟨some 18, _, _, _, _, _⟩) (v := ?vh0) rfl (by kernel_rfl) (by kernel_rfl) (by kernel_rfl) (fun _ _ _ h => h) (Or.inl ⟨by rfl, ?hyh0⟩) hHeld ?resth0
  case hyh0 => (intro w hSw; (try dsimp only at hSw); have hc0 := hSw.1 0 _ rfl; have hc1 := hSw.1 1 _ rfl; have hc2 := hSw.1 2 _ rfl; have hc3 := hSw.1 3 _ rfl; have hc4 := hSw.1 4 _ rfl; have hc5 := hSw.1 5 _ rfl; have hc6 := hSw.1 6 _ rfl; have hc7 := hSw.1 7 _ rfl; have hc8 := hSw.1 8 _ rfl; have hc9 := hSw.1 9 _ rfl; have hc10 := hSw.1 10 _ rfl; have hc11 := hSw.1 11 _ rfl; have hc12 := hSw.1 12 _ rfl; go_simp; try with_reducible rfl)
  simp only [Act.put, List.setIfInBounds_toArray, List.set_cons_zero, List.set_cons_succ]
  refine wpAnyH_take (i := 1) (oi := ⟨some 19, _, _, _, _, _⟩) (v := ?vh1) rfl (by kernel_rfl) (by kernel_rfl) (by kernel_rfl) (fun _ _ _ h => h) (Or.inl ⟨by rfl, ?hyh1⟩) hHeld ?resth1
  case hyh1 => (intro w hSw; (try dsimp only at hSw); have hc0 := hSw.1 0 _ rfl; have hc1 := hSw.1 1 _ rfl; have hc2 := hSw.1 2 _ rfl; have hc3 := hSw.1 3 _ rfl; have hc4 := hSw.1 4 _ rfl; have hc5 := hSw.1 5 _ rfl; have hc6 := hSw.1 6 _ rfl; have hc7 := hSw.1 7 _ rfl; have hc8 := hSw.1 8 _ rfl; have hc9 := hSw.1 9 _ rfl; have hc10 := hSw.1 10 _ rfl; have hc11 := hSw.1 11 _ rfl; have hc12 := hSw.1 12 _ rfl; go_simp; try with_reducible rfl)
  simp only [Act.put, List.setIfInBounds_toArray, List.set_cons_zero, List.set_cons_succ]
  refine wpAnyH_take (i := 4) (oi := ⟨some 22, _, _, _, _, _⟩) (v := ?vh4) rfl (by kernel_rfl) (by kernel_rfl) (by kernel_rfl) (fun _ _ _ h => h) (Or.inl ⟨by rfl, ?hyh4⟩) hHeld ?resth4
  case hyh4 => (intro w hSw; (try dsimp only at hSw); have hc0 := hSw.1 0 _ rfl; have hc1 := hSw.1 1 _ rfl; have hc2 := hSw.1 2 _ rfl; have hc3 := hSw.1 3 _ rfl; have hc4 := hSw.1 4 _ rfl; have hc5 := hSw.1 5 _ rfl; have hc6 := hSw.1 6 _ rfl; have hc7 := hSw.1 7 _ rfl; have hc8 := hSw.1 8 _ rfl; have hc9 := hSw.1 9 _ rfl; have hc10 := hSw.1 10 _ rfl; have hc11 := hSw.1 11 _ rfl; have hc12 := hSw.1 12 _ rfl; go_simp; try with_reducible rfl)
  simp only [Act.put, List.setIfInBounds_toArray, List.set_cons_zero, List.set_cons_succ]
  refine wpAnyH_take (i := 5) (oi := ⟨some 23, _, _, _, _, _⟩) (v := ?vh5) rfl (by kernel_rfl) (by kernel_rfl) (by kernel_rfl) (fun _ _ _ h => h) (Or.inl ⟨by rfl, ?hyh5⟩) hHeld ?resth5
  case hyh5 => (intro w hSw; (try dsimp only at hSw); have hc0 := hSw.1 0 _ rfl; have hc1 := hSw.1 1 _ rfl; have hc2 := hSw.1 2 _ rfl; have hc3 := hSw.1 3 _ rfl; have hc4 := hSw.1 4 _ rfl; have hc5 := hSw.1 5 _ rfl; have hc6 := hSw.1 6 _ rfl; have hc7 := hSw.1 7 _ rfl; have hc8 := hSw.1 8 _ rfl; have hc9 := hSw.1 9 _ rfl; have hc10 := hSw.1 10 _ rfl; have hc11 := hSw.1 11 _ rfl; have hc12 := hSw.1 12 _ rfl; go_simp; try with_reducible rfl)
  simp only [Act.put, List.setIfInBounds_toArray, List.set_cons_zero, List.set_cons_succ]
  refine wpAnyH_take (i := 9) (oi := ⟨some 27, _, _, _, _, _⟩) (v := ?vh9) rfl (by kernel_rfl) (by kernel_rfl) (by kernel_rfl) (fun _ _ _ h => h) (Or.inl ⟨by rfl, ?hyh9⟩) hHeld ?resth9
  case hyh9 => (intro w hSw; (try dsimp only at hSw); have hc0 := hSw.1 0 _ rfl; have hc1 := hSw.1 1 _ rfl; have hc2 := hSw.1 2 _ rfl; have hc3 := hSw.1 3 _ rfl; have hc4 := hSw.1 4 _ rfl; have hc5 := hSw.1 5 _ rfl; have hc6 := hSw.1 6 _ rfl; have hc7 := hSw.1 7 _ rfl; have hc8 := hSw.1 8 _ rfl; have hc9 := hSw.1 9 _ rfl; have hc10 := hSw.1 10 _ rfl; have hc11 := hSw.1 11 _ rfl; have hc12 := hSw.1 12 _ rfl; go_simp; try with_reducible rfl)
  simp only [Act.put, List.setIfInBounds_toArray, List.set_cons_zero, List.set_cons_succ]
  refine wpAnyH_ready (rs := [2]) (by kernel_rfl) (by simp) ?_
  refine AllReadyH.cons (o := ⟨some 20, _, _, _, _, _⟩) rfl (fun K hK => ?_) AllReadyH.nil
  go_simp
  refine (Ht1.out _).mono ?_
  rintro e w3 ⟨rfl, hb⟩
  (try go_wp2_with fail)
  refine hK.out _ _ (hHeld.step hb) (fun hHeld2 => ?_)
  clear hK K hHeld
  have hHeld := hHeld2
  clear hHeld2
  (try simp only [Act.put, List.setIfInBounds_toArray, List.set_cons_zero, List.set_cons_succ])
  refine wpAnyH_take (i := 3) (oi := ⟨some 21, _, _, _, _, _⟩) (v := ?vh3) rfl (by kernel_rfl) (by kernel_rfl) (by kernel_rfl) (fun _ _ _ h => h) (Or.inl ⟨by rfl, ?hyh3⟩) hHeld ?resth3
  case hyh3 => (intro w hSw; (try dsimp only at hSw); have hc0 := hSw.1 0 _ rfl; have hc1 := hSw.1 1 _ rfl; have hc2 := hSw.1 2 _ rfl; have hc3 := hSw.1 3 _ rfl; have hc4 := hSw.1 4 _ rfl; have hc5 := hSw.1 5 _ rfl; have hc6 := hSw.1 6 _ rfl; have hc7 := hSw.1 7 _ rfl; have hc8 := hSw.1 8 _ rfl; have hc9 := hSw.1 9 _ rfl; have hc10 := hSw.1 10 _ rfl; have hc11 := hSw.1 11 _ rfl; have hc12 := hSw.1 12 _ rfl; go_simp; try with_reducible rfl)
  simp only [Act.put, List.setIfInBounds_toArray, List.set_cons_zero, List.set_cons_succ]
  refine wpAnyH_ready (rs := [6]) (by kernel_rfl) (by simp) ?_
  refine AllReadyH.cons (o := ⟨some 24, _, _, _, _, _⟩) rfl (fun K hK => ?_) AllReadyH.nil
  go_simp
  refine (Ht2.out _).mono ?_
  rintro e w4 ⟨rfl, hb⟩
  (try go_wp2_with fail)
  refine hK.out _ _ (hHeld.step hb) (fun hHeld2 => ?_)
  clear hK K hHeld
  have hHeld := hHeld2
  clear hHeld2
  (try simp only [Act.put, List.setIfInBounds_toArray, List.set_cons_zero, List.set_cons_succ])
  refine wpAnyH_take (i := 7) (oi := ⟨some 25, _, _, _, _, _⟩) (v := ?vh7) rfl (by kernel_rfl) (by kernel_rfl) (by kernel_rfl) (fun _ _ _ h => h) (Or.inl ⟨by rfl, ?hyh7⟩) hHeld ?resth7
  case hyh7 => (intro w hSw; (try dsimp only at hSw); have hc0 := hSw.1 0 _ rfl; have hc1 := hSw.1 1 _ rfl; have hc2 := hSw.1 2 _ rfl; have hc3 := hSw.1 3 _ rfl; have hc4 := hSw.1 4 _ rfl; have hc5 := hSw.1 5 _ rfl; have hc6 := hSw.1 6 _ rfl; have hc7 := hSw.1 7 _ rfl; have hc8 := hSw.1 8 _ rfl; have hc9 := hSw.1 9 _ rfl; have hc10 := hSw.1 10 _ rfl; have hc11 := hSw.1 11 _ rfl; have hc12 := hSw.1 12 _ rfl; go_simp; try with_reducible rfl)
  simp only [Act.put, List.setIfInBounds_toArray, List.set_cons_zero, List.set_cons_succ]
  refine wpAnyH_take (i := 8) (oi := ⟨some 26, _, _, _, _, _⟩) (v := ?vh8) rfl (by kernel_rfl) (by kernel_rfl) (by kernel_rfl) (fun _ _ _ h => h) (Or.inl ⟨by rfl, ?hyh8⟩) hHeld ?resth8
  case hyh8 => (intro w hSw; (try dsimp only at hSw); have hc0 := hSw.1 0 _ rfl; have hc1 := hSw.1 1 _ rfl; have hc2 := hSw.1 2 _ rfl; have hc3 := hSw.1 3 _ rfl; have hc4 := hSw.1 4 _ rfl; have hc5 := hSw.1 5 _ rfl; have hc6 := hSw.1 6 _ rfl; have hc7 := hSw.1 7 _ rfl; have hc8 := hSw.1 8 _ rfl; have hc9 := hSw.1 9 _ rfl; have hc10 := hSw.1 10 _ rfl; have hc11 := hSw.1 11 _ rfl; have hc12 := hSw.1 12 _ rfl; go_simp; try with_reducible rfl)
  simp only [Act.put, List.setIfInBounds_toArray, List.set_cons_zero, List.set_cons_succ]
  refine wpAnyH_take (i := 10) (oi := ⟨some 28, _, _, _, _, _⟩) (v := ?vh10) rfl (by kernel_rfl) (by kernel_rfl) (by kernel_rfl) (fun _ _ _ h => h) (Or.inl ⟨by rfl, ?hyh10⟩) hHeld ?resth10
  case hyh10 => (intro w hSw; (try dsimp only at hSw); have hc0 := hSw.1 0 _ rfl; have hc1 := hSw.1 1 _ rfl; have hc2 := hSw.1 2 _ rfl; have hc3 := hSw.1 3 _ rfl; have hc4 := hSw.1 4 _ rfl; have hc5 := hSw.1 5 _ rfl; have hc6 := hSw.1 6 _ rfl; have hc7 := hSw.1 7 _ rfl; have hc8 := hSw.1 8 _ rfl; have hc9 := hSw.1 9 _ rfl; have hc10 := hSw.1 10 _ rfl; have hc11 := hSw.1 11 _ rfl; have hc12 := hSw.1 12 _ rfl; go_simp; try with_reducible rfl)
  simp only [Act.put, List.setIfInBounds_toArray, List.set_cons_zero, List.set_cons_succ]
  refine wpAnyH_take (i := 11) (oi := ⟨some 29, _, _, _, _, _⟩) (v := ?vh11) rfl (by kernel_rfl) (by kernel_rfl) (by kernel_rfl) (fun _ _ _ h => h) (Or.inl ⟨by rfl, ?hyh11⟩) hHeld ?resth11
  case hyh11 => (intro w hSw; (try dsimp only at hSw); have hc0 := hSw.1 0 _ rfl; have hc1 := hSw.1 1 _ rfl; have hc2 := hSw.1 2 _ rfl; have hc3 := hSw.1 3 _ rfl; have hc4 := hSw.1 4 _ rfl; have hc5 := hSw.1 5 _ rfl; have hc6 := hSw.1 6 _ rfl; have hc7 := hSw.1 7 _ rfl; have hc8 := hSw.1 8 _ rfl; have hc9 := hSw.1 9 _ rfl; have hc10 := hSw.1 10 _ rfl; have hc11 := hSw.1 11 _ rfl; have hc12 := hSw.1 12 _ rfl; go_simp; try with_reducible rfl)
  simp only [Act.put, List.setIfInBounds_toArray, List.set_cons_zero, List.set_cons_succ]
  refine wpAnyH_take (i := 12) (oi := ⟨some 6, _, _, _, _, _⟩) (v := ?vh12) rfl (by kernel_rfl) (by kernel_rfl) (by kernel_rfl) (fun _ _ _ h => h) (Or.inl ⟨by rfl, ?hyh12⟩) hHeld ?resth12
  case hyh12 => (intro w hSw; (try dsimp only at hSw); have hc0 := hSw.1 0 _ rfl; have hc1 := hSw.1 1 _ rfl; have hc2 := hSw.1 2 _ rfl; have hc3 := hSw.1 3 _ rfl; have hc4 := hSw.1 4 _ rfl; have hc5 := hSw.1 5 _ rfl; have hc6 := hSw.1 6 _ rfl; have hc7 := hSw.1 7 _ rfl; have hc8 := hSw.1 8 _ rfl; have hc9 := hSw.1 9 _ rfl; have hc10 := hSw.1 10 _ rfl; have hc11 := hSw.1 11 _ rfl; have hc12 := hSw.1 12 _ rfl; go_simp; try with_reducible rfl)
  simp only [Act.put, List.setIfInBounds_toArray, List.set_cons_zero, List.set_cons_succ]
  refine wpAnyH_done (by kernel_rfl) ?_ _
  have K4 := hHeld
  clear hHeld n1 n2 n3 n4 n5
  obtain ⟨hd, ehd⟩ : ∃ u : ByteArray, u = (((((t1 ++ (⟨#[32]⟩ : ByteArray)) ++ t2) ++ (⟨#[32]⟩ : ByteArray)) ++ t3) ++ (⟨#[32]⟩ : ByteArray)) := ⟨_, rfl⟩
  have Ehd : Hid (hd.data.toList = textL ac ar ++ 32 :: (Lib.itoa sq ++ 32 :: (textC ds ++ [32]))) := by show _ = _; rw [ehd]; simp only [bytes_app, Et1.out, Et2.out, Et3.out]; simp
  have zhd : hd.size ≤ 1500 := by rw [← size_list, Ehd.out]; have h5 := textL_len ac ar; have h6 := itoa_len64 sq (by omega) (by omega); have h7 := textC_len ds; simp; omega
  rw [← ehd]
  clear ehd
  obtain ⟨k_0, k_1, k_2, k_3, k_4, k_5, k_6, k_7, k_8, k_9, k_10, k_11, k_12⟩ := K4.all
  rcases hkd with rfl | rfl | rfl | rfl | rfl
  · have hnm : nm.size ≤ 32 := by have h0 := (checkCh_ok _ hc).2.2.2.2.2.2.1; have h5 : nameL nm.data.toList = true := (if_pos (show hasName 1 = true by decide)).symm.trans h0; unfold nameL at h5; simp only [Bool.and_eq_true, decide_eq_true_eq] at h5; have := h5.1; rw [size_list] at this; omega
    obtain ⟨u1, eu1⟩ : ∃ u : ByteArray, u = txt (textL pc pr) := ⟨_, rfl⟩
    have Hu1 : Hid (∀ W, Calls Tryz.prog 63 #[.agg #[.int .i64 pc, .int .i64 pr]] W fun e w' => e = .returned (.string u1) ∧ Below W.heap.size W w') := fun W => by rw [eu1]; exact refStamp_any pc pr W
    have zu1 : u1.size ≤ 43 := by rw [eu1]; show (textL _ _).toArray.size ≤ _; rw [List.size_toArray]; exact textL_len _ _
    have Eu1 : Hid (u1.data.toList = textL pc pr) := by show _ = _; rw [eu1]; simp [txt]
    clear eu1
    obtain ⟨u2, eu2⟩ : ∃ u : ByteArray, u = txt (afterL fc fr) := ⟨_, rfl⟩
    have Hu2 : Hid (∀ W, Calls Tryz.prog 65 #[.agg #[.int .i64 fc, .int .i64 fr]] W fun e w' => e = .returned (.string u2) ∧ Below W.heap.size W w') := fun W => by rw [eu2]; exact refAfter_any fc fr W
    have zu2 : u2.size ≤ 43 := by rw [eu2]; show (afterL _ _).toArray.size ≤ _; rw [List.size_toArray]; exact afterL_len _ _
    have Eu2 : Hid (u2.data.toList = afterL fc fr) := by show _ = _; rw [eu2]; simp [txt]
    clear eu2
    have HF : Hid ((((((((⟨#[99, 114, 101, 97, 116, 101, 32]⟩ : ByteArray) ++ hd) ++ u1) ++ (⟨#[32]⟩ : ByteArray)) ++ u2) ++ (⟨#[32]⟩ : ByteArray)) ++ nm) = txt (textCh ⟨ac, ar, sq, ds, 1, nc, nr, pc, pr, fc, fr, nm, vl⟩)) := bytes_ext (by simp only [bytes_app, Ehd.out, Eu1.out, Eu2.out]; show _ = textCh ⟨ac, ar, sq, ds, 1, nc, nr, pc, pr, fc, fr, nm, vl⟩; rw [textCh_1 _ rfl]; simp [kindL])
    have n1 : ¬ 9223372036854775807 < 7 + hd.size := by omega
    have n2 : ¬ 9223372036854775807 < 7 + hd.size + u1.size := by omega
    have n3 : ¬ 9223372036854775807 < 7 + hd.size + u1.size + 1 := by omega
    have n4 : ¬ 9223372036854775807 < 7 + hd.size + u1.size + 1 + u2.size := by omega
    have n5 : ¬ 9223372036854775807 < 7 + hd.size + u1.size + 1 + u2.size + 1 := by omega
    have n6 : ¬ 9223372036854775807 < 7 + hd.size + u1.size + 1 + u2.size + 1 + nm.size := by omega
    go_wp2_with fail
    refine wp_region_held_drew (S := fun W' => KeptC w w.heap.size [.int .i64 ac, .int .i64 ar, .int .i64 sq, .slice a1 ds.length c1, .int .i64 1, .int .i64 nc, .int .i64 nr, .int .i64 pc, .int .i64 pr, .int .i64 fc, .int .i64 fr, .string nm, .string vl] W') (by kernel_rfl) K4.drew (fun hHeld => ?_)
    refine wpAnyH_take (i := 0) (oi := ⟨some 34, _, _, _, _, _⟩) (v := ?vr10) rfl (by kernel_rfl) (by kernel_rfl) (by kernel_rfl) (fun _ _ _ h => h) (Or.inl ⟨by rfl, ?hyr10⟩) hHeld ?restr10
    case hyr10 => (intro w hSw; (try dsimp only at hSw); have hc0 := hSw.1 0 _ rfl; have hc1 := hSw.1 1 _ rfl; have hc2 := hSw.1 2 _ rfl; have hc3 := hSw.1 3 _ rfl; have hc4 := hSw.1 4 _ rfl; have hc5 := hSw.1 5 _ rfl; have hc6 := hSw.1 6 _ rfl; have hc7 := hSw.1 7 _ rfl; have hc8 := hSw.1 8 _ rfl; have hc9 := hSw.1 9 _ rfl; have hc10 := hSw.1 10 _ rfl; have hc11 := hSw.1 11 _ rfl; have hc12 := hSw.1 12 _ rfl; go_simp; try with_reducible rfl)
    simp only [Act.put, List.setIfInBounds_toArray, List.set_cons_zero, List.set_cons_succ]
    refine wpAnyH_take (i := 1) (oi := ⟨some 35, _, _, _, _, _⟩) (v := ?vr11) rfl (by kernel_rfl) (by kernel_rfl) (by kernel_rfl) (fun _ _ _ h => h) (Or.inl ⟨by rfl, ?hyr11⟩) hHeld ?restr11
    case hyr11 => (intro w hSw; (try dsimp only at hSw); have hc0 := hSw.1 0 _ rfl; have hc1 := hSw.1 1 _ rfl; have hc2 := hSw.1 2 _ rfl; have hc3 := hSw.1 3 _ rfl; have hc4 := hSw.1 4 _ rfl; have hc5 := hSw.1 5 _ rfl; have hc6 := hSw.1 6 _ rfl; have hc7 := hSw.1 7 _ rfl; have hc8 := hSw.1 8 _ rfl; have hc9 := hSw.1 9 _ rfl; have hc10 := hSw.1 10 _ rfl; have hc11 := hSw.1 11 _ rfl; have hc12 := hSw.1 12 _ rfl; go_simp; try with_reducible rfl)
    simp only [Act.put, List.setIfInBounds_toArray, List.set_cons_zero, List.set_cons_succ]
    refine wpAnyH_take (i := 2) (oi := ⟨some 36, _, _, _, _, _⟩) (v := ?vr12) rfl (by kernel_rfl) (by kernel_rfl) (by kernel_rfl) (fun _ _ _ h => h) (Or.inl ⟨by rfl, ?hyr12⟩) hHeld ?restr12
    case hyr12 => (intro w hSw; (try dsimp only at hSw); have hc0 := hSw.1 0 _ rfl; have hc1 := hSw.1 1 _ rfl; have hc2 := hSw.1 2 _ rfl; have hc3 := hSw.1 3 _ rfl; have hc4 := hSw.1 4 _ rfl; have hc5 := hSw.1 5 _ rfl; have hc6 := hSw.1 6 _ rfl; have hc7 := hSw.1 7 _ rfl; have hc8 := hSw.1 8 _ rfl; have hc9 := hSw.1 9 _ rfl; have hc10 := hSw.1 10 _ rfl; have hc11 := hSw.1 11 _ rfl; have hc12 := hSw.1 12 _ rfl; go_simp; try with_reducible rfl)
    simp only [Act.put, List.setIfInBounds_toArray, List.set_cons_zero, List.set_cons_succ]
    refine wpAnyH_take (i := 3) (oi := ⟨some 37, _, _, _, _, _⟩) (v := ?vr13) rfl (by kernel_rfl) (by kernel_rfl) (by kernel_rfl) (fun _ _ _ h => h) (Or.inl ⟨by rfl, ?hyr13⟩) hHeld ?restr13
    case hyr13 => (intro w hSw; (try dsimp only at hSw); have hc0 := hSw.1 0 _ rfl; have hc1 := hSw.1 1 _ rfl; have hc2 := hSw.1 2 _ rfl; have hc3 := hSw.1 3 _ rfl; have hc4 := hSw.1 4 _ rfl; have hc5 := hSw.1 5 _ rfl; have hc6 := hSw.1 6 _ rfl; have hc7 := hSw.1 7 _ rfl; have hc8 := hSw.1 8 _ rfl; have hc9 := hSw.1 9 _ rfl; have hc10 := hSw.1 10 _ rfl; have hc11 := hSw.1 11 _ rfl; have hc12 := hSw.1 12 _ rfl; go_simp; try with_reducible rfl)
    simp only [Act.put, List.setIfInBounds_toArray, List.set_cons_zero, List.set_cons_succ]
    refine wpAnyH_take (i := 7) (oi := ⟨some 41, _, _, _, _, _⟩) (v := ?vr17) rfl (by kernel_rfl) (by kernel_rfl) (by kernel_rfl) (fun _ _ _ h => h) (Or.inl ⟨by rfl, ?hyr17⟩) hHeld ?restr17
    case hyr17 => (intro w hSw; (try dsimp only at hSw); have hc0 := hSw.1 0 _ rfl; have hc1 := hSw.1 1 _ rfl; have hc2 := hSw.1 2 _ rfl; have hc3 := hSw.1 3 _ rfl; have hc4 := hSw.1 4 _ rfl; have hc5 := hSw.1 5 _ rfl; have hc6 := hSw.1 6 _ rfl; have hc7 := hSw.1 7 _ rfl; have hc8 := hSw.1 8 _ rfl; have hc9 := hSw.1 9 _ rfl; have hc10 := hSw.1 10 _ rfl; have hc11 := hSw.1 11 _ rfl; have hc12 := hSw.1 12 _ rfl; go_simp; try with_reducible rfl)
    simp only [Act.put, List.setIfInBounds_toArray, List.set_cons_zero, List.set_cons_succ]
    refine wpAnyH_take (i := 8) (oi := ⟨some 42, _, _, _, _, _⟩) (v := ?vr18) rfl (by kernel_rfl) (by kernel_rfl) (by kernel_rfl) (fun _ _ _ h => h) (Or.inl ⟨by rfl, ?hyr18⟩) hHeld ?restr18
    case hyr18 => (intro w hSw; (try dsimp only at hSw); have hc0 := hSw.1 0 _ rfl; have hc1 := hSw.1 1 _ rfl; have hc2 := hSw.1 2 _ rfl; have hc3 := hSw.1 3 _ rfl; have hc4 := hSw.1 4 _ rfl; have hc5 := hSw.1 5 _ rfl; have hc6 := hSw.1 6 _ rfl; have hc7 := hSw.1 7 _ rfl; have hc8 := hSw.1 8 _ rfl; have hc9 := hSw.1 9 _ rfl; have hc10 := hSw.1 10 _ rfl; have hc11 := hSw.1 11 _ rfl; have hc12 := hSw.1 12 _ rfl; go_simp; try with_reducible rfl)
    simp only [Act.put, List.setIfInBounds_toArray, List.set_cons_zero, List.set_cons_succ]
    refine wpAnyH_take (i := 12) (oi := ⟨some 46, _, _, _, _, _⟩) (v := ?vr112) rfl (by kernel_rfl) (by kernel_rfl) (by kernel_rfl) (fun _ _ _ h => h) (Or.inl ⟨by rfl, ?hyr112⟩) hHeld ?restr112
    case hyr112 => (intro w hSw; (try dsimp only at hSw); have hc0 := hSw.1 0 _ rfl; have hc1 := hSw.1 1 _ rfl; have hc2 := hSw.1 2 _ rfl; have hc3 := hSw.1 3 _ rfl; have hc4 := hSw.1 4 _ rfl; have hc5 := hSw.1 5 _ rfl; have hc6 := hSw.1 6 _ rfl; have hc7 := hSw.1 7 _ rfl; have hc8 := hSw.1 8 _ rfl; have hc9 := hSw.1 9 _ rfl; have hc10 := hSw.1 10 _ rfl; have hc11 := hSw.1 11 _ rfl; have hc12 := hSw.1 12 _ rfl; go_simp; try with_reducible rfl)
    simp only [Act.put, List.setIfInBounds_toArray, List.set_cons_zero, List.set_cons_succ]
    refine wpAnyH_take (i := 13) (oi := ⟨some 47, _, _, _, _, _⟩) (v := ?vr113) rfl (by kernel_rfl) (by kernel_rfl) (by kernel_rfl) (fun _ _ _ h => h) (Or.inl ⟨by rfl, ?hyr113⟩) hHeld ?restr113
    case hyr113 => (intro w hSw; (try dsimp only at hSw); have hc0 := hSw.1 0 _ rfl; have hc1 := hSw.1 1 _ rfl; have hc2 := hSw.1 2 _ rfl; have hc3 := hSw.1 3 _ rfl; have hc4 := hSw.1 4 _ rfl; have hc5 := hSw.1 5 _ rfl; have hc6 := hSw.1 6 _ rfl; have hc7 := hSw.1 7 _ rfl; have hc8 := hSw.1 8 _ rfl; have hc9 := hSw.1 9 _ rfl; have hc10 := hSw.1 10 _ rfl; have hc11 := hSw.1 11 _ rfl; have hc12 := hSw.1 12 _ rfl; go_simp; try with_reducible rfl)
    simp only [Act.put, List.setIfInBounds_toArray, List.set_cons_zero, List.set_cons_succ]
    refine wpAnyH_ready (rs := [4]) (by kernel_rfl) (by simp) ?_
    refine AllReadyH.cons (o := ⟨some 38, _, _, _, _, _⟩) rfl (fun K hK => ?_) AllReadyH.nil
    go_simp
    refine (Hu1.out _).mono ?_
    rintro e w10 ⟨rfl, hb⟩
    (try go_wp2_with fail)
    refine hK.out _ _ (hHeld.step hb) (fun hHeld2 => ?_)
    clear hK K hHeld
    have hHeld := hHeld2
    clear hHeld2
    (try simp only [Act.put, List.setIfInBounds_toArray, List.set_cons_zero, List.set_cons_succ])
    refine wpAnyH_take (i := 5) (oi := ⟨some 39, _, _, _, _, _⟩) (v := ?vr15) rfl (by kernel_rfl) (by kernel_rfl) (by kernel_rfl) (fun _ _ _ h => h) (Or.inl ⟨by rfl, ?hyr15⟩) hHeld ?restr15
    case hyr15 => (intro w hSw; (try dsimp only at hSw); have hc0 := hSw.1 0 _ rfl; have hc1 := hSw.1 1 _ rfl; have hc2 := hSw.1 2 _ rfl; have hc3 := hSw.1 3 _ rfl; have hc4 := hSw.1 4 _ rfl; have hc5 := hSw.1 5 _ rfl; have hc6 := hSw.1 6 _ rfl; have hc7 := hSw.1 7 _ rfl; have hc8 := hSw.1 8 _ rfl; have hc9 := hSw.1 9 _ rfl; have hc10 := hSw.1 10 _ rfl; have hc11 := hSw.1 11 _ rfl; have hc12 := hSw.1 12 _ rfl; go_simp; try with_reducible rfl)
    simp only [Act.put, List.setIfInBounds_toArray, List.set_cons_zero, List.set_cons_succ]
    refine wpAnyH_take (i := 6) (oi := ⟨some 40, _, _, _, _, _⟩) (v := ?vr16) rfl (by kernel_rfl) (by kernel_rfl) (by kernel_rfl) (fun _ _ _ h => h) (Or.inl ⟨by rfl, ?hyr16⟩) hHeld ?restr16
    case hyr16 => (intro w hSw; (try dsimp only at hSw); have hc0 := hSw.1 0 _ rfl; have hc1 := hSw.1 1 _ rfl; have hc2 := hSw.1 2 _ rfl; have hc3 := hSw.1 3 _ rfl; have hc4 := hSw.1 4 _ rfl; have hc5 := hSw.1 5 _ rfl; have hc6 := hSw.1 6 _ rfl; have hc7 := hSw.1 7 _ rfl; have hc8 := hSw.1 8 _ rfl; have hc9 := hSw.1 9 _ rfl; have hc10 := hSw.1 10 _ rfl; have hc11 := hSw.1 11 _ rfl; have hc12 := hSw.1 12 _ rfl; go_simp; try with_reducible rfl)
    simp only [Act.put, List.setIfInBounds_toArray, List.set_cons_zero, List.set_cons_succ]
    refine wpAnyH_ready (rs := [9]) (by kernel_rfl) (by simp) ?_
    refine AllReadyH.cons (o := ⟨some 43, _, _, _, _, _⟩) rfl (fun K hK => ?_) AllReadyH.nil
    go_simp
    refine (Hu2.out _).mono ?_
    rintro e w11 ⟨rfl, hb⟩
    (try go_wp2_with fail)
    refine hK.out _ _ (hHeld.step hb) (fun hHeld2 => ?_)
    clear hK K hHeld
    have hHeld := hHeld2
    clear hHeld2
    (try simp only [Act.put, List.setIfInBounds_toArray, List.set_cons_zero, List.set_cons_succ])
    refine wpAnyH_take (i := 10) (oi := ⟨some 44, _, _, _, _, _⟩) (v := ?vr110) rfl (by kernel_rfl) (by kernel_rfl) (by kernel_rfl) (fun _ _ _ h => h) (Or.inl ⟨by rfl, ?hyr110⟩) hHeld ?restr110
    case hyr110 => (intro w hSw; (try dsimp only at hSw); have hc0 := hSw.1 0 _ rfl; have hc1 := hSw.1 1 _ rfl; have hc2 := hSw.1 2 _ rfl; have hc3 := hSw.1 3 _ rfl; have hc4 := hSw.1 4 _ rfl; have hc5 := hSw.1 5 _ rfl; have hc6 := hSw.1 6 _ rfl; have hc7 := hSw.1 7 _ rfl; have hc8 := hSw.1 8 _ rfl; have hc9 := hSw.1 9 _ rfl; have hc10 := hSw.1 10 _ rfl; have hc11 := hSw.1 11 _ rfl; have hc12 := hSw.1 12 _ rfl; go_simp; try with_reducible rfl)
    simp only [Act.put, List.setIfInBounds_toArray, List.set_cons_zero, List.set_cons_succ]
    refine wpAnyH_take (i := 11) (oi := ⟨some 45, _, _, _, _, _⟩) (v := ?vr111) rfl (by kernel_rfl) (by kernel_rfl) (by kernel_rfl) (fun _ _ _ h => h) (Or.inl ⟨by rfl, ?hyr111⟩) hHeld ?restr111
    case hyr111 => (intro w hSw; (try dsimp only at hSw); have hc0 := hSw.1 0 _ rfl; have hc1 := hSw.1 1 _ rfl; have hc2 := hSw.1 2 _ rfl; have hc3 := hSw.1 3 _ rfl; have hc4 := hSw.1 4 _ rfl; have hc5 := hSw.1 5 _ rfl; have hc6 := hSw.1 6 _ rfl; have hc7 := hSw.1 7 _ rfl; have hc8 := hSw.1 8 _ rfl; have hc9 := hSw.1 9 _ rfl; have hc10 := hSw.1 10 _ rfl; have hc11 := hSw.1 11 _ rfl; have hc12 := hSw.1 12 _ rfl; go_simp; try with_reducible rfl)
    simp only [Act.put, List.setIfInBounds_toArray, List.set_cons_zero, List.set_cons_succ]
    refine wpAnyH_take (i := 14) (oi := ⟨some 48, _, _, _, _, _⟩) (v := ?vr114) rfl (by kernel_rfl) (by kernel_rfl) (by kernel_rfl) (fun _ _ _ h => h) (Or.inl ⟨by rfl, ?hyr114⟩) hHeld ?restr114
    case hyr114 => (intro w hSw; (try dsimp only at hSw); have hc0 := hSw.1 0 _ rfl; have hc1 := hSw.1 1 _ rfl; have hc2 := hSw.1 2 _ rfl; have hc3 := hSw.1 3 _ rfl; have hc4 := hSw.1 4 _ rfl; have hc5 := hSw.1 5 _ rfl; have hc6 := hSw.1 6 _ rfl; have hc7 := hSw.1 7 _ rfl; have hc8 := hSw.1 8 _ rfl; have hc9 := hSw.1 9 _ rfl; have hc10 := hSw.1 10 _ rfl; have hc11 := hSw.1 11 _ rfl; have hc12 := hSw.1 12 _ rfl; go_simp; try with_reducible rfl)
    simp only [Act.put, List.setIfInBounds_toArray, List.set_cons_zero, List.set_cons_succ]
    refine wpAnyH_take (i := 15) (oi := ⟨some 2, _, _, _, _, _⟩) (v := ?vr115) rfl (by kernel_rfl) (by kernel_rfl) (by kernel_rfl) (fun _ _ _ h => h) (Or.inl ⟨by rfl, ?hyr115⟩) hHeld ?restr115
    case hyr115 => (intro w hSw; (try dsimp only at hSw); have hc0 := hSw.1 0 _ rfl; have hc1 := hSw.1 1 _ rfl; have hc2 := hSw.1 2 _ rfl; have hc3 := hSw.1 3 _ rfl; have hc4 := hSw.1 4 _ rfl; have hc5 := hSw.1 5 _ rfl; have hc6 := hSw.1 6 _ rfl; have hc7 := hSw.1 7 _ rfl; have hc8 := hSw.1 8 _ rfl; have hc9 := hSw.1 9 _ rfl; have hc10 := hSw.1 10 _ rfl; have hc11 := hSw.1 11 _ rfl; have hc12 := hSw.1 12 _ rfl; go_simp; try with_reducible rfl)
    simp only [Act.put, List.setIfInBounds_toArray, List.set_cons_zero, List.set_cons_succ]
    refine wpAnyH_take (i := 16) (oi := ⟨some 3, _, _, _, _, _⟩) (v := ?vr116) rfl (by kernel_rfl) (by kernel_rfl) (by kernel_rfl) (fun _ _ _ h => h) (Or.inl ⟨by rfl, ?hyr116⟩) hHeld ?restr116
    case hyr116 => (intro w hSw; (try dsimp only at hSw); have hc0 := hSw.1 0 _ rfl; have hc1 := hSw.1 1 _ rfl; have hc2 := hSw.1 2 _ rfl; have hc3 := hSw.1 3 _ rfl; have hc4 := hSw.1 4 _ rfl; have hc5 := hSw.1 5 _ rfl; have hc6 := hSw.1 6 _ rfl; have hc7 := hSw.1 7 _ rfl; have hc8 := hSw.1 8 _ rfl; have hc9 := hSw.1 9 _ rfl; have hc10 := hSw.1 10 _ rfl; have hc11 := hSw.1 11 _ rfl; have hc12 := hSw.1 12 _ rfl; go_simp; try with_reducible rfl)
    simp only [Act.put, List.setIfInBounds_toArray, List.set_cons_zero, List.set_cons_succ]
    refine wpAnyH_done (by kernel_rfl) ?_ _
    have bz := hHeld.2.2
    clear hHeld
    go_wp2
    go_ret2
    exact ⟨ret_siT HF.out, bz⟩
  · obtain ⟨u1, eu1⟩ : ∃ u : ByteArray, u = txt (textL nc nr) := ⟨_, rfl⟩
    have Hu1 : Hid (∀ W, Calls Tryz.prog 63 #[.agg #[.int .i64 nc, .int .i64 nr]] W fun e w' => e = .returned (.string u1) ∧ Below W.heap.size W w') := fun W => by rw [eu1]; exact refStamp_any nc nr W
    have zu1 : u1.size ≤ 43 := by rw [eu1]; show (textL _ _).toArray.size ≤ _; rw [List.size_toArray]; exact textL_len _ _
    have Eu1 : Hid (u1.data.toList = textL nc nr) := by show _ = _; rw [eu1]; simp [txt]
    clear eu1
    obtain ⟨u2, eu2⟩ : ∃ u : ByteArray, u = txt (textL pc pr) := ⟨_, rfl⟩
    have Hu2 : Hid (∀ W, Calls Tryz.prog 63 #[.agg #[.int .i64 pc, .int .i64 pr]] W fun e w' => e = .returned (.string u2) ∧ Below W.heap.size W w') := fun W => by rw [eu2]; exact refStamp_any pc pr W
    have zu2 : u2.size ≤ 43 := by rw [eu2]; show (textL _ _).toArray.size ≤ _; rw [List.size_toArray]; exact textL_len _ _
    have Eu2 : Hid (u2.data.toList = textL pc pr) := by show _ = _; rw [eu2]; simp [txt]
    clear eu2
    obtain ⟨u3, eu3⟩ : ∃ u : ByteArray, u = txt (afterL fc fr) := ⟨_, rfl⟩
    have Hu3 : Hid (∀ W, Calls Tryz.prog 65 #[.agg #[.int .i64 fc, .int .i64 fr]] W fun e w' => e = .returned (.string u3) ∧ Below W.heap.size W w') := fun W => by rw [eu3]; exact refAfter_any fc fr W
    have zu3 : u3.size ≤ 43 := by rw [eu3]; show (afterL _ _).toArray.size ≤ _; rw [List.size_toArray]; exact afterL_len _ _
    have Eu3 : Hid (u3.data.toList = afterL fc fr) := by show _ = _; rw [eu3]; simp [txt]
    clear eu3
    have HF : Hid ((((((((⟨#[109, 111, 118, 101, 32]⟩ : ByteArray) ++ hd) ++ u1) ++ (⟨#[32]⟩ : ByteArray)) ++ u2) ++ (⟨#[32]⟩ : ByteArray)) ++ u3) = txt (textCh ⟨ac, ar, sq, ds, 2, nc, nr, pc, pr, fc, fr, nm, vl⟩)) := bytes_ext (by simp only [bytes_app, Ehd.out, Eu1.out, Eu2.out, Eu3.out]; show _ = textCh ⟨ac, ar, sq, ds, 2, nc, nr, pc, pr, fc, fr, nm, vl⟩; rw [textCh_2 _ rfl]; simp [kindL])
    have n1 : ¬ 9223372036854775807 < 5 + hd.size := by omega
    have n2 : ¬ 9223372036854775807 < 5 + hd.size + u1.size := by omega
    have n3 : ¬ 9223372036854775807 < 5 + hd.size + u1.size + 1 := by omega
    have n4 : ¬ 9223372036854775807 < 5 + hd.size + u1.size + 1 + u2.size := by omega
    have n5 : ¬ 9223372036854775807 < 5 + hd.size + u1.size + 1 + u2.size + 1 := by omega
    have n6 : ¬ 9223372036854775807 < 5 + hd.size + u1.size + 1 + u2.size + 1 + u3.size := by omega
    go_wp2_with fail
    refine wp_region_held_drew (S := fun W' => KeptC w w.heap.size [.int .i64 ac, .int .i64 ar, .int .i64 sq, .slice a1 ds.length c1, .int .i64 2, .int .i64 nc, .int .i64 nr, .int .i64 pc, .int .i64 pr, .int .i64 fc, .int .i64 fr, .string nm, .string vl] W') (by kernel_rfl) K4.drew (fun hHeld => ?_)
    refine wpAnyH_take (i := 0) (oi := ⟨some 51, _, _, _, _, _⟩) (v := ?vr20) rfl (by kernel_rfl) (by kernel_rfl) (by kernel_rfl) (fun _ _ _ h => h) (Or.inl ⟨by rfl, ?hyr20⟩) hHeld ?restr20
    case hyr20 => (intro w hSw; (try dsimp only at hSw); have hc0 := hSw.1 0 _ rfl; have hc1 := hSw.1 1 _ rfl; have hc2 := hSw.1 2 _ rfl; have hc3 := hSw.1 3 _ rfl; have hc4 := hSw.1 4 _ rfl; have hc5 := hSw.1 5 _ rfl; have hc6 := hSw.1 6 _ rfl; have hc7 := hSw.1 7 _ rfl; have hc8 := hSw.1 8 _ rfl; have hc9 := hSw.1 9 _ rfl; have hc10 := hSw.1 10 _ rfl; have hc11 := hSw.1 11 _ rfl; have hc12 := hSw.1 12 _ rfl; go_simp; try with_reducible rfl)
    simp only [Act.put, List.setIfInBounds_toArray, List.set_cons_zero, List.set_cons_succ]
    refine wpAnyH_take (i := 1) (oi := ⟨some 52, _, _, _, _, _⟩) (v := ?vr21) rfl (by kernel_rfl) (by kernel_rfl) (by kernel_rfl) (fun _ _ _ h => h) (Or.inl ⟨by rfl, ?hyr21⟩) hHeld ?restr21
    case hyr21 => (intro w hSw; (try dsimp only at hSw); have hc0 := hSw.1 0 _ rfl; have hc1 := hSw.1 1 _ rfl; have hc2 := hSw.1 2 _ rfl; have hc3 := hSw.1 3 _ rfl; have hc4 := hSw.1 4 _ rfl; have hc5 := hSw.1 5 _ rfl; have hc6 := hSw.1 6 _ rfl; have hc7 := hSw.1 7 _ rfl; have hc8 := hSw.1 8 _ rfl; have hc9 := hSw.1 9 _ rfl; have hc10 := hSw.1 10 _ rfl; have hc11 := hSw.1 11 _ rfl; have hc12 := hSw.1 12 _ rfl; go_simp; try with_reducible rfl)
    simp only [Act.put, List.setIfInBounds_toArray, List.set_cons_zero, List.set_cons_succ]
    refine wpAnyH_take (i := 2) (oi := ⟨some 53, _, _, _, _, _⟩) (v := ?vr22) rfl (by kernel_rfl) (by kernel_rfl) (by kernel_rfl) (fun _ _ _ h => h) (Or.inl ⟨by rfl, ?hyr22⟩) hHeld ?restr22
    case hyr22 => (intro w hSw; (try dsimp only at hSw); have hc0 := hSw.1 0 _ rfl; have hc1 := hSw.1 1 _ rfl; have hc2 := hSw.1 2 _ rfl; have hc3 := hSw.1 3 _ rfl; have hc4 := hSw.1 4 _ rfl; have hc5 := hSw.1 5 _ rfl; have hc6 := hSw.1 6 _ rfl; have hc7 := hSw.1 7 _ rfl; have hc8 := hSw.1 8 _ rfl; have hc9 := hSw.1 9 _ rfl; have hc10 := hSw.1 10 _ rfl; have hc11 := hSw.1 11 _ rfl; have hc12 := hSw.1 12 _ rfl; go_simp; try with_reducible rfl)
    simp only [Act.put, List.setIfInBounds_toArray, List.set_cons_zero, List.set_cons_succ]
    refine wpAnyH_take (i := 3) (oi := ⟨some 54, _, _, _, _, _⟩) (v := ?vr23) rfl (by kernel_rfl) (by kernel_rfl) (by kernel_rfl) (fun _ _ _ h => h) (Or.inl ⟨by rfl, ?hyr23⟩) hHeld ?restr23
    case hyr23 => (intro w hSw; (try dsimp only at hSw); have hc0 := hSw.1 0 _ rfl; have hc1 := hSw.1 1 _ rfl; have hc2 := hSw.1 2 _ rfl; have hc3 := hSw.1 3 _ rfl; have hc4 := hSw.1 4 _ rfl; have hc5 := hSw.1 5 _ rfl; have hc6 := hSw.1 6 _ rfl; have hc7 := hSw.1 7 _ rfl; have hc8 := hSw.1 8 _ rfl; have hc9 := hSw.1 9 _ rfl; have hc10 := hSw.1 10 _ rfl; have hc11 := hSw.1 11 _ rfl; have hc12 := hSw.1 12 _ rfl; go_simp; try with_reducible rfl)
    simp only [Act.put, List.setIfInBounds_toArray, List.set_cons_zero, List.set_cons_succ]
    refine wpAnyH_take (i := 7) (oi := ⟨some 58, _, _, _, _, _⟩) (v := ?vr27) rfl (by kernel_rfl) (by kernel_rfl) (by kernel_rfl) (fun _ _ _ h => h) (Or.inl ⟨by rfl, ?hyr27⟩) hHeld ?restr27
    case hyr27 => (intro w hSw; (try dsimp only at hSw); have hc0 := hSw.1 0 _ rfl; have hc1 := hSw.1 1 _ rfl; have hc2 := hSw.1 2 _ rfl; have hc3 := hSw.1 3 _ rfl; have hc4 := hSw.1 4 _ rfl; have hc5 := hSw.1 5 _ rfl; have hc6 := hSw.1 6 _ rfl; have hc7 := hSw.1 7 _ rfl; have hc8 := hSw.1 8 _ rfl; have hc9 := hSw.1 9 _ rfl; have hc10 := hSw.1 10 _ rfl; have hc11 := hSw.1 11 _ rfl; have hc12 := hSw.1 12 _ rfl; go_simp; try with_reducible rfl)
    simp only [Act.put, List.setIfInBounds_toArray, List.set_cons_zero, List.set_cons_succ]
    refine wpAnyH_take (i := 8) (oi := ⟨some 59, _, _, _, _, _⟩) (v := ?vr28) rfl (by kernel_rfl) (by kernel_rfl) (by kernel_rfl) (fun _ _ _ h => h) (Or.inl ⟨by rfl, ?hyr28⟩) hHeld ?restr28
    case hyr28 => (intro w hSw; (try dsimp only at hSw); have hc0 := hSw.1 0 _ rfl; have hc1 := hSw.1 1 _ rfl; have hc2 := hSw.1 2 _ rfl; have hc3 := hSw.1 3 _ rfl; have hc4 := hSw.1 4 _ rfl; have hc5 := hSw.1 5 _ rfl; have hc6 := hSw.1 6 _ rfl; have hc7 := hSw.1 7 _ rfl; have hc8 := hSw.1 8 _ rfl; have hc9 := hSw.1 9 _ rfl; have hc10 := hSw.1 10 _ rfl; have hc11 := hSw.1 11 _ rfl; have hc12 := hSw.1 12 _ rfl; go_simp; try with_reducible rfl)
    simp only [Act.put, List.setIfInBounds_toArray, List.set_cons_zero, List.set_cons_succ]
    refine wpAnyH_take (i := 12) (oi := ⟨some 63, _, _, _, _, _⟩) (v := ?vr212) rfl (by kernel_rfl) (by kernel_rfl) (by kernel_rfl) (fun _ _ _ h => h) (Or.inl ⟨by rfl, ?hyr212⟩) hHeld ?restr212
    case hyr212 => (intro w hSw; (try dsimp only at hSw); have hc0 := hSw.1 0 _ rfl; have hc1 := hSw.1 1 _ rfl; have hc2 := hSw.1 2 _ rfl; have hc3 := hSw.1 3 _ rfl; have hc4 := hSw.1 4 _ rfl; have hc5 := hSw.1 5 _ rfl; have hc6 := hSw.1 6 _ rfl; have hc7 := hSw.1 7 _ rfl; have hc8 := hSw.1 8 _ rfl; have hc9 := hSw.1 9 _ rfl; have hc10 := hSw.1 10 _ rfl; have hc11 := hSw.1 11 _ rfl; have hc12 := hSw.1 12 _ rfl; go_simp; try with_reducible rfl)
    simp only [Act.put, List.setIfInBounds_toArray, List.set_cons_zero, List.set_cons_succ]
    refine wpAnyH_take (i := 13) (oi := ⟨some 64, _, _, _, _, _⟩) (v := ?vr213) rfl (by kernel_rfl) (by kernel_rfl) (by kernel_rfl) (fun _ _ _ h => h) (Or.inl ⟨by rfl, ?hyr213⟩) hHeld ?restr213
    case hyr213 => (intro w hSw; (try dsimp only at hSw); have hc0 := hSw.1 0 _ rfl; have hc1 := hSw.1 1 _ rfl; have hc2 := hSw.1 2 _ rfl; have hc3 := hSw.1 3 _ rfl; have hc4 := hSw.1 4 _ rfl; have hc5 := hSw.1 5 _ rfl; have hc6 := hSw.1 6 _ rfl; have hc7 := hSw.1 7 _ rfl; have hc8 := hSw.1 8 _ rfl; have hc9 := hSw.1 9 _ rfl; have hc10 := hSw.1 10 _ rfl; have hc11 := hSw.1 11 _ rfl; have hc12 := hSw.1 12 _ rfl; go_simp; try with_reducible rfl)
    simp only [Act.put, List.setIfInBounds_toArray, List.set_cons_zero, List.set_cons_succ]
    refine wpAnyH_ready (rs := [4]) (by kernel_rfl) (by simp) ?_
    refine AllReadyH.cons (o := ⟨some 55, _, _, _, _, _⟩) rfl (fun K hK => ?_) AllReadyH.nil
    go_simp
    refine (Hu1.out _).mono ?_
    rintro e w10 ⟨rfl, hb⟩
    (try go_wp2_with fail)
    refine hK.out _ _ (hHeld.step hb) (fun hHeld2 => ?_)
    clear hK K hHeld
    have hHeld := hHeld2
    clear hHeld2
    (try simp only [Act.put, List.setIfInBounds_toArray, List.set_cons_zero, List.set_cons_succ])
    refine wpAnyH_take (i := 5) (oi := ⟨some 56, _, _, _, _, _⟩) (v := ?vr25) rfl (by kernel_rfl) (by kernel_rfl) (by kernel_rfl) (fun _ _ _ h => h) (Or.inl ⟨by rfl, ?hyr25⟩) hHeld ?restr25
    case hyr25 => (intro w hSw; (try dsimp only at hSw); have hc0 := hSw.1 0 _ rfl; have hc1 := hSw.1 1 _ rfl; have hc2 := hSw.1 2 _ rfl; have hc3 := hSw.1 3 _ rfl; have hc4 := hSw.1 4 _ rfl; have hc5 := hSw.1 5 _ rfl; have hc6 := hSw.1 6 _ rfl; have hc7 := hSw.1 7 _ rfl; have hc8 := hSw.1 8 _ rfl; have hc9 := hSw.1 9 _ rfl; have hc10 := hSw.1 10 _ rfl; have hc11 := hSw.1 11 _ rfl; have hc12 := hSw.1 12 _ rfl; go_simp; try with_reducible rfl)
    simp only [Act.put, List.setIfInBounds_toArray, List.set_cons_zero, List.set_cons_succ]
    refine wpAnyH_take (i := 6) (oi := ⟨some 57, _, _, _, _, _⟩) (v := ?vr26) rfl (by kernel_rfl) (by kernel_rfl) (by kernel_rfl) (fun _ _ _ h => h) (Or.inl ⟨by rfl, ?hyr26⟩) hHeld ?restr26
    case hyr26 => (intro w hSw; (try dsimp only at hSw); have hc0 := hSw.1 0 _ rfl; have hc1 := hSw.1 1 _ rfl; have hc2 := hSw.1 2 _ rfl; have hc3 := hSw.1 3 _ rfl; have hc4 := hSw.1 4 _ rfl; have hc5 := hSw.1 5 _ rfl; have hc6 := hSw.1 6 _ rfl; have hc7 := hSw.1 7 _ rfl; have hc8 := hSw.1 8 _ rfl; have hc9 := hSw.1 9 _ rfl; have hc10 := hSw.1 10 _ rfl; have hc11 := hSw.1 11 _ rfl; have hc12 := hSw.1 12 _ rfl; go_simp; try with_reducible rfl)
    simp only [Act.put, List.setIfInBounds_toArray, List.set_cons_zero, List.set_cons_succ]
    refine wpAnyH_ready (rs := [9]) (by kernel_rfl) (by simp) ?_
    refine AllReadyH.cons (o := ⟨some 60, _, _, _, _, _⟩) rfl (fun K hK => ?_) AllReadyH.nil
    go_simp
    refine (Hu2.out _).mono ?_
    rintro e w11 ⟨rfl, hb⟩
    (try go_wp2_with fail)
    refine hK.out _ _ (hHeld.step hb) (fun hHeld2 => ?_)
    clear hK K hHeld
    have hHeld := hHeld2
    clear hHeld2
    (try simp only [Act.put, List.setIfInBounds_toArray, List.set_cons_zero, List.set_cons_succ])
    refine wpAnyH_take (i := 10) (oi := ⟨some 61, _, _, _, _, _⟩) (v := ?vr210) rfl (by kernel_rfl) (by kernel_rfl) (by kernel_rfl) (fun _ _ _ h => h) (Or.inl ⟨by rfl, ?hyr210⟩) hHeld ?restr210
    case hyr210 => (intro w hSw; (try dsimp only at hSw); have hc0 := hSw.1 0 _ rfl; have hc1 := hSw.1 1 _ rfl; have hc2 := hSw.1 2 _ rfl; have hc3 := hSw.1 3 _ rfl; have hc4 := hSw.1 4 _ rfl; have hc5 := hSw.1 5 _ rfl; have hc6 := hSw.1 6 _ rfl; have hc7 := hSw.1 7 _ rfl; have hc8 := hSw.1 8 _ rfl; have hc9 := hSw.1 9 _ rfl; have hc10 := hSw.1 10 _ rfl; have hc11 := hSw.1 11 _ rfl; have hc12 := hSw.1 12 _ rfl; go_simp; try with_reducible rfl)
    simp only [Act.put, List.setIfInBounds_toArray, List.set_cons_zero, List.set_cons_succ]
    refine wpAnyH_take (i := 11) (oi := ⟨some 62, _, _, _, _, _⟩) (v := ?vr211) rfl (by kernel_rfl) (by kernel_rfl) (by kernel_rfl) (fun _ _ _ h => h) (Or.inl ⟨by rfl, ?hyr211⟩) hHeld ?restr211
    case hyr211 => (intro w hSw; (try dsimp only at hSw); have hc0 := hSw.1 0 _ rfl; have hc1 := hSw.1 1 _ rfl; have hc2 := hSw.1 2 _ rfl; have hc3 := hSw.1 3 _ rfl; have hc4 := hSw.1 4 _ rfl; have hc5 := hSw.1 5 _ rfl; have hc6 := hSw.1 6 _ rfl; have hc7 := hSw.1 7 _ rfl; have hc8 := hSw.1 8 _ rfl; have hc9 := hSw.1 9 _ rfl; have hc10 := hSw.1 10 _ rfl; have hc11 := hSw.1 11 _ rfl; have hc12 := hSw.1 12 _ rfl; go_simp; try with_reducible rfl)
    simp only [Act.put, List.setIfInBounds_toArray, List.set_cons_zero, List.set_cons_succ]
    refine wpAnyH_ready (rs := [14]) (by kernel_rfl) (by simp) ?_
    refine AllReadyH.cons (o := ⟨some 65, _, _, _, _, _⟩) rfl (fun K hK => ?_) AllReadyH.nil
    go_simp
    refine (Hu3.out _).mono ?_
    rintro e w12 ⟨rfl, hb⟩
    (try go_wp2_with fail)
    refine hK.out _ _ (hHeld.step hb) (fun hHeld2 => ?_)
    clear hK K hHeld
    have hHeld := hHeld2
    clear hHeld2
    (try simp only [Act.put, List.setIfInBounds_toArray, List.set_cons_zero, List.set_cons_succ])
    refine wpAnyH_take (i := 15) (oi := ⟨some 66, _, _, _, _, _⟩) (v := ?vr215) rfl (by kernel_rfl) (by kernel_rfl) (by kernel_rfl) (fun _ _ _ h => h) (Or.inl ⟨by rfl, ?hyr215⟩) hHeld ?restr215
    case hyr215 => (intro w hSw; (try dsimp only at hSw); have hc0 := hSw.1 0 _ rfl; have hc1 := hSw.1 1 _ rfl; have hc2 := hSw.1 2 _ rfl; have hc3 := hSw.1 3 _ rfl; have hc4 := hSw.1 4 _ rfl; have hc5 := hSw.1 5 _ rfl; have hc6 := hSw.1 6 _ rfl; have hc7 := hSw.1 7 _ rfl; have hc8 := hSw.1 8 _ rfl; have hc9 := hSw.1 9 _ rfl; have hc10 := hSw.1 10 _ rfl; have hc11 := hSw.1 11 _ rfl; have hc12 := hSw.1 12 _ rfl; go_simp; try with_reducible rfl)
    simp only [Act.put, List.setIfInBounds_toArray, List.set_cons_zero, List.set_cons_succ]
    refine wpAnyH_take (i := 16) (oi := ⟨some 2, _, _, _, _, _⟩) (v := ?vr216) rfl (by kernel_rfl) (by kernel_rfl) (by kernel_rfl) (fun _ _ _ h => h) (Or.inl ⟨by rfl, ?hyr216⟩) hHeld ?restr216
    case hyr216 => (intro w hSw; (try dsimp only at hSw); have hc0 := hSw.1 0 _ rfl; have hc1 := hSw.1 1 _ rfl; have hc2 := hSw.1 2 _ rfl; have hc3 := hSw.1 3 _ rfl; have hc4 := hSw.1 4 _ rfl; have hc5 := hSw.1 5 _ rfl; have hc6 := hSw.1 6 _ rfl; have hc7 := hSw.1 7 _ rfl; have hc8 := hSw.1 8 _ rfl; have hc9 := hSw.1 9 _ rfl; have hc10 := hSw.1 10 _ rfl; have hc11 := hSw.1 11 _ rfl; have hc12 := hSw.1 12 _ rfl; go_simp; try with_reducible rfl)
    simp only [Act.put, List.setIfInBounds_toArray, List.set_cons_zero, List.set_cons_succ]
    refine wpAnyH_take (i := 17) (oi := ⟨some 3, _, _, _, _, _⟩) (v := ?vr217) rfl (by kernel_rfl) (by kernel_rfl) (by kernel_rfl) (fun _ _ _ h => h) (Or.inl ⟨by rfl, ?hyr217⟩) hHeld ?restr217
    case hyr217 => (intro w hSw; (try dsimp only at hSw); have hc0 := hSw.1 0 _ rfl; have hc1 := hSw.1 1 _ rfl; have hc2 := hSw.1 2 _ rfl; have hc3 := hSw.1 3 _ rfl; have hc4 := hSw.1 4 _ rfl; have hc5 := hSw.1 5 _ rfl; have hc6 := hSw.1 6 _ rfl; have hc7 := hSw.1 7 _ rfl; have hc8 := hSw.1 8 _ rfl; have hc9 := hSw.1 9 _ rfl; have hc10 := hSw.1 10 _ rfl; have hc11 := hSw.1 11 _ rfl; have hc12 := hSw.1 12 _ rfl; go_simp; try with_reducible rfl)
    simp only [Act.put, List.setIfInBounds_toArray, List.set_cons_zero, List.set_cons_succ]
    refine wpAnyH_done (by kernel_rfl) ?_ _
    have bz := hHeld.2.2
    clear hHeld
    go_wp2
    go_ret2
    exact ⟨ret_siT HF.out, bz⟩
  · have hnm : nm.size ≤ 32 := by have h0 := (checkCh_ok _ hc).2.2.2.2.2.2.1; have h5 : nameL nm.data.toList = true := (if_pos (show hasName 3 = true by decide)).symm.trans h0; unfold nameL at h5; simp only [Bool.and_eq_true, decide_eq_true_eq] at h5; have := h5.1; rw [size_list] at this; omega
    obtain ⟨u1, eu1⟩ : ∃ u : ByteArray, u = txt (textL nc nr) := ⟨_, rfl⟩
    have Hu1 : Hid (∀ W, Calls Tryz.prog 63 #[.agg #[.int .i64 nc, .int .i64 nr]] W fun e w' => e = .returned (.string u1) ∧ Below W.heap.size W w') := fun W => by rw [eu1]; exact refStamp_any nc nr W
    have zu1 : u1.size ≤ 43 := by rw [eu1]; show (textL _ _).toArray.size ≤ _; rw [List.size_toArray]; exact textL_len _ _
    have Eu1 : Hid (u1.data.toList = textL nc nr) := by show _ = _; rw [eu1]; simp [txt]
    clear eu1
    obtain ⟨u2, eu2⟩ : ∃ u : ByteArray, u = txt (quoteL vl.data.toList) := ⟨_, rfl⟩
    have Hu2 : Hid (∀ W, Calls Tryz.prog 26 #[.string vl] W fun e w' => e = .returned (.string u2) ∧ Below W.heap.size W w') := fun W => by rw [eu2]; exact refQuote_any vl (by omega) W
    have zu2 : u2.size ≤ 771 := by rw [eu2]; show (quoteL _).toArray.size ≤ _; rw [List.size_toArray, quoteL_len]; have := (bodyL_len vl.data.toList).2; rw [size_list] at this; omega
    have Eu2 : Hid (u2.data.toList = quoteL vl.data.toList) := by show _ = _; rw [eu2]; simp [txt]
    clear eu2
    have HF : Hid ((((((((⟨#[115, 101, 116, 32]⟩ : ByteArray) ++ hd) ++ u1) ++ (⟨#[32]⟩ : ByteArray)) ++ nm) ++ (⟨#[32]⟩ : ByteArray)) ++ u2) = txt (textCh ⟨ac, ar, sq, ds, 3, nc, nr, pc, pr, fc, fr, nm, vl⟩)) := bytes_ext (by simp only [bytes_app, Ehd.out, Eu1.out, Eu2.out]; show _ = textCh ⟨ac, ar, sq, ds, 3, nc, nr, pc, pr, fc, fr, nm, vl⟩; rw [textCh_3 _ rfl]; simp [kindL])
    have n1 : ¬ 9223372036854775807 < 4 + hd.size := by omega
    have n2 : ¬ 9223372036854775807 < 4 + hd.size + u1.size := by omega
    have n3 : ¬ 9223372036854775807 < 4 + hd.size + u1.size + 1 := by omega
    have n4 : ¬ 9223372036854775807 < 4 + hd.size + u1.size + 1 + nm.size := by omega
    have n5 : ¬ 9223372036854775807 < 4 + hd.size + u1.size + 1 + nm.size + 1 := by omega
    have n6 : ¬ 9223372036854775807 < 4 + hd.size + u1.size + 1 + nm.size + 1 + u2.size := by omega
    go_wp2_with fail
    refine wp_region_held_drew (S := fun W' => KeptC w w.heap.size [.int .i64 ac, .int .i64 ar, .int .i64 sq, .slice a1 ds.length c1, .int .i64 3, .int .i64 nc, .int .i64 nr, .int .i64 pc, .int .i64 pr, .int .i64 fc, .int .i64 fr, .string nm, .string vl] W') (by kernel_rfl) K4.drew (fun hHeld => ?_)
    refine wpAnyH_take (i := 0) (oi := ⟨some 69, _, _, _, _, _⟩) (v := ?vr30) rfl (by kernel_rfl) (by kernel_rfl) (by kernel_rfl) (fun _ _ _ h => h) (Or.inl ⟨by rfl, ?hyr30⟩) hHeld ?restr30
    case hyr30 => (intro w hSw; (try dsimp only at hSw); have hc0 := hSw.1 0 _ rfl; have hc1 := hSw.1 1 _ rfl; have hc2 := hSw.1 2 _ rfl; have hc3 := hSw.1 3 _ rfl; have hc4 := hSw.1 4 _ rfl; have hc5 := hSw.1 5 _ rfl; have hc6 := hSw.1 6 _ rfl; have hc7 := hSw.1 7 _ rfl; have hc8 := hSw.1 8 _ rfl; have hc9 := hSw.1 9 _ rfl; have hc10 := hSw.1 10 _ rfl; have hc11 := hSw.1 11 _ rfl; have hc12 := hSw.1 12 _ rfl; go_simp; try with_reducible rfl)
    simp only [Act.put, List.setIfInBounds_toArray, List.set_cons_zero, List.set_cons_succ]
    refine wpAnyH_take (i := 1) (oi := ⟨some 70, _, _, _, _, _⟩) (v := ?vr31) rfl (by kernel_rfl) (by kernel_rfl) (by kernel_rfl) (fun _ _ _ h => h) (Or.inl ⟨by rfl, ?hyr31⟩) hHeld ?restr31
    case hyr31 => (intro w hSw; (try dsimp only at hSw); have hc0 := hSw.1 0 _ rfl; have hc1 := hSw.1 1 _ rfl; have hc2 := hSw.1 2 _ rfl; have hc3 := hSw.1 3 _ rfl; have hc4 := hSw.1 4 _ rfl; have hc5 := hSw.1 5 _ rfl; have hc6 := hSw.1 6 _ rfl; have hc7 := hSw.1 7 _ rfl; have hc8 := hSw.1 8 _ rfl; have hc9 := hSw.1 9 _ rfl; have hc10 := hSw.1 10 _ rfl; have hc11 := hSw.1 11 _ rfl; have hc12 := hSw.1 12 _ rfl; go_simp; try with_reducible rfl)
    simp only [Act.put, List.setIfInBounds_toArray, List.set_cons_zero, List.set_cons_succ]
    refine wpAnyH_take (i := 2) (oi := ⟨some 71, _, _, _, _, _⟩) (v := ?vr32) rfl (by kernel_rfl) (by kernel_rfl) (by kernel_rfl) (fun _ _ _ h => h) (Or.inl ⟨by rfl, ?hyr32⟩) hHeld ?restr32
    case hyr32 => (intro w hSw; (try dsimp only at hSw); have hc0 := hSw.1 0 _ rfl; have hc1 := hSw.1 1 _ rfl; have hc2 := hSw.1 2 _ rfl; have hc3 := hSw.1 3 _ rfl; have hc4 := hSw.1 4 _ rfl; have hc5 := hSw.1 5 _ rfl; have hc6 := hSw.1 6 _ rfl; have hc7 := hSw.1 7 _ rfl; have hc8 := hSw.1 8 _ rfl; have hc9 := hSw.1 9 _ rfl; have hc10 := hSw.1 10 _ rfl; have hc11 := hSw.1 11 _ rfl; have hc12 := hSw.1 12 _ rfl; go_simp; try with_reducible rfl)
    simp only [Act.put, List.setIfInBounds_toArray, List.set_cons_zero, List.set_cons_succ]
    refine wpAnyH_take (i := 3) (oi := ⟨some 72, _, _, _, _, _⟩) (v := ?vr33) rfl (by kernel_rfl) (by kernel_rfl) (by kernel_rfl) (fun _ _ _ h => h) (Or.inl ⟨by rfl, ?hyr33⟩) hHeld ?restr33
    case hyr33 => (intro w hSw; (try dsimp only at hSw); have hc0 := hSw.1 0 _ rfl; have hc1 := hSw.1 1 _ rfl; have hc2 := hSw.1 2 _ rfl; have hc3 := hSw.1 3 _ rfl; have hc4 := hSw.1 4 _ rfl; have hc5 := hSw.1 5 _ rfl; have hc6 := hSw.1 6 _ rfl; have hc7 := hSw.1 7 _ rfl; have hc8 := hSw.1 8 _ rfl; have hc9 := hSw.1 9 _ rfl; have hc10 := hSw.1 10 _ rfl; have hc11 := hSw.1 11 _ rfl; have hc12 := hSw.1 12 _ rfl; go_simp; try with_reducible rfl)
    simp only [Act.put, List.setIfInBounds_toArray, List.set_cons_zero, List.set_cons_succ]
    refine wpAnyH_take (i := 7) (oi := ⟨some 76, _, _, _, _, _⟩) (v := ?vr37) rfl (by kernel_rfl) (by kernel_rfl) (by kernel_rfl) (fun _ _ _ h => h) (Or.inl ⟨by rfl, ?hyr37⟩) hHeld ?restr37
    case hyr37 => (intro w hSw; (try dsimp only at hSw); have hc0 := hSw.1 0 _ rfl; have hc1 := hSw.1 1 _ rfl; have hc2 := hSw.1 2 _ rfl; have hc3 := hSw.1 3 _ rfl; have hc4 := hSw.1 4 _ rfl; have hc5 := hSw.1 5 _ rfl; have hc6 := hSw.1 6 _ rfl; have hc7 := hSw.1 7 _ rfl; have hc8 := hSw.1 8 _ rfl; have hc9 := hSw.1 9 _ rfl; have hc10 := hSw.1 10 _ rfl; have hc11 := hSw.1 11 _ rfl; have hc12 := hSw.1 12 _ rfl; go_simp; try with_reducible rfl)
    simp only [Act.put, List.setIfInBounds_toArray, List.set_cons_zero, List.set_cons_succ]
    refine wpAnyH_take (i := 8) (oi := ⟨some 77, _, _, _, _, _⟩) (v := ?vr38) rfl (by kernel_rfl) (by kernel_rfl) (by kernel_rfl) (fun _ _ _ h => h) (Or.inl ⟨by rfl, ?hyr38⟩) hHeld ?restr38
    case hyr38 => (intro w hSw; (try dsimp only at hSw); have hc0 := hSw.1 0 _ rfl; have hc1 := hSw.1 1 _ rfl; have hc2 := hSw.1 2 _ rfl; have hc3 := hSw.1 3 _ rfl; have hc4 := hSw.1 4 _ rfl; have hc5 := hSw.1 5 _ rfl; have hc6 := hSw.1 6 _ rfl; have hc7 := hSw.1 7 _ rfl; have hc8 := hSw.1 8 _ rfl; have hc9 := hSw.1 9 _ rfl; have hc10 := hSw.1 10 _ rfl; have hc11 := hSw.1 11 _ rfl; have hc12 := hSw.1 12 _ rfl; go_simp; try with_reducible rfl)
    simp only [Act.put, List.setIfInBounds_toArray, List.set_cons_zero, List.set_cons_succ]
    refine wpAnyH_take (i := 11) (oi := ⟨some 80, _, _, _, _, _⟩) (v := ?vr311) rfl (by kernel_rfl) (by kernel_rfl) (by kernel_rfl) (fun _ _ _ h => h) (Or.inl ⟨by rfl, ?hyr311⟩) hHeld ?restr311
    case hyr311 => (intro w hSw; (try dsimp only at hSw); have hc0 := hSw.1 0 _ rfl; have hc1 := hSw.1 1 _ rfl; have hc2 := hSw.1 2 _ rfl; have hc3 := hSw.1 3 _ rfl; have hc4 := hSw.1 4 _ rfl; have hc5 := hSw.1 5 _ rfl; have hc6 := hSw.1 6 _ rfl; have hc7 := hSw.1 7 _ rfl; have hc8 := hSw.1 8 _ rfl; have hc9 := hSw.1 9 _ rfl; have hc10 := hSw.1 10 _ rfl; have hc11 := hSw.1 11 _ rfl; have hc12 := hSw.1 12 _ rfl; go_simp; try with_reducible rfl)
    simp only [Act.put, List.setIfInBounds_toArray, List.set_cons_zero, List.set_cons_succ]
    refine wpAnyH_take (i := 12) (oi := ⟨some 81, _, _, _, _, _⟩) (v := ?vr312) rfl (by kernel_rfl) (by kernel_rfl) (by kernel_rfl) (fun _ _ _ h => h) (Or.inl ⟨by rfl, ?hyr312⟩) hHeld ?restr312
    case hyr312 => (intro w hSw; (try dsimp only at hSw); have hc0 := hSw.1 0 _ rfl; have hc1 := hSw.1 1 _ rfl; have hc2 := hSw.1 2 _ rfl; have hc3 := hSw.1 3 _ rfl; have hc4 := hSw.1 4 _ rfl; have hc5 := hSw.1 5 _ rfl; have hc6 := hSw.1 6 _ rfl; have hc7 := hSw.1 7 _ rfl; have hc8 := hSw.1 8 _ rfl; have hc9 := hSw.1 9 _ rfl; have hc10 := hSw.1 10 _ rfl; have hc11 := hSw.1 11 _ rfl; have hc12 := hSw.1 12 _ rfl; go_simp; try with_reducible rfl)
    simp only [Act.put, List.setIfInBounds_toArray, List.set_cons_zero, List.set_cons_succ]
    refine wpAnyH_ready (rs := [4]) (by kernel_rfl) (by simp) ?_
    refine AllReadyH.cons (o := ⟨some 73, _, _, _, _, _⟩) rfl (fun K hK => ?_) AllReadyH.nil
    go_simp
    refine (Hu1.out _).mono ?_
    rintro e w10 ⟨rfl, hb⟩
    (try go_wp2_with fail)
    refine hK.out _ _ (hHeld.step hb) (fun hHeld2 => ?_)
    clear hK K hHeld
    have hHeld := hHeld2
    clear hHeld2
    (try simp only [Act.put, List.setIfInBounds_toArray, List.set_cons_zero, List.set_cons_succ])
    refine wpAnyH_take (i := 5) (oi := ⟨some 74, _, _, _, _, _⟩) (v := ?vr35) rfl (by kernel_rfl) (by kernel_rfl) (by kernel_rfl) (fun _ _ _ h => h) (Or.inl ⟨by rfl, ?hyr35⟩) hHeld ?restr35
    case hyr35 => (intro w hSw; (try dsimp only at hSw); have hc0 := hSw.1 0 _ rfl; have hc1 := hSw.1 1 _ rfl; have hc2 := hSw.1 2 _ rfl; have hc3 := hSw.1 3 _ rfl; have hc4 := hSw.1 4 _ rfl; have hc5 := hSw.1 5 _ rfl; have hc6 := hSw.1 6 _ rfl; have hc7 := hSw.1 7 _ rfl; have hc8 := hSw.1 8 _ rfl; have hc9 := hSw.1 9 _ rfl; have hc10 := hSw.1 10 _ rfl; have hc11 := hSw.1 11 _ rfl; have hc12 := hSw.1 12 _ rfl; go_simp; try with_reducible rfl)
    simp only [Act.put, List.setIfInBounds_toArray, List.set_cons_zero, List.set_cons_succ]
    refine wpAnyH_take (i := 6) (oi := ⟨some 75, _, _, _, _, _⟩) (v := ?vr36) rfl (by kernel_rfl) (by kernel_rfl) (by kernel_rfl) (fun _ _ _ h => h) (Or.inl ⟨by rfl, ?hyr36⟩) hHeld ?restr36
    case hyr36 => (intro w hSw; (try dsimp only at hSw); have hc0 := hSw.1 0 _ rfl; have hc1 := hSw.1 1 _ rfl; have hc2 := hSw.1 2 _ rfl; have hc3 := hSw.1 3 _ rfl; have hc4 := hSw.1 4 _ rfl; have hc5 := hSw.1 5 _ rfl; have hc6 := hSw.1 6 _ rfl; have hc7 := hSw.1 7 _ rfl; have hc8 := hSw.1 8 _ rfl; have hc9 := hSw.1 9 _ rfl; have hc10 := hSw.1 10 _ rfl; have hc11 := hSw.1 11 _ rfl; have hc12 := hSw.1 12 _ rfl; go_simp; try with_reducible rfl)
    simp only [Act.put, List.setIfInBounds_toArray, List.set_cons_zero, List.set_cons_succ]
    refine wpAnyH_take (i := 9) (oi := ⟨some 78, _, _, _, _, _⟩) (v := ?vr39) rfl (by kernel_rfl) (by kernel_rfl) (by kernel_rfl) (fun _ _ _ h => h) (Or.inl ⟨by rfl, ?hyr39⟩) hHeld ?restr39
    case hyr39 => (intro w hSw; (try dsimp only at hSw); have hc0 := hSw.1 0 _ rfl; have hc1 := hSw.1 1 _ rfl; have hc2 := hSw.1 2 _ rfl; have hc3 := hSw.1 3 _ rfl; have hc4 := hSw.1 4 _ rfl; have hc5 := hSw.1 5 _ rfl; have hc6 := hSw.1 6 _ rfl; have hc7 := hSw.1 7 _ rfl; have hc8 := hSw.1 8 _ rfl; have hc9 := hSw.1 9 _ rfl; have hc10 := hSw.1 10 _ rfl; have hc11 := hSw.1 11 _ rfl; have hc12 := hSw.1 12 _ rfl; go_simp; try with_reducible rfl)
    simp only [Act.put, List.setIfInBounds_toArray, List.set_cons_zero, List.set_cons_succ]
    refine wpAnyH_take (i := 10) (oi := ⟨some 79, _, _, _, _, _⟩) (v := ?vr310) rfl (by kernel_rfl) (by kernel_rfl) (by kernel_rfl) (fun _ _ _ h => h) (Or.inl ⟨by rfl, ?hyr310⟩) hHeld ?restr310
    case hyr310 => (intro w hSw; (try dsimp only at hSw); have hc0 := hSw.1 0 _ rfl; have hc1 := hSw.1 1 _ rfl; have hc2 := hSw.1 2 _ rfl; have hc3 := hSw.1 3 _ rfl; have hc4 := hSw.1 4 _ rfl; have hc5 := hSw.1 5 _ rfl; have hc6 := hSw.1 6 _ rfl; have hc7 := hSw.1 7 _ rfl; have hc8 := hSw.1 8 _ rfl; have hc9 := hSw.1 9 _ rfl; have hc10 := hSw.1 10 _ rfl; have hc11 := hSw.1 11 _ rfl; have hc12 := hSw.1 12 _ rfl; go_simp; try with_reducible rfl)
    simp only [Act.put, List.setIfInBounds_toArray, List.set_cons_zero, List.set_cons_succ]
    refine wpAnyH_ready (rs := [13]) (by kernel_rfl) (by simp) ?_
    refine AllReadyH.cons (o := ⟨some 82, _, _, _, _, _⟩) rfl (fun K hK => ?_) AllReadyH.nil
    go_simp
    refine (Hu2.out _).mono ?_
    rintro e w11 ⟨rfl, hb⟩
    (try go_wp2_with fail)
    refine hK.out _ _ (hHeld.step hb) (fun hHeld2 => ?_)
    clear hK K hHeld
    have hHeld := hHeld2
    clear hHeld2
    (try simp only [Act.put, List.setIfInBounds_toArray, List.set_cons_zero, List.set_cons_succ])
    refine wpAnyH_take (i := 14) (oi := ⟨some 83, _, _, _, _, _⟩) (v := ?vr314) rfl (by kernel_rfl) (by kernel_rfl) (by kernel_rfl) (fun _ _ _ h => h) (Or.inl ⟨by rfl, ?hyr314⟩) hHeld ?restr314
    case hyr314 => (intro w hSw; (try dsimp only at hSw); have hc0 := hSw.1 0 _ rfl; have hc1 := hSw.1 1 _ rfl; have hc2 := hSw.1 2 _ rfl; have hc3 := hSw.1 3 _ rfl; have hc4 := hSw.1 4 _ rfl; have hc5 := hSw.1 5 _ rfl; have hc6 := hSw.1 6 _ rfl; have hc7 := hSw.1 7 _ rfl; have hc8 := hSw.1 8 _ rfl; have hc9 := hSw.1 9 _ rfl; have hc10 := hSw.1 10 _ rfl; have hc11 := hSw.1 11 _ rfl; have hc12 := hSw.1 12 _ rfl; go_simp; try with_reducible rfl)
    simp only [Act.put, List.setIfInBounds_toArray, List.set_cons_zero, List.set_cons_succ]
    refine wpAnyH_take (i := 15) (oi := ⟨some 2, _, _, _, _, _⟩) (v := ?vr315) rfl (by kernel_rfl) (by kernel_rfl) (by kernel_rfl) (fun _ _ _ h => h) (Or.inl ⟨by rfl, ?hyr315⟩) hHeld ?restr315
    case hyr315 => (intro w hSw; (try dsimp only at hSw); have hc0 := hSw.1 0 _ rfl; have hc1 := hSw.1 1 _ rfl; have hc2 := hSw.1 2 _ rfl; have hc3 := hSw.1 3 _ rfl; have hc4 := hSw.1 4 _ rfl; have hc5 := hSw.1 5 _ rfl; have hc6 := hSw.1 6 _ rfl; have hc7 := hSw.1 7 _ rfl; have hc8 := hSw.1 8 _ rfl; have hc9 := hSw.1 9 _ rfl; have hc10 := hSw.1 10 _ rfl; have hc11 := hSw.1 11 _ rfl; have hc12 := hSw.1 12 _ rfl; go_simp; try with_reducible rfl)
    simp only [Act.put, List.setIfInBounds_toArray, List.set_cons_zero, List.set_cons_succ]
    refine wpAnyH_take (i := 16) (oi := ⟨some 3, _, _, _, _, _⟩) (v := ?vr316) rfl (by kernel_rfl) (by kernel_rfl) (by kernel_rfl) (fun _ _ _ h => h) (Or.inl ⟨by rfl, ?hyr316⟩) hHeld ?restr316
    case hyr316 => (intro w hSw; (try dsimp only at hSw); have hc0 := hSw.1 0 _ rfl; have hc1 := hSw.1 1 _ rfl; have hc2 := hSw.1 2 _ rfl; have hc3 := hSw.1 3 _ rfl; have hc4 := hSw.1 4 _ rfl; have hc5 := hSw.1 5 _ rfl; have hc6 := hSw.1 6 _ rfl; have hc7 := hSw.1 7 _ rfl; have hc8 := hSw.1 8 _ rfl; have hc9 := hSw.1 9 _ rfl; have hc10 := hSw.1 10 _ rfl; have hc11 := hSw.1 11 _ rfl; have hc12 := hSw.1 12 _ rfl; go_simp; try with_reducible rfl)
    simp only [Act.put, List.setIfInBounds_toArray, List.set_cons_zero, List.set_cons_succ]
    refine wpAnyH_done (by kernel_rfl) ?_ _
    have bz := hHeld.2.2
    clear hHeld
    go_wp2
    go_ret2
    exact ⟨ret_siT HF.out, bz⟩
  · have hnm : nm.size ≤ 32 := by have h0 := (checkCh_ok _ hc).2.2.2.2.2.2.1; have h5 : nameL nm.data.toList = true := (if_pos (show hasName 4 = true by decide)).symm.trans h0; unfold nameL at h5; simp only [Bool.and_eq_true, decide_eq_true_eq] at h5; have := h5.1; rw [size_list] at this; omega
    obtain ⟨u1, eu1⟩ : ∃ u : ByteArray, u = txt (textL nc nr) := ⟨_, rfl⟩
    have Hu1 : Hid (∀ W, Calls Tryz.prog 63 #[.agg #[.int .i64 nc, .int .i64 nr]] W fun e w' => e = .returned (.string u1) ∧ Below W.heap.size W w') := fun W => by rw [eu1]; exact refStamp_any nc nr W
    have zu1 : u1.size ≤ 43 := by rw [eu1]; show (textL _ _).toArray.size ≤ _; rw [List.size_toArray]; exact textL_len _ _
    have Eu1 : Hid (u1.data.toList = textL nc nr) := by show _ = _; rw [eu1]; simp [txt]
    clear eu1
    have HF : Hid ((((((⟨#[99, 108, 101, 97, 114, 32]⟩ : ByteArray) ++ hd) ++ u1) ++ (⟨#[32]⟩ : ByteArray)) ++ nm) = txt (textCh ⟨ac, ar, sq, ds, 4, nc, nr, pc, pr, fc, fr, nm, vl⟩)) := bytes_ext (by simp only [bytes_app, Ehd.out, Eu1.out]; show _ = textCh ⟨ac, ar, sq, ds, 4, nc, nr, pc, pr, fc, fr, nm, vl⟩; rw [textCh_4 _ rfl]; simp [kindL])
    have n1 : ¬ 9223372036854775807 < 6 + hd.size := by omega
    have n2 : ¬ 9223372036854775807 < 6 + hd.size + u1.size := by omega
    have n3 : ¬ 9223372036854775807 < 6 + hd.size + u1.size + 1 := by omega
    have n4 : ¬ 9223372036854775807 < 6 + hd.size + u1.size + 1 + nm.size := by omega
    go_wp2_with fail
    refine wp_region_held_drew (S := fun W' => KeptC w w.heap.size [.int .i64 ac, .int .i64 ar, .int .i64 sq, .slice a1 ds.length c1, .int .i64 4, .int .i64 nc, .int .i64 nr, .int .i64 pc, .int .i64 pr, .int .i64 fc, .int .i64 fr, .string nm, .string vl] W') (by kernel_rfl) K4.drew (fun hHeld => ?_)
    refine wpAnyH_take (i := 0) (oi := ⟨some 86, _, _, _, _, _⟩) (v := ?vr40) rfl (by kernel_rfl) (by kernel_rfl) (by kernel_rfl) (fun _ _ _ h => h) (Or.inl ⟨by rfl, ?hyr40⟩) hHeld ?restr40
    case hyr40 => (intro w hSw; (try dsimp only at hSw); have hc0 := hSw.1 0 _ rfl; have hc1 := hSw.1 1 _ rfl; have hc2 := hSw.1 2 _ rfl; have hc3 := hSw.1 3 _ rfl; have hc4 := hSw.1 4 _ rfl; have hc5 := hSw.1 5 _ rfl; have hc6 := hSw.1 6 _ rfl; have hc7 := hSw.1 7 _ rfl; have hc8 := hSw.1 8 _ rfl; have hc9 := hSw.1 9 _ rfl; have hc10 := hSw.1 10 _ rfl; have hc11 := hSw.1 11 _ rfl; have hc12 := hSw.1 12 _ rfl; go_simp; try with_reducible rfl)
    simp only [Act.put, List.setIfInBounds_toArray, List.set_cons_zero, List.set_cons_succ]
    refine wpAnyH_take (i := 1) (oi := ⟨some 87, _, _, _, _, _⟩) (v := ?vr41) rfl (by kernel_rfl) (by kernel_rfl) (by kernel_rfl) (fun _ _ _ h => h) (Or.inl ⟨by rfl, ?hyr41⟩) hHeld ?restr41
    case hyr41 => (intro w hSw; (try dsimp only at hSw); have hc0 := hSw.1 0 _ rfl; have hc1 := hSw.1 1 _ rfl; have hc2 := hSw.1 2 _ rfl; have hc3 := hSw.1 3 _ rfl; have hc4 := hSw.1 4 _ rfl; have hc5 := hSw.1 5 _ rfl; have hc6 := hSw.1 6 _ rfl; have hc7 := hSw.1 7 _ rfl; have hc8 := hSw.1 8 _ rfl; have hc9 := hSw.1 9 _ rfl; have hc10 := hSw.1 10 _ rfl; have hc11 := hSw.1 11 _ rfl; have hc12 := hSw.1 12 _ rfl; go_simp; try with_reducible rfl)
    simp only [Act.put, List.setIfInBounds_toArray, List.set_cons_zero, List.set_cons_succ]
    refine wpAnyH_take (i := 2) (oi := ⟨some 88, _, _, _, _, _⟩) (v := ?vr42) rfl (by kernel_rfl) (by kernel_rfl) (by kernel_rfl) (fun _ _ _ h => h) (Or.inl ⟨by rfl, ?hyr42⟩) hHeld ?restr42
    case hyr42 => (intro w hSw; (try dsimp only at hSw); have hc0 := hSw.1 0 _ rfl; have hc1 := hSw.1 1 _ rfl; have hc2 := hSw.1 2 _ rfl; have hc3 := hSw.1 3 _ rfl; have hc4 := hSw.1 4 _ rfl; have hc5 := hSw.1 5 _ rfl; have hc6 := hSw.1 6 _ rfl; have hc7 := hSw.1 7 _ rfl; have hc8 := hSw.1 8 _ rfl; have hc9 := hSw.1 9 _ rfl; have hc10 := hSw.1 10 _ rfl; have hc11 := hSw.1 11 _ rfl; have hc12 := hSw.1 12 _ rfl; go_simp; try with_reducible rfl)
    simp only [Act.put, List.setIfInBounds_toArray, List.set_cons_zero, List.set_cons_succ]
    refine wpAnyH_take (i := 3) (oi := ⟨some 89, _, _, _, _, _⟩) (v := ?vr43) rfl (by kernel_rfl) (by kernel_rfl) (by kernel_rfl) (fun _ _ _ h => h) (Or.inl ⟨by rfl, ?hyr43⟩) hHeld ?restr43
    case hyr43 => (intro w hSw; (try dsimp only at hSw); have hc0 := hSw.1 0 _ rfl; have hc1 := hSw.1 1 _ rfl; have hc2 := hSw.1 2 _ rfl; have hc3 := hSw.1 3 _ rfl; have hc4 := hSw.1 4 _ rfl; have hc5 := hSw.1 5 _ rfl; have hc6 := hSw.1 6 _ rfl; have hc7 := hSw.1 7 _ rfl; have hc8 := hSw.1 8 _ rfl; have hc9 := hSw.1 9 _ rfl; have hc10 := hSw.1 10 _ rfl; have hc11 := hSw.1 11 _ rfl; have hc12 := hSw.1 12 _ rfl; go_simp; try with_reducible rfl)
    simp only [Act.put, List.setIfInBounds_toArray, List.set_cons_zero, List.set_cons_succ]
    refine wpAnyH_take (i := 7) (oi := ⟨some 93, _, _, _, _, _⟩) (v := ?vr47) rfl (by kernel_rfl) (by kernel_rfl) (by kernel_rfl) (fun _ _ _ h => h) (Or.inl ⟨by rfl, ?hyr47⟩) hHeld ?restr47
    case hyr47 => (intro w hSw; (try dsimp only at hSw); have hc0 := hSw.1 0 _ rfl; have hc1 := hSw.1 1 _ rfl; have hc2 := hSw.1 2 _ rfl; have hc3 := hSw.1 3 _ rfl; have hc4 := hSw.1 4 _ rfl; have hc5 := hSw.1 5 _ rfl; have hc6 := hSw.1 6 _ rfl; have hc7 := hSw.1 7 _ rfl; have hc8 := hSw.1 8 _ rfl; have hc9 := hSw.1 9 _ rfl; have hc10 := hSw.1 10 _ rfl; have hc11 := hSw.1 11 _ rfl; have hc12 := hSw.1 12 _ rfl; go_simp; try with_reducible rfl)
    simp only [Act.put, List.setIfInBounds_toArray, List.set_cons_zero, List.set_cons_succ]
    refine wpAnyH_take (i := 8) (oi := ⟨some 94, _, _, _, _, _⟩) (v := ?vr48) rfl (by kernel_rfl) (by kernel_rfl) (by kernel_rfl) (fun _ _ _ h => h) (Or.inl ⟨by rfl, ?hyr48⟩) hHeld ?restr48
    case hyr48 => (intro w hSw; (try dsimp only at hSw); have hc0 := hSw.1 0 _ rfl; have hc1 := hSw.1 1 _ rfl; have hc2 := hSw.1 2 _ rfl; have hc3 := hSw.1 3 _ rfl; have hc4 := hSw.1 4 _ rfl; have hc5 := hSw.1 5 _ rfl; have hc6 := hSw.1 6 _ rfl; have hc7 := hSw.1 7 _ rfl; have hc8 := hSw.1 8 _ rfl; have hc9 := hSw.1 9 _ rfl; have hc10 := hSw.1 10 _ rfl; have hc11 := hSw.1 11 _ rfl; have hc12 := hSw.1 12 _ rfl; go_simp; try with_reducible rfl)
    simp only [Act.put, List.setIfInBounds_toArray, List.set_cons_zero, List.set_cons_succ]
    refine wpAnyH_ready (rs := [4]) (by kernel_rfl) (by simp) ?_
    refine AllReadyH.cons (o := ⟨some 90, _, _, _, _, _⟩) rfl (fun K hK => ?_) AllReadyH.nil
    go_simp
    refine (Hu1.out _).mono ?_
    rintro e w10 ⟨rfl, hb⟩
    (try go_wp2_with fail)
    refine hK.out _ _ (hHeld.step hb) (fun hHeld2 => ?_)
    clear hK K hHeld
    have hHeld := hHeld2
    clear hHeld2
    (try simp only [Act.put, List.setIfInBounds_toArray, List.set_cons_zero, List.set_cons_succ])
    refine wpAnyH_take (i := 5) (oi := ⟨some 91, _, _, _, _, _⟩) (v := ?vr45) rfl (by kernel_rfl) (by kernel_rfl) (by kernel_rfl) (fun _ _ _ h => h) (Or.inl ⟨by rfl, ?hyr45⟩) hHeld ?restr45
    case hyr45 => (intro w hSw; (try dsimp only at hSw); have hc0 := hSw.1 0 _ rfl; have hc1 := hSw.1 1 _ rfl; have hc2 := hSw.1 2 _ rfl; have hc3 := hSw.1 3 _ rfl; have hc4 := hSw.1 4 _ rfl; have hc5 := hSw.1 5 _ rfl; have hc6 := hSw.1 6 _ rfl; have hc7 := hSw.1 7 _ rfl; have hc8 := hSw.1 8 _ rfl; have hc9 := hSw.1 9 _ rfl; have hc10 := hSw.1 10 _ rfl; have hc11 := hSw.1 11 _ rfl; have hc12 := hSw.1 12 _ rfl; go_simp; try with_reducible rfl)
    simp only [Act.put, List.setIfInBounds_toArray, List.set_cons_zero, List.set_cons_succ]
    refine wpAnyH_take (i := 6) (oi := ⟨some 92, _, _, _, _, _⟩) (v := ?vr46) rfl (by kernel_rfl) (by kernel_rfl) (by kernel_rfl) (fun _ _ _ h => h) (Or.inl ⟨by rfl, ?hyr46⟩) hHeld ?restr46
    case hyr46 => (intro w hSw; (try dsimp only at hSw); have hc0 := hSw.1 0 _ rfl; have hc1 := hSw.1 1 _ rfl; have hc2 := hSw.1 2 _ rfl; have hc3 := hSw.1 3 _ rfl; have hc4 := hSw.1 4 _ rfl; have hc5 := hSw.1 5 _ rfl; have hc6 := hSw.1 6 _ rfl; have hc7 := hSw.1 7 _ rfl; have hc8 := hSw.1 8 _ rfl; have hc9 := hSw.1 9 _ rfl; have hc10 := hSw.1 10 _ rfl; have hc11 := hSw.1 11 _ rfl; have hc12 := hSw.1 12 _ rfl; go_simp; try with_reducible rfl)
    simp only [Act.put, List.setIfInBounds_toArray, List.set_cons_zero, List.set_cons_succ]
    refine wpAnyH_take (i := 9) (oi := ⟨some 95, _, _, _, _, _⟩) (v := ?vr49) rfl (by kernel_rfl) (by kernel_rfl) (by kernel_rfl) (fun _ _ _ h => h) (Or.inl ⟨by rfl, ?hyr49⟩) hHeld ?restr49
    case hyr49 => (intro w hSw; (try dsimp only at hSw); have hc0 := hSw.1 0 _ rfl; have hc1 := hSw.1 1 _ rfl; have hc2 := hSw.1 2 _ rfl; have hc3 := hSw.1 3 _ rfl; have hc4 := hSw.1 4 _ rfl; have hc5 := hSw.1 5 _ rfl; have hc6 := hSw.1 6 _ rfl; have hc7 := hSw.1 7 _ rfl; have hc8 := hSw.1 8 _ rfl; have hc9 := hSw.1 9 _ rfl; have hc10 := hSw.1 10 _ rfl; have hc11 := hSw.1 11 _ rfl; have hc12 := hSw.1 12 _ rfl; go_simp; try with_reducible rfl)
    simp only [Act.put, List.setIfInBounds_toArray, List.set_cons_zero, List.set_cons_succ]
    refine wpAnyH_take (i := 10) (oi := ⟨some 2, _, _, _, _, _⟩) (v := ?vr410) rfl (by kernel_rfl) (by kernel_rfl) (by kernel_rfl) (fun _ _ _ h => h) (Or.inl ⟨by rfl, ?hyr410⟩) hHeld ?restr410
    case hyr410 => (intro w hSw; (try dsimp only at hSw); have hc0 := hSw.1 0 _ rfl; have hc1 := hSw.1 1 _ rfl; have hc2 := hSw.1 2 _ rfl; have hc3 := hSw.1 3 _ rfl; have hc4 := hSw.1 4 _ rfl; have hc5 := hSw.1 5 _ rfl; have hc6 := hSw.1 6 _ rfl; have hc7 := hSw.1 7 _ rfl; have hc8 := hSw.1 8 _ rfl; have hc9 := hSw.1 9 _ rfl; have hc10 := hSw.1 10 _ rfl; have hc11 := hSw.1 11 _ rfl; have hc12 := hSw.1 12 _ rfl; go_simp; try with_reducible rfl)
    simp only [Act.put, List.setIfInBounds_toArray, List.set_cons_zero, List.set_cons_succ]
    refine wpAnyH_take (i := 11) (oi := ⟨some 3, _, _, _, _, _⟩) (v := ?vr411) rfl (by kernel_rfl) (by kernel_rfl) (by kernel_rfl) (fun _ _ _ h => h) (Or.inl ⟨by rfl, ?hyr411⟩) hHeld ?restr411
    case hyr411 => (intro w hSw; (try dsimp only at hSw); have hc0 := hSw.1 0 _ rfl; have hc1 := hSw.1 1 _ rfl; have hc2 := hSw.1 2 _ rfl; have hc3 := hSw.1 3 _ rfl; have hc4 := hSw.1 4 _ rfl; have hc5 := hSw.1 5 _ rfl; have hc6 := hSw.1 6 _ rfl; have hc7 := hSw.1 7 _ rfl; have hc8 := hSw.1 8 _ rfl; have hc9 := hSw.1 9 _ rfl; have hc10 := hSw.1 10 _ rfl; have hc11 := hSw.1 11 _ rfl; have hc12 := hSw.1 12 _ rfl; go_simp; try with_reducible rfl)
    simp only [Act.put, List.setIfInBounds_toArray, List.set_cons_zero, List.set_cons_succ]
    refine wpAnyH_done (by kernel_rfl) ?_ _
    have bz := hHeld.2.2
    clear hHeld
    go_wp2
    go_ret2
    exact ⟨ret_siT HF.out, bz⟩
  · obtain ⟨u1, eu1⟩ : ∃ u : ByteArray, u = txt (textL nc nr) := ⟨_, rfl⟩
    have Hu1 : Hid (∀ W, Calls Tryz.prog 63 #[.agg #[.int .i64 nc, .int .i64 nr]] W fun e w' => e = .returned (.string u1) ∧ Below W.heap.size W w') := fun W => by rw [eu1]; exact refStamp_any nc nr W
    have zu1 : u1.size ≤ 43 := by rw [eu1]; show (textL _ _).toArray.size ≤ _; rw [List.size_toArray]; exact textL_len _ _
    have Eu1 : Hid (u1.data.toList = textL nc nr) := by show _ = _; rw [eu1]; simp [txt]
    clear eu1
    obtain ⟨u2, eu2⟩ : ∃ u : ByteArray, u = txt (quoteL vl.data.toList) := ⟨_, rfl⟩
    have Hu2 : Hid (∀ W, Calls Tryz.prog 26 #[.string vl] W fun e w' => e = .returned (.string u2) ∧ Below W.heap.size W w') := fun W => by rw [eu2]; exact refQuote_any vl (by omega) W
    have zu2 : u2.size ≤ 771 := by rw [eu2]; show (quoteL _).toArray.size ≤ _; rw [List.size_toArray, quoteL_len]; have := (bodyL_len vl.data.toList).2; rw [size_list] at this; omega
    have Eu2 : Hid (u2.data.toList = quoteL vl.data.toList) := by show _ = _; rw [eu2]; simp [txt]
    clear eu2
    have HF : Hid ((((((⟨#[116, 101, 120, 116, 32]⟩ : ByteArray) ++ hd) ++ u1) ++ (⟨#[32]⟩ : ByteArray)) ++ u2) = txt (textCh ⟨ac, ar, sq, ds, 5, nc, nr, pc, pr, fc, fr, nm, vl⟩)) := bytes_ext (by simp only [bytes_app, Ehd.out, Eu1.out, Eu2.out]; show _ = textCh ⟨ac, ar, sq, ds, 5, nc, nr, pc, pr, fc, fr, nm, vl⟩; rw [textCh_5 _ rfl]; simp [kindL])
    have n1 : ¬ 9223372036854775807 < 5 + hd.size := by omega
    have n2 : ¬ 9223372036854775807 < 5 + hd.size + u1.size := by omega
    have n3 : ¬ 9223372036854775807 < 5 + hd.size + u1.size + 1 := by omega
    have n4 : ¬ 9223372036854775807 < 5 + hd.size + u1.size + 1 + u2.size := by omega
    go_wp2_with fail
    refine wp_region_held_drew (S := fun W' => KeptC w w.heap.size [.int .i64 ac, .int .i64 ar, .int .i64 sq, .slice a1 ds.length c1, .int .i64 5, .int .i64 nc, .int .i64 nr, .int .i64 pc, .int .i64 pr, .int .i64 fc, .int .i64 fr, .string nm, .string vl] W') (by kernel_rfl) K4.drew (fun hHeld => ?_)
    refine wpAnyH_take (i := 0) (oi := ⟨some 96, _, _, _, _, _⟩) (v := ?vr50) rfl (by kernel_rfl) (by kernel_rfl) (by kernel_rfl) (fun _ _ _ h => h) (Or.inl ⟨by rfl, ?hyr50⟩) hHeld ?restr50
    case hyr50 => (intro w hSw; (try dsimp only at hSw); have hc0 := hSw.1 0 _ rfl; have hc1 := hSw.1 1 _ rfl; have hc2 := hSw.1 2 _ rfl; have hc3 := hSw.1 3 _ rfl; have hc4 := hSw.1 4 _ rfl; have hc5 := hSw.1 5 _ rfl; have hc6 := hSw.1 6 _ rfl; have hc7 := hSw.1 7 _ rfl; have hc8 := hSw.1 8 _ rfl; have hc9 := hSw.1 9 _ rfl; have hc10 := hSw.1 10 _ rfl; have hc11 := hSw.1 11 _ rfl; have hc12 := hSw.1 12 _ rfl; go_simp; try with_reducible rfl)
    simp only [Act.put, List.setIfInBounds_toArray, List.set_cons_zero, List.set_cons_succ]
    refine wpAnyH_take (i := 1) (oi := ⟨some 97, _, _, _, _, _⟩) (v := ?vr51) rfl (by kernel_rfl) (by kernel_rfl) (by kernel_rfl) (fun _ _ _ h => h) (Or.inl ⟨by rfl, ?hyr51⟩) hHeld ?restr51
    case hyr51 => (intro w hSw; (try dsimp only at hSw); have hc0 := hSw.1 0 _ rfl; have hc1 := hSw.1 1 _ rfl; have hc2 := hSw.1 2 _ rfl; have hc3 := hSw.1 3 _ rfl; have hc4 := hSw.1 4 _ rfl; have hc5 := hSw.1 5 _ rfl; have hc6 := hSw.1 6 _ rfl; have hc7 := hSw.1 7 _ rfl; have hc8 := hSw.1 8 _ rfl; have hc9 := hSw.1 9 _ rfl; have hc10 := hSw.1 10 _ rfl; have hc11 := hSw.1 11 _ rfl; have hc12 := hSw.1 12 _ rfl; go_simp; try with_reducible rfl)
    simp only [Act.put, List.setIfInBounds_toArray, List.set_cons_zero, List.set_cons_succ]
    refine wpAnyH_take (i := 2) (oi := ⟨some 98, _, _, _, _, _⟩) (v := ?vr52) rfl (by kernel_rfl) (by kernel_rfl) (by kernel_rfl) (fun _ _ _ h => h) (Or.inl ⟨by rfl, ?hyr52⟩) hHeld ?restr52
    case hyr52 => (intro w hSw; (try dsimp only at hSw); have hc0 := hSw.1 0 _ rfl; have hc1 := hSw.1 1 _ rfl; have hc2 := hSw.1 2 _ rfl; have hc3 := hSw.1 3 _ rfl; have hc4 := hSw.1 4 _ rfl; have hc5 := hSw.1 5 _ rfl; have hc6 := hSw.1 6 _ rfl; have hc7 := hSw.1 7 _ rfl; have hc8 := hSw.1 8 _ rfl; have hc9 := hSw.1 9 _ rfl; have hc10 := hSw.1 10 _ rfl; have hc11 := hSw.1 11 _ rfl; have hc12 := hSw.1 12 _ rfl; go_simp; try with_reducible rfl)
    simp only [Act.put, List.setIfInBounds_toArray, List.set_cons_zero, List.set_cons_succ]
    refine wpAnyH_take (i := 3) (oi := ⟨some 99, _, _, _, _, _⟩) (v := ?vr53) rfl (by kernel_rfl) (by kernel_rfl) (by kernel_rfl) (fun _ _ _ h => h) (Or.inl ⟨by rfl, ?hyr53⟩) hHeld ?restr53
    case hyr53 => (intro w hSw; (try dsimp only at hSw); have hc0 := hSw.1 0 _ rfl; have hc1 := hSw.1 1 _ rfl; have hc2 := hSw.1 2 _ rfl; have hc3 := hSw.1 3 _ rfl; have hc4 := hSw.1 4 _ rfl; have hc5 := hSw.1 5 _ rfl; have hc6 := hSw.1 6 _ rfl; have hc7 := hSw.1 7 _ rfl; have hc8 := hSw.1 8 _ rfl; have hc9 := hSw.1 9 _ rfl; have hc10 := hSw.1 10 _ rfl; have hc11 := hSw.1 11 _ rfl; have hc12 := hSw.1 12 _ rfl; go_simp; try with_reducible rfl)
    simp only [Act.put, List.setIfInBounds_toArray, List.set_cons_zero, List.set_cons_succ]
    refine wpAnyH_take (i := 7) (oi := ⟨some 103, _, _, _, _, _⟩) (v := ?vr57) rfl (by kernel_rfl) (by kernel_rfl) (by kernel_rfl) (fun _ _ _ h => h) (Or.inl ⟨by rfl, ?hyr57⟩) hHeld ?restr57
    case hyr57 => (intro w hSw; (try dsimp only at hSw); have hc0 := hSw.1 0 _ rfl; have hc1 := hSw.1 1 _ rfl; have hc2 := hSw.1 2 _ rfl; have hc3 := hSw.1 3 _ rfl; have hc4 := hSw.1 4 _ rfl; have hc5 := hSw.1 5 _ rfl; have hc6 := hSw.1 6 _ rfl; have hc7 := hSw.1 7 _ rfl; have hc8 := hSw.1 8 _ rfl; have hc9 := hSw.1 9 _ rfl; have hc10 := hSw.1 10 _ rfl; have hc11 := hSw.1 11 _ rfl; have hc12 := hSw.1 12 _ rfl; go_simp; try with_reducible rfl)
    simp only [Act.put, List.setIfInBounds_toArray, List.set_cons_zero, List.set_cons_succ]
    refine wpAnyH_take (i := 8) (oi := ⟨some 104, _, _, _, _, _⟩) (v := ?vr58) rfl (by kernel_rfl) (by kernel_rfl) (by kernel_rfl) (fun _ _ _ h => h) (Or.inl ⟨by rfl, ?hyr58⟩) hHeld ?restr58
    case hyr58 => (intro w hSw; (try dsimp only at hSw); have hc0 := hSw.1 0 _ rfl; have hc1 := hSw.1 1 _ rfl; have hc2 := hSw.1 2 _ rfl; have hc3 := hSw.1 3 _ rfl; have hc4 := hSw.1 4 _ rfl; have hc5 := hSw.1 5 _ rfl; have hc6 := hSw.1 6 _ rfl; have hc7 := hSw.1 7 _ rfl; have hc8 := hSw.1 8 _ rfl; have hc9 := hSw.1 9 _ rfl; have hc10 := hSw.1 10 _ rfl; have hc11 := hSw.1 11 _ rfl; have hc12 := hSw.1 12 _ rfl; go_simp; try with_reducible rfl)
    simp only [Act.put, List.setIfInBounds_toArray, List.set_cons_zero, List.set_cons_succ]
    refine wpAnyH_ready (rs := [4]) (by kernel_rfl) (by simp) ?_
    refine AllReadyH.cons (o := ⟨some 100, _, _, _, _, _⟩) rfl (fun K hK => ?_) AllReadyH.nil
    go_simp
    refine (Hu1.out _).mono ?_
    rintro e w10 ⟨rfl, hb⟩
    (try go_wp2_with fail)
    refine hK.out _ _ (hHeld.step hb) (fun hHeld2 => ?_)
    clear hK K hHeld
    have hHeld := hHeld2
    clear hHeld2
    (try simp only [Act.put, List.setIfInBounds_toArray, List.set_cons_zero, List.set_cons_succ])
    refine wpAnyH_take (i := 5) (oi := ⟨some 101, _, _, _, _, _⟩) (v := ?vr55) rfl (by kernel_rfl) (by kernel_rfl) (by kernel_rfl) (fun _ _ _ h => h) (Or.inl ⟨by rfl, ?hyr55⟩) hHeld ?restr55
    case hyr55 => (intro w hSw; (try dsimp only at hSw); have hc0 := hSw.1 0 _ rfl; have hc1 := hSw.1 1 _ rfl; have hc2 := hSw.1 2 _ rfl; have hc3 := hSw.1 3 _ rfl; have hc4 := hSw.1 4 _ rfl; have hc5 := hSw.1 5 _ rfl; have hc6 := hSw.1 6 _ rfl; have hc7 := hSw.1 7 _ rfl; have hc8 := hSw.1 8 _ rfl; have hc9 := hSw.1 9 _ rfl; have hc10 := hSw.1 10 _ rfl; have hc11 := hSw.1 11 _ rfl; have hc12 := hSw.1 12 _ rfl; go_simp; try with_reducible rfl)
    simp only [Act.put, List.setIfInBounds_toArray, List.set_cons_zero, List.set_cons_succ]
    refine wpAnyH_take (i := 6) (oi := ⟨some 102, _, _, _, _, _⟩) (v := ?vr56) rfl (by kernel_rfl) (by kernel_rfl) (by kernel_rfl) (fun _ _ _ h => h) (Or.inl ⟨by rfl, ?hyr56⟩) hHeld ?restr56
    case hyr56 => (intro w hSw; (try dsimp only at hSw); have hc0 := hSw.1 0 _ rfl; have hc1 := hSw.1 1 _ rfl; have hc2 := hSw.1 2 _ rfl; have hc3 := hSw.1 3 _ rfl; have hc4 := hSw.1 4 _ rfl; have hc5 := hSw.1 5 _ rfl; have hc6 := hSw.1 6 _ rfl; have hc7 := hSw.1 7 _ rfl; have hc8 := hSw.1 8 _ rfl; have hc9 := hSw.1 9 _ rfl; have hc10 := hSw.1 10 _ rfl; have hc11 := hSw.1 11 _ rfl; have hc12 := hSw.1 12 _ rfl; go_simp; try with_reducible rfl)
    simp only [Act.put, List.setIfInBounds_toArray, List.set_cons_zero, List.set_cons_succ]
    refine wpAnyH_ready (rs := [9]) (by kernel_rfl) (by simp) ?_
    refine AllReadyH.cons (o := ⟨some 105, _, _, _, _, _⟩) rfl (fun K hK => ?_) AllReadyH.nil
    go_simp
    refine (Hu2.out _).mono ?_
    rintro e w11 ⟨rfl, hb⟩
    (try go_wp2_with fail)
    refine hK.out _ _ (hHeld.step hb) (fun hHeld2 => ?_)
    clear hK K hHeld
    have hHeld := hHeld2
    clear hHeld2
    (try simp only [Act.put, List.setIfInBounds_toArray, List.set_cons_zero, List.set_cons_succ])
    refine wpAnyH_take (i := 10) (oi := ⟨some 106, _, _, _, _, _⟩) (v := ?vr510) rfl (by kernel_rfl) (by kernel_rfl) (by kernel_rfl) (fun _ _ _ h => h) (Or.inl ⟨by rfl, ?hyr510⟩) hHeld ?restr510
    case hyr510 => (intro w hSw; (try dsimp only at hSw); have hc0 := hSw.1 0 _ rfl; have hc1 := hSw.1 1 _ rfl; have hc2 := hSw.1 2 _ rfl; have hc3 := hSw.1 3 _ rfl; have hc4 := hSw.1 4 _ rfl; have hc5 := hSw.1 5 _ rfl; have hc6 := hSw.1 6 _ rfl; have hc7 := hSw.1 7 _ rfl; have hc8 := hSw.1 8 _ rfl; have hc9 := hSw.1 9 _ rfl; have hc10 := hSw.1 10 _ rfl; have hc11 := hSw.1 11 _ rfl; have hc12 := hSw.1 12 _ rfl; go_simp; try with_reducible rfl)
    simp only [Act.put, List.setIfInBounds_toArray, List.set_cons_zero, List.set_cons_succ]
    refine wpAnyH_take (i := 11) (oi := ⟨some 2, _, _, _, _, _⟩) (v := ?vr511) rfl (by kernel_rfl) (by kernel_rfl) (by kernel_rfl) (fun _ _ _ h => h) (Or.inl ⟨by rfl, ?hyr511⟩) hHeld ?restr511
    case hyr511 => (intro w hSw; (try dsimp only at hSw); have hc0 := hSw.1 0 _ rfl; have hc1 := hSw.1 1 _ rfl; have hc2 := hSw.1 2 _ rfl; have hc3 := hSw.1 3 _ rfl; have hc4 := hSw.1 4 _ rfl; have hc5 := hSw.1 5 _ rfl; have hc6 := hSw.1 6 _ rfl; have hc7 := hSw.1 7 _ rfl; have hc8 := hSw.1 8 _ rfl; have hc9 := hSw.1 9 _ rfl; have hc10 := hSw.1 10 _ rfl; have hc11 := hSw.1 11 _ rfl; have hc12 := hSw.1 12 _ rfl; go_simp; try with_reducible rfl)
    simp only [Act.put, List.setIfInBounds_toArray, List.set_cons_zero, List.set_cons_succ]
    refine wpAnyH_take (i := 12) (oi := ⟨some 3, _, _, _, _, _⟩) (v := ?vr512) rfl (by kernel_rfl) (by kernel_rfl) (by kernel_rfl) (fun _ _ _ h => h) (Or.inl ⟨by rfl, ?hyr512⟩) hHeld ?restr512
    case hyr512 => (intro w hSw; (try dsimp only at hSw); have hc0 := hSw.1 0 _ rfl; have hc1 := hSw.1 1 _ rfl; have hc2 := hSw.1 2 _ rfl; have hc3 := hSw.1 3 _ rfl; have hc4 := hSw.1 4 _ rfl; have hc5 := hSw.1 5 _ rfl; have hc6 := hSw.1 6 _ rfl; have hc7 := hSw.1 7 _ rfl; have hc8 := hSw.1 8 _ rfl; have hc9 := hSw.1 9 _ rfl; have hc10 := hSw.1 10 _ rfl; have hc11 := hSw.1 11 _ rfl; have hc12 := hSw.1 12 _ rfl; go_simp; try with_reducible rfl)
    simp only [Act.put, List.setIfInBounds_toArray, List.set_cons_zero, List.set_cons_succ]
    refine wpAnyH_done (by kernel_rfl) ?_ _
    have bz := hHeld.2.2
    clear hHeld
    go_wp2
    go_ret2
    exact ⟨ret_siT HF.out, bz⟩

end Go.Proofs.YtaocjmipjibiaaaGreatDoor

namespace Go.Proofs.YtaocjmipjibiaaaGreatDoor
open Go.RowKit
set_option linter.unusedVariables false
set_option linter.unusedSimpArgs false

set_option maxRecDepth 100000 in
set_option maxHeartbeats 4000000 in
/-- The document's Text. -/
theorem refTextCh_any (ac ar sq : Int) (dv : Value) (kd nc nr pc pr fc fr : Int) (nm vl : ByteArray) (ds : List Int) (hs : nm.size ≤ 281474976710656) (w : World) (h1 : IsI w dv ds) :
    Calls Tryz.prog 28 #[.agg #[.int .i64 ac, .int .i64 ar, .int .i64 sq, dv, .int .i64 kd, .int .i64 nc, .int .i64 nr, .int .i64 pc, .int .i64 pr, .int .i64 fc, .int .i64 fr, .string nm, .string vl]] w fun e w' => e = .returned (.tuple #[.string (txt (if checkCh ⟨ac, ar, sq, ds, kd, nc, nr, pc, pr, fc, fr, nm, vl⟩ = 0 then textCh ⟨ac, ar, sq, ds, kd, nc, nr, pc, pr, fc, fr, nm, vl⟩ else [])), .int .i64 (checkCh ⟨ac, ar, sq, ds, kd, nc, nr, pc, pr, fc, fr, nm, vl⟩)]) ∧ Below w.heap.size w w' := by
  by_cases hc : checkCh ⟨ac, ar, sq, ds, kd, nc, nr, pc, pr, fc, fr, nm, vl⟩ = 0
  · rw [if_pos hc, hc]
    exact refTextCh_ok ac ar sq dv kd nc nr pc pr fc fr nm vl ds hs w h1 hc
  · rw [if_neg hc]
    have K0 := KeptC.start w #[.int .i64 ac, .int .i64 ar, .int .i64 sq, dv, .int .i64 kd, .int .i64 nc, .int .i64 nr, .int .i64 pc, .int .i64 pr, .int .i64 fc, .int .i64 fr, .string nm, .string vl].toList 26
    have H1 : Hid (IsI w dv ds) := h1
    have q : (checkCh ⟨ac, ar, sq, ds, kd, nc, nr, pc, pr, fc, fr, nm, vl⟩ != 0) = true := by simp [hc]
    clear h1 hc
    go_enter Tryz.func28, Tryz.ntmps28
    go_wp2_with fail
    refine (refCheckCh_any ac ar sq dv kd nc nr pc pr fc fr nm vl ds hs _ (H1.out.below K0.2.2)).mono ?_
    rintro e w1 ⟨rfl, hb1⟩
    have K1 := K0.step hb1
    clear hb1
    obtain ⟨k_0, k_1, k_2, k_3, k_4, k_5, k_6, k_7, k_8, k_9, k_10, k_11, k_12⟩ := K1.all
    go_wp2_with fail
    refine (refCheckCh_any ac ar sq dv kd nc nr pc pr fc fr nm vl ds hs _ (H1.out.below K1.2.2)).mono ?_
    rintro e w2 ⟨rfl, hb2⟩
    have K2 := K1.step hb2
    clear hb2
    go_wp2
    go_ret2
    exact ⟨rfl, K2.2.2⟩

set_option maxRecDepth 100000 in
set_option maxHeartbeats 4000000 in
theorem changeTexts_walk (ac ar sq : Int) (dv : Value) (kd nc nr pc pr fc fr : Int) (nm vl : ByteArray) (ds : List Int) (w : World) (h1 : IsI w dv ds) (hnm : nm.size ≤ 281474976710656) (he : Env w) :
    Calls Tryz.prog 7 #[.agg #[.int .i64 ac, .int .i64 ar, .int .i64 sq, dv, .int .i64 kd, .int .i64 nc, .int .i64 nr, .int .i64 pc, .int .i64 pr, .int .i64 fc, .int .i64 fr, .string nm, .string vl]] w fun e w' => e = .returned (.bool true) ∧ Below w.heap.size w w' := by
  have K0 := KeptC.start w #[.int .i64 ac, .int .i64 ar, .int .i64 sq, dv, .int .i64 kd, .int .i64 nc, .int .i64 nr, .int .i64 pc, .int .i64 pr, .int .i64 fc, .int .i64 fr, .string nm, .string vl].toList 26
  have H1 : Hid (IsI w dv ds) := h1
  have HEnv : Hid (Env w) := he
  clear h1 he
  obtain ⟨t, et⟩ : ∃ t : ByteArray, t = txt (if checkCh ⟨ac, ar, sq, ds, kd, nc, nr, pc, pr, fc, fr, nm, vl⟩ = 0 then textCh ⟨ac, ar, sq, ds, kd, nc, nr, pc, pr, fc, fr, nm, vl⟩ else []) := ⟨_, rfl⟩
  obtain ⟨k, ek⟩ : ∃ k : Int, k = checkCh ⟨ac, ar, sq, ds, kd, nc, nr, pc, pr, fc, fr, nm, vl⟩ := ⟨_, rfl⟩
  have HT : Hid (∀ W, IsI W dv ds → Env W → Calls Tryz.prog 27 #[.agg #[.int .i64 ac, .int .i64 ar, .int .i64 sq, dv, .int .i64 kd, .int .i64 nc, .int .i64 nr, .int .i64 pc, .int .i64 pr, .int .i64 fc, .int .i64 fr, .string nm, .string vl]] W fun e w' => e = .returned (.tuple #[.string t, .int .i64 k]) ∧ Below W.heap.size W w') := fun W hW hE => by rw [et, ek]; exact textCh_any ac ar sq dv kd nc nr pc pr fc fr nm vl ds hnm W hW hE
  have HR : Hid (∀ W, IsI W dv ds → Calls Tryz.prog 28 #[.agg #[.int .i64 ac, .int .i64 ar, .int .i64 sq, dv, .int .i64 kd, .int .i64 nc, .int .i64 nr, .int .i64 pc, .int .i64 pr, .int .i64 fc, .int .i64 fr, .string nm, .string vl]] W fun e w' => e = .returned (.tuple #[.string t, .int .i64 k]) ∧ Below W.heap.size W w') := fun W hW => by rw [et, ek]; exact refTextCh_any ac ar sq dv kd nc nr pc pr fc fr nm vl ds hnm W hW
  clear et ek
  have q1 : (t.toList == t.toList) = true := by simp
  have q2 : (k == k) = true := by simp
  go_enter Tryz.func7, Tryz.ntmps7
  go_wp2_with fail
  refine (HT.out _ (H1.out.below K0.2.2) (HEnv.out.below K0.2.2)).mono ?_
  rintro e w1 ⟨rfl, hb1⟩
  have K1 := K0.step hb1
  clear hb1
  obtain ⟨k_0, k_1, k_2, k_3, k_4, k_5, k_6, k_7, k_8, k_9, k_10, k_11, k_12⟩ := K1.all
  go_wp2_with fail
  refine (HR.out _ (H1.out.below K1.2.2)).mono ?_
  rintro e w2 ⟨rfl, hb2⟩
  have K2 := K1.step hb2
  clear hb2 k_0 k_1 k_2 k_3 k_4 k_5 k_6 k_7 k_8 k_9 k_10 k_11 k_12
  go_wp2_with fail
  refine (awake5_any _ (HEnv.out.below K2.2.2)).mono ?_
  rintro e w3 ⟨rfl, hb3⟩
  have K3 := K2.step hb3
  go_wp2
  go_ret
  exact ⟨rfl, K3.2.2⟩

end Go.Proofs.YtaocjmipjibiaaaGreatDoor

namespace Go.Proofs.YtaocjmipjibiaaaGreatDoor
set_option linter.unusedVariables false

/-- What Unquoted tells of a text, from its first place on. -/
def UnqdIs (l t : List UInt8) (n : Nat) (b : Bool) : Prop := (b = true ∧ n = (quoteL t).length ∧ ∃ r, l = quoteL t ++ r) ∨ (b = false ∧ t = [] ∧ n = 0 ∧ ∀ u r, l ≠ quoteL u ++ r)
theorem body_split2 : ∀ (t u r rest : List UInt8), bodyL t ++ rest = bodyL u ++ 34 :: r → ∃ v, u = t ++ v ∧ rest = bodyL v ++ 34 :: r := by
  intro t
  induction t with
  | nil => intro u r rest h; exact ⟨u, rfl, by simpa [bodyL_nil] using h⟩
  | cons b t ih =>
    intro u r rest h
    cases u with
    | nil =>
      exfalso
      rw [bodyL_cons, bodyL_nil, List.nil_append, List.append_assoc] at h
      cases he : escL b with
      | nil => exact escL_ne b he
      | cons x y =>
        rw [he] at h
        simp only [List.cons_append, List.cons.injEq] at h
        have := escL_mark b
        rw [he, h.1] at this
        simp at this
    | cons c u =>
      rw [bodyL_cons, bodyL_cons, List.append_assoc, List.append_assoc] at h
      obtain ⟨rfl, h2⟩ := escL_head h
      obtain ⟨v, rfl, e⟩ := ih u r rest h2
      exact ⟨v, rfl, e⟩
theorem quoteL_app {u r : List UInt8} : quoteL u ++ r = 34 :: (bodyL u ++ 34 :: r) := by simp [quoteL]
theorem unqd_none {l : List UInt8} (h : l = []) : UnqdIs l [] 0 false := .inr ⟨rfl, rfl, rfl, fun u r e => by rw [h, quoteL_app] at e; cases e⟩
theorem unqd_head {x : UInt8} {l : List UInt8} (h : x ≠ 34) : UnqdIs (x :: l) [] 0 false := .inr ⟨rfl, rfl, rfl, fun u r e => by rw [quoteL_app] at e; simp only [List.cons.injEq] at e; exact h e.1⟩
theorem unqd_end {out : List UInt8} : UnqdIs (34 :: (bodyL out ++ [])) [] 0 false := .inr ⟨rfl, rfl, rfl, fun u r e => by
  rw [quoteL_app] at e
  simp only [List.cons.injEq, true_and] at e
  obtain ⟨v, _, e2⟩ := body_split2 out u r [] e
  have := congrArg List.length e2
  simp at this⟩
theorem unqd_bad {out rest : List UInt8} {b : UInt8} {x : UInt8} {t : List UInt8} (hx : rest = x :: t) (h34 : x ≠ 34) (h : ByteIs rest b 0) : UnqdIs (34 :: (bodyL out ++ rest)) [] 0 false := .inr ⟨rfl, rfl, rfl, fun u r e => by
  rw [quoteL_app] at e
  simp only [List.cons.injEq, true_and] at e
  obtain ⟨v, _, e2⟩ := body_split2 out u r rest e
  cases v with
  | nil => rw [hx, bodyL_nil, List.nil_append] at e2; simp only [List.cons.injEq] at e2; exact h34 e2.1
  | cons c v =>
    rw [bodyL_cons, List.append_assoc] at e2
    rcases h with ⟨_, h⟩ | ⟨h, _⟩
    · exact h _ _ e2
    · have := (escL_len b).1; omega⟩
theorem unqd_good {out r : List UInt8} : UnqdIs (34 :: (bodyL out ++ 34 :: r)) out ((bodyL out).length + 2) true := .inl ⟨rfl, (quoteL_len _).symm, r, quoteL_app.symm⟩
theorem UnqdIs.bad {l t : List UInt8} {n : Nat} (h : UnqdIs l t n false) : UnqIs l [] false := by
  rcases h with ⟨h, _⟩ | ⟨_, _, _, h⟩
  · cases h
  · exact .inr ⟨rfl, rfl, fun u e => h u [] (by rw [List.append_nil]; exact e)⟩
theorem UnqdIs.good {l t : List UInt8} {n : Nat} (h : UnqdIs l t n true) (hn : n = l.length) : UnqIs l t true := by
  rcases h with ⟨_, h, r, e⟩ | ⟨h, _⟩
  · refine .inl ⟨rfl, ?_⟩
    have := congrArg List.length e
    rw [List.length_append] at this
    have hr : r = [] := List.eq_nil_of_length_eq_zero (by omega)
    rw [e, hr, List.append_nil]
  · cases h
theorem UnqdIs.more {l t : List UInt8} {n : Nat} (h : UnqdIs l t n true) (hn : n ≠ l.length) : UnqIs l [] false := by
  rcases h with ⟨_, h, r, e⟩ | ⟨h, _⟩
  · refine .inr ⟨rfl, rfl, fun u e2 => ?_⟩
    apply hn
    rw [e, quoteL_app] at e2
    unfold quoteL at e2
    simp only [List.cons.injEq, true_and] at e2
    obtain ⟨v, _, e3⟩ := body_split2 t u [] (34 :: r) e2
    have hv : v = [] := by
      cases v with
      | nil => rfl
      | cons c v =>
        exfalso
        rw [bodyL_cons, List.append_assoc] at e3
        cases he : escL c with
        | nil => exact escL_ne c he
        | cons x y =>
          rw [he] at e3
          simp only [List.cons_append, List.cons.injEq] at e3
          have := escL_mark c
          rw [he, e3.1] at this
          simp at this
    rw [hv, bodyL_nil, List.nil_append] at e3
    simp only [List.cons.injEq, true_and] at e3
    rw [h, e, e3, List.append_nil]
  · cases h
theorem UnqdIs.len {l t : List UInt8} {n : Nat} {b : Bool} (h : UnqdIs l t n b) : n ≤ l.length := by
  rcases h with ⟨_, h, r, e⟩ | ⟨_, _, h, _⟩
  · rw [h, e, List.length_append]; omega
  · omega

/-- The words between a text's first k blanks; the last one is the rest. -/
def wordsL : Nat → List UInt8 → List (List UInt8)
  | 0, l => [l]
  | k + 1, l => if (32 : UInt8) ∈ l then hdW l :: wordsL k (tlW l) else [l]
def tlN : Nat → List UInt8 → List UInt8
  | 0, l => l
  | k + 1, l => tlN k (tlW l)
theorem tlN_nil (k : Nat) : tlN k [] = [] := by
  induction k with
  | zero => rfl
  | succ k ih => show tlN k (tlW []) = []; exact ih
theorem words_at : ∀ (k : Nat) (l : List UInt8) (i : Nat), (wordsL k l).getD i [] = if i < k then hdW (tlN i l) else if i = k then tlN k l else [] := by
  intro k
  induction k with
  | zero =>
    intro l i
    cases i with
    | zero => rfl
    | succ i => simp [wordsL]
  | succ k ih =>
    intro l i
    unfold wordsL
    by_cases h : (32 : UInt8) ∈ l
    · rw [if_pos h]
      cases i with
      | zero => rw [if_pos (by omega)]; rfl
      | succ i =>
        rw [List.getD_cons_succ, ih]
        by_cases h1 : i < k
        · rw [if_pos h1, if_pos (show i + 1 < k + 1 by omega)]; rfl
        · by_cases h2 : i = k
          · subst h2; rw [if_neg h1, if_pos rfl, if_neg (show ¬ i + 1 < i + 1 by omega), if_pos rfl]; rfl
          · rw [if_neg h1, if_neg h2, if_neg (show ¬ i + 1 < k + 1 by omega), if_neg (show ¬ i + 1 = k + 1 by omega)]
    · rw [if_neg h]
      cases i with
      | zero => rw [if_pos (by omega)]; show l = hdW l; rw [hdW_no h]
      | succ i =>
        have e : tlN (i + 1) l = [] := by show tlN i (tlW l) = []; rw [tlW_no h, tlN_nil]
        have e2 : tlN (k + 1) l = [] := by show tlN k (tlW l) = []; rw [tlW_no h, tlN_nil]
        rw [e, e2]
        simp [hdW]
theorem wordsL_len : ∀ (k : Nat) (l : List UInt8), (wordsL k l).length ≤ k + 1 := by
  intro k
  induction k with
  | zero => intro l; simp [wordsL]
  | succ k ih =>
    intro l
    unfold wordsL
    split
    · rw [List.length_cons]; have := ih (tlW l); omega
    · simp

theorem words_no {k : Nat} {l : List UInt8} (h : (32 : UInt8) ∉ l) : wordsL k l = [l] := by
  cases k with
  | zero => rfl
  | succ k => unfold wordsL; rw [if_neg h]
theorem words_cut {k : Nat} {a b : List UInt8} (h : (32 : UInt8) ∉ a) : wordsL (k + 1) (a ++ 32 :: b) = a :: wordsL k b := by
  show (if (32 : UInt8) ∈ a ++ 32 :: b then _ else _) = _
  rw [if_pos (by simp), hdW_at h, tlW_at h]

/-- How far the words are cut: these are, from place f on to k no blank stands. -/
def CutTo (m : Nat) (L : List UInt8) (W : List (List UInt8)) (f k : Nat) : Prop :=
  f ≤ k ∧ k ≤ L.length ∧ W.length ≤ m ∧ wordsL m L = W ++ wordsL (m - W.length) (L.drop f) ∧ (32 : UInt8) ∉ (L.drop f).take (k - f)
theorem cutTo_start (m : Nat) (L : List UInt8) : CutTo m L [] 0 0 := ⟨Nat.le_refl _, Nat.zero_le _, Nat.zero_le _, by simp, by simp⟩
theorem cutTo_on {m : Nat} {L : List UInt8} {W : List (List UInt8)} {f k : Nat} (h : CutTo m L W f k) (hk : k < L.length) (hc : L[k] ≠ 32) : CutTo m L W f (k + 1) := by
  obtain ⟨h1, h2, h3, h4, h5⟩ := h
  refine ⟨by omega, by omega, h3, h4, ?_⟩
  rw [show k + 1 - f = (k - f) + 1 by omega, List.take_succ_eq_append_getElem (by rw [List.length_drop]; omega), List.mem_append, List.mem_singleton, not_or]
  refine ⟨h5, ?_⟩
  rw [List.getElem_drop]
  intro e
  exact hc (by rw [e]; congr 1; omega)
theorem cutTo_cut {m : Nat} {L : List UInt8} {W : List (List UInt8)} {f k : Nat} (h : CutTo m L W f k) (hk : k < L.length) (hc : L[k] = 32) (hm : W.length < m) : CutTo m L (W ++ [(L.drop f).take (k - f)]) (k + 1) (k + 1) := by
  obtain ⟨h1, h2, h3, h4, h5⟩ := h
  have hd : L.drop f = (L.drop f).take (k - f) ++ 32 :: L.drop (k + 1) := by
    conv => lhs; rw [← List.take_append_drop (k - f) (L.drop f)]
    congr 1
    rw [List.drop_drop, show f + (k - f) = k by omega, List.drop_eq_getElem_cons hk, hc]
  refine ⟨Nat.le_refl _, by omega, by simp; omega, ?_, by simp⟩
  have e2 : m - (W ++ [(L.drop f).take (k - f)]).length = m - W.length - 1 := by simp; omega
  have e1 : m - W.length = (m - W.length - 1) + 1 := by omega
  rw [h4, e2, e1]
  generalize hA : (L.drop f).take (k - f) = A at *
  rw [hd, words_cut h5, List.append_assoc]
  rfl
theorem cutTo_end {m : Nat} {L : List UInt8} {W : List (List UInt8)} {f k : Nat} (h : CutTo m L W f k) (he : k = L.length ∨ W.length = m) : wordsL m L = W ++ [L.drop f] := by
  obtain ⟨h1, h2, h3, h4, h5⟩ := h
  rw [h4]
  congr 1
  rcases he with he | he
  · exact words_no (by rwa [List.take_of_length_le (by rw [List.length_drop]; omega)] at h5)
  · rw [he, Nat.sub_self]; rfl

end Go.Proofs.YtaocjmipjibiaaaGreatDoor

namespace Go.Proofs.YtaocjmipjibiaaaGreatDoor
open Go.RowKit
set_option linter.unusedVariables false
set_option linter.unusedSimpArgs false

set_option maxHeartbeats 1000000 in
theorem refValue_any (b : UInt8) (w : World) :
    Calls Tryz.prog 85 #[.int .u8 (b.toNat : Int)] w fun e w' => e = .returned (.int .i64 (hexV b : Int)) ∧ w' = w := by
  have hb := b.toNat_lt
  by_cases h0 : 48 ≤ b.toNat ∧ b.toNat ≤ 57
  · have q0 : (48 : Int) ≤ (b.toNat : Int) := by omega
    have q1 : (b.toNat : Int) ≤ 57 := by omega
    have HV : Hid ((hexV b : Int) = (b.toNat : Int) - 48) := by show _ = _; unfold hexV; rw [if_pos h0]; omega
    have r : IntKind.u8.wrap ((b.toNat : Int) - 48) = (b.toNat : Int) - 48 := by rw [IntKind.wrap_u8]; omega
    clear h0
    go_enter Tryz.func85, Tryz.ntmps85
    go_wp2
    go_ret
    exact ⟨by rw [HV.out]; first | rfl | (simp only [Array.getD]; congr 2; omega), rfl⟩
  · by_cases h1 : 97 ≤ b.toNat ∧ b.toNat ≤ 102
    · have q0 : (97 : Int) ≤ (b.toNat : Int) := by omega
      have q1 : (b.toNat : Int) ≤ 102 := by omega
      have q2 : (48 : Int) ≤ (b.toNat : Int) := by omega
      have q3 : ¬ (b.toNat : Int) ≤ 57 := by omega
      have HV : Hid ((hexV b : Int) = (b.toNat : Int) - 97 + 10) := by show _ = _; unfold hexV; rw [if_neg h0, if_pos h1]; omega
      have r : IntKind.u8.wrap ((b.toNat : Int) - 97) = (b.toNat : Int) - 97 := by rw [IntKind.wrap_u8]; omega
      clear h0 h1
      go_enter Tryz.func85, Tryz.ntmps85
      go_wp2
      go_ret
      exact ⟨by rw [HV.out]; first | rfl | (simp only [Array.getD]; congr 2; omega), rfl⟩
    · have HV : Hid ((hexV b : Int) = 16) := by show _ = _; unfold hexV; rw [if_neg h0, if_neg h1]; rfl
      by_cases a0 : (48 : Int) ≤ (b.toNat : Int)
      · have a1 : ¬ (b.toNat : Int) ≤ 57 := by omega
        by_cases a2 : (97 : Int) ≤ (b.toNat : Int)
        · have a3 : ¬ (b.toNat : Int) ≤ 102 := by omega
          clear h0 h1
          go_enter Tryz.func85, Tryz.ntmps85
          go_wp2
          go_ret
          exact ⟨by rw [HV.out]; rfl, rfl⟩
        · clear h0 h1
          go_enter Tryz.func85, Tryz.ntmps85
          go_wp2
          go_ret
          exact ⟨by rw [HV.out]; rfl, rfl⟩
      · have a2 : ¬ (97 : Int) ≤ (b.toNat : Int) := by omega
        clear h0 h1
        go_enter Tryz.func85, Tryz.ntmps85
        go_wp2
        go_ret
        exact ⟨by rw [HV.out]; rfl, rfl⟩

def UnqdPost (l : List UInt8) (w : World) (e : Ending) (w' : World) : Prop := ∃ (t : List UInt8) (n : Nat) (b : Bool), e = .returned (.tuple #[.string (txt t), .int .i64 (n : Int), .bool b]) ∧ UnqdIs l t n b ∧ t.length ≤ l.length ∧ Below w.heap.size w w'
theorem u8_ne {x y : UInt8} {n : Nat} (hy : y.toNat = n) (h : x ≠ y) : ((x.toNat : Int) != (n : Int)) = true := by
  simp only [bne_iff_ne, ne_eq]
  intro e
  exact h (UInt8.toNat_inj.1 (by rw [hy]; omega))
theorem drop_at (s : ByteArray) (k : Nat) (h : k < s.size) : s.data.toList.drop k = s[k] :: s.data.toList.drop (k + 1) := by
  have h0 : k < s.data.toList.length := by simpa using h
  rw [List.drop_eq_getElem_cons h0]
  rfl

set_option maxHeartbeats 4000000 in
set_option maxRecDepth 100000 in
/-- The document's Unquoted, from the first place on. -/
theorem refUnquoted_any (s : ByteArray) (hs : s.size ≤ 140737488355328) (w : World) :
    Calls Tryz.prog 51 #[.string s, .int .i64 0] w fun e w' => UnqdPost s.data.toList w e w' := by
  obtain ⟨i0, hi, hz0, hz1, hz2⟩ := info_parts infoByte
  have hsl : s.data.toList.length = s.size := by simp
  by_cases hz : s.size = 0
  · have HE : Hid (UnqdIs s.data.toList [] 0 false) := unqd_none (List.eq_nil_of_length_eq_zero (by omega))
    have q : (s.size : Int) ≤ 0 := by omega
    clear hsl
    go_enter Tryz.func51, Tryz.ntmps51
    go_wp2
    go_ret3
    exact ⟨[], 0, false, rfl, HE.out, Nat.zero_le _, Below.refl _ _⟩
  · have q : ¬ (s.size : Int) ≤ 0 := by omega
    have z0 : (0 : Int) < (s.size : Int) := by omega
    have n0 : 0 < s.size := by omega
    by_cases h34 : s[0] = 34
    · have q1 : ((s[0].toNat : Int) != 34) = false := by rw [h34]; rfl
      have HSL : Hid (s.data.toList.length = s.size) := hsl
      have HS0 : Hid (s.data.toList = 34 :: (bodyL [] ++ s.data.toList.drop 1)) := by show _ = _; have := list_one s n0; rw [h34] at this; exact this
      have HO0 : Hid (OwnB w.heap.size (w.alloc (.cells #[] 5)) (.slice (some ⟨w.heap.size, 0, none⟩) 0 0) []) := OwnB.made w [] _ rfl (by simp) (Nat.le_refl _)
      have HB0 : Hid (Below w.heap.size w (w.alloc (.cells #[] 5))) := (Below.refl _ _).alloc (Nat.le_refl _) _
      clear h34 hsl
      go_enter Tryz.func51, Tryz.ntmps51
      go_wp2
      go_loopw [7, 8] (fun ov iv wr => ∃ (k : Nat) (out : List UInt8), iv = .int .i64 (k : Int) ∧ k ≤ s.size ∧ k = (bodyL out).length + 1 ∧ Hid (s.data.toList = 34 :: (bodyL out ++ s.data.toList.drop k)) ∧ Hid (OwnB w.heap.size wr ov out) ∧ Hid (Below w.heap.size w wr)) (fun _ iv _ => s.size - (intOf iv).toNat)
      case atStart => exact ⟨1, [], rfl, by omega, rfl, HS0, HO0, HB0⟩
      case round =>
        obtain ⟨k, out, rfl, hk, hkb, HS, HO, HB⟩ := hrel
        have hol := (bodyL_len out).1
        have hout : out.length < k := by omega
        have HKB : Hid (k = (bodyL out).length + 1) := hkb
        clear hkb hol
        have hsz := HB.out.size
        have k0 : (0 : Int) ≤ (k : Int) := by omega
        obtain ⟨ao, co, e0⟩ := HO.out.form
        subst e0
        by_cases hlt : k < s.size
        · have k1 : (k : Int) < (s.size : Int) := by omega
          have k2 : ¬ (s.size : Int) ≤ (k : Int) := by omega
          have HD : Hid (s.data.toList.drop k = s[k] :: s.data.toList.drop (k + 1)) := drop_at s k hlt
          by_cases h34 : s[k] = 34
          · have q34 : ((s[k].toNat : Int) != 34) = false := by rw [h34]; rfl
            have HE : Hid (UnqdIs s.data.toList out (k + 1) true) := by
              show UnqdIs _ _ _ _
              rw [HS.out, HD.out, h34, HKB.out]
              exact unqd_good
            have cv := conv_txt (HO.out.isB (by omega))
            clear h34
            go_wp2
            go_ret3
            exact ⟨out, k + 1, true, by go_num, HE.out, by rw [HSL.out]; omega, HB.out⟩
          · have q34 : ((s[k].toNat : Int) != 34) = true := u8_ne (y := 34) rfl h34
            have HN : Hid (s[k] ≠ 34) := h34
            clear h34
            cases hp : plainB s[k]
            · by_cases h92 : s[k] = 92
              · have q92 : ((s[k].toNat : Int) != 92) = false := by rw [h92]; rfl
                by_cases hsh : s.size ≤ k + 2
                · have qs : (s.size : Int) ≤ (k : Int) + 2 := by omega
                  have HE : Hid (UnqdIs s.data.toList [] 0 false) := by
                    show UnqdIs _ _ _ _
                    rw [HS.out]
                    exact unqd_bad (b := 0) HD.out HN.out (by rw [HD.out, h92]; exact byteIs_short (by rw [List.length_drop, HSL.out]; omega))
                  clear h92
                  go_wp2_with fail
                  refine (refPlain_any _ _).mono ?_
                  rintro e w' ⟨rfl, hw⟩
                  replace hw := hw.symm
                  subst hw
                  rw [hp]
                  go_wp2
                  go_ret3
                  exact ⟨[], 0, false, rfl, HE.out, Nat.zero_le _, HB.out⟩
                · have qs : ¬ (s.size : Int) ≤ (k : Int) + 2 := by omega
                  have a1 : (0 : Int) ≤ (k : Int) + 1 := by omega
                  have a2 : (k : Int) + 1 < (s.size : Int) := by omega
                  have a3 : ((k : Int) + 1).toNat = k + 1 := by omega
                  have b1 : (0 : Int) ≤ (k : Int) + 2 := by omega
                  have b2 : (k : Int) + 2 < (s.size : Int) := by omega
                  have b3 : ((k : Int) + 2).toNat = k + 2 := by omega
                  have m1 : k + 1 < s.size := by omega
                  have m2 : k + 2 < s.size := by omega
                  have HL : Hid (s.data.toList.drop k = (92 : UInt8) :: s[k + 1] :: s[k + 2] :: s.data.toList.drop (k + 3)) := by
                    show _ = _
                    rw [HD.out, h92, drop_at s (k + 1) m1, drop_at s (k + 2) m2]
                  clear h92
                  have x1 := hexV_le s[k + 1]
                  have x2 := hexV_le s[k + 2]
                  by_cases hx : hexV s[k + 1] = 16
                  · have HE : Hid (UnqdIs s.data.toList [] 0 false) := by
                      show UnqdIs _ _ _ _
                      rw [HS.out]
                      exact unqd_bad (b := 0) HD.out HN.out (by rw [HL.out]; exact byteIs_digit (.inl hx))
                    have qx : ((hexV s[k + 1] : Int) == 16) = true := by rw [hx]; rfl
                    go_wp2_with fail
                    refine (refPlain_any _ _).mono ?_
                    rintro e w' ⟨rfl, hw⟩
                    replace hw := hw.symm
                    subst hw
                    rw [hp]
                    go_wp2_with fail
                    refine (refValue_any s[k + 1] _).mono ?_
                    rintro e w' ⟨rfl, hw⟩
                    replace hw := hw.symm
                    subst hw
                    go_wp2
                    go_ret3
                    exact ⟨[], 0, false, rfl, HE.out, Nat.zero_le _, HB.out⟩
                  · have qx : ((hexV s[k + 1] : Int) == 16) = false := by rw [beq_eq_false_iff_ne]; omega
                    by_cases hy : hexV s[k + 2] = 16
                    · have HE : Hid (UnqdIs s.data.toList [] 0 false) := by
                        show UnqdIs _ _ _ _
                        rw [HS.out]
                        exact unqd_bad (b := 0) HD.out HN.out (by rw [HL.out]; exact byteIs_digit (.inr hy))
                      have qy : ((hexV s[k + 2] : Int) == 16) = true := by rw [hy]; rfl
                      go_wp2_with fail
                      refine (refPlain_any _ _).mono ?_
                      rintro e w' ⟨rfl, hw⟩
                      replace hw := hw.symm
                      subst hw
                      rw [hp]
                      go_wp2_with fail
                      refine (refValue_any s[k + 1] _).mono ?_
                      rintro e w' ⟨rfl, hw⟩
                      replace hw := hw.symm
                      subst hw
                      go_wp2_with fail
                      refine (refValue_any s[k + 2] _).mono ?_
                      rintro e w' ⟨rfl, hw⟩
                      replace hw := hw.symm
                      subst hw
                      go_wp2
                      go_ret3
                      exact ⟨[], 0, false, rfl, HE.out, Nat.zero_le _, HB.out⟩
                    · have qy : ((hexV s[k + 2] : Int) == 16) = false := by rw [beq_eq_false_iff_ne]; omega
                      have l1 : hexV s[k + 1] < 16 := by omega
                      have l2 : hexV s[k + 2] < 16 := by omega
                      have HBV : Hid ((16 : Int) * (hexV s[k + 1] : Int) + (hexV s[k + 2] : Int) = ((UInt8.ofNat (16 * hexV s[k + 1] + hexV s[k + 2])).toNat : Int)) := by show _ = _; rw [byte_of l1 l2]; omega
                      have HXY : Hid (hexV s[k + 1] < 16 ∧ hexV s[k + 2] < 16) := ⟨l1, l2⟩
                      go_wp2_with fail
                      refine (refPlain_any _ _).mono ?_
                      rintro e w' ⟨rfl, hw⟩
                      replace hw := hw.symm
                      subst hw
                      rw [hp]
                      go_wp2_with fail
                      refine (refValue_any s[k + 1] _).mono ?_
                      rintro e w' ⟨rfl, hw⟩
                      replace hw := hw.symm
                      subst hw
                      go_wp2_with fail
                      refine (refValue_any s[k + 2] _).mono ?_
                      rintro e w' ⟨rfl, hw⟩
                      replace hw := hw.symm
                      subst hw
                      go_wp2
                      have HX : Hid (∀ W, Calls Tryz.prog 85 #[.int .u8 (s[k + 1].toNat : Int)] W fun e w' => e = .returned (.int .i64 (hexV s[k + 1] : Int)) ∧ w' = W) := fun W => refValue_any s[k + 1] W
                      have HY : Hid (∀ W, Calls Tryz.prog 85 #[.int .u8 (s[k + 2].toNat : Int)] W fun e w' => e = .returned (.int .i64 (hexV s[k + 2] : Int)) ∧ w' = W) := fun W => refValue_any s[k + 2] W
                      go_quiet (first
                        | (go_at_call 85; with_reducible exact Calls.quiet_of_same (HX.out _))
                        | (go_at_call 85; with_reducible exact Calls.quiet_of_same (HY.out _)))
                      go_wp2_with fail
                      rw [HBV.out]
                      cases hq : plainB (UInt8.ofNat (16 * hexV s[k + 1] + hexV s[k + 2]))
                      · have HBY : Hid (ByteIs (s.data.toList.drop k) (UInt8.ofNat (16 * hexV s[k + 1] + hexV s[k + 2])) 3) := by show ByteIs _ _ _; rw [HL.out]; exact byteIs_esc HXY.out.1 HXY.out.2 hq
                        have HEL : Hid (escL (UInt8.ofNat (16 * hexV s[k + 1] + hexV s[k + 2])) = [92, s[k + 1], s[k + 2]]) := by
                          show _ = _
                          rcases HBY.out with ⟨h, _⟩ | ⟨h, h2⟩
                          · cases h
                          · rw [HL.out] at h2
                            have := congrArg (List.take 3) h2
                            rw [List.take_left' h.symm] at this
                            exact this.symm
                        refine (refPlain_any _ _).mono ?_
                        rintro e w' ⟨rfl, hw⟩
                        rw [hq]
                        generalize UInt8.ofNat (16 * hexV s[k + 1] + hexV s[k + 2]) = nb at *
                        have HB1 : Hid (Below w.heap.size w w') := by show Below _ _ _; rw [hw]; exact below_drewN HB.out _
                        have HO1 : Hid (OwnB w.heap.size w' (.slice ao out.length co) out) := by show OwnB _ _ _ _; rw [hw]; exact HO.out.below (below_drewN (Below.refl _ _) _)
                        clear hw
                        have hsz1 := HB1.out.size
                        go_wp2_with (at_builtin; refine wpList_append_own _ rfl _ _ 56 rfl w.heap.size 5 i0 (.int .u8 0) 1 1 Tryz.underlying56 hi hz0 hz1 hz2 rfl (by decide) _ _ _ rfl (World.ownsRow.alloc HO1.out _) ⟨w'.heap.size, 0, none⟩ 1 1 [_] rfl rfl (cell_one_new _ _ _) (fun x hx => by simp at hx; subst hx; rfl) (by unfold maxLen; simp; omega) (by simp; omega) (by simp; omega) ?_; intro v' w3 hown' hgrow3 hnil3)
                        go_roundw
                        case rel =>
                          refine ⟨k + 3, out ++ [nb], by go_num, by omega, ?_, ?_, OwnB.more hown' rfl rfl, (HB1.out.alloc (by omega) _).grown hgrow3 (by simp; omega) (fun j e => HO1.out.block j e)⟩
                          · rw [bodyL_snoc, List.length_append, HEL.out]; have := HKB.out; simp; omega
                          · show _ = _
                            rw [bodyL_snoc, HEL.out]
                            conv => lhs; rw [HS.out, HL.out]
                            simp
                        case measure => simp [intOf]; omega
                      · have HE : Hid (UnqdIs s.data.toList [] 0 false) := by
                          show UnqdIs _ _ _ _
                          rw [HS.out]
                          exact unqd_bad (b := 0) HD.out HN.out (by rw [HL.out]; exact byteIs_plainly HXY.out.1 HXY.out.2 hq)
                        refine (refPlain_any _ _).mono ?_
                        rintro e w' ⟨rfl, hw⟩
                        rw [hq]
                        have HB1 : Hid (Below w.heap.size w w') := by show Below _ _ _; rw [hw]; exact below_drewN HB.out _
                        clear hw
                        go_wp2
                        go_ret3
                        exact ⟨[], 0, false, rfl, HE.out, Nat.zero_le _, HB1.out⟩
              · have q92 : ((s[k].toNat : Int) != 92) = true := u8_ne (y := 92) rfl h92
                have HE : Hid (UnqdIs s.data.toList [] 0 false) := by
                  show UnqdIs _ _ _ _
                  rw [HS.out]
                  exact unqd_bad (b := 0) HD.out HN.out (by rw [HD.out]; exact byteIs_other hp h92)
                clear h92
                go_wp2_with fail
                refine (refPlain_any _ _).mono ?_
                rintro e w' ⟨rfl, hw⟩
                replace hw := hw.symm
                subst hw
                rw [hp]
                go_wp2
                go_ret3
                exact ⟨[], 0, false, rfl, HE.out, Nat.zero_le _, HB.out⟩
            · have HTE : Hid (escL s[k] = [s[k]]) := escL_plain hp
              go_wp2_with fail
              refine (refPlain_any _ _).mono ?_
              rintro e w' ⟨rfl, hw⟩
              replace hw := hw.symm
              subst hw
              rw [hp]
              go_wp2_with (at_builtin; refine wpList_append_own _ rfl _ _ 56 rfl w.heap.size 5 i0 (.int .u8 0) 1 1 Tryz.underlying56 hi hz0 hz1 hz2 rfl (by decide) _ _ _ rfl (World.ownsRow.alloc HO.out _) ⟨wr.heap.size, 0, none⟩ 1 1 [_] rfl rfl (cell_one_new _ _ _) (fun x hx => by simp at hx; subst hx; rfl) (by unfold maxLen; simp; omega) (by simp; omega) (by simp; omega) ?_; intro v' w3 hown' hgrow3 hnil3)
              go_roundw
              case rel =>
                refine ⟨k + 1, out ++ [s[k]], by go_num, by omega, ?_, ?_, OwnB.more hown' rfl rfl, (HB.out.alloc (by omega) _).grown hgrow3 (by simp; omega) (fun j e => HO.out.block j e)⟩
                · rw [bodyL_snoc, List.length_append, HTE.out]; have := HKB.out; simp; omega
                · show _ = _
                  rw [bodyL_snoc, HTE.out]
                  conv => lhs; rw [HS.out, HD.out]
                  simp
              case measure => simp [intOf]; omega
        · have k1 : ¬ (k : Int) < (s.size : Int) := by omega
          have k2 : (s.size : Int) ≤ (k : Int) := by omega
          have HE : Hid (UnqdIs s.data.toList [] 0 false) := by
            show UnqdIs _ _ _ _
            rw [HS.out, List.drop_of_length_le (by rw [HSL.out]; omega)]
            exact unqd_end
          go_wp2
          go_ret3
          exact ⟨[], 0, false, rfl, HE.out, Nat.zero_le _, HB.out⟩
    · have HE : Hid (UnqdIs s.data.toList [] 0 false) := by show UnqdIs _ _ _ _; rw [list_one s n0]; exact unqd_head h34
      have q1 : ((s[0].toNat : Int) != 34) = true := u8_ne (y := 34) rfl h34
      clear h34 hsl
      go_enter Tryz.func51, Tryz.ntmps51
      go_wp2
      go_ret3
      exact ⟨[], 0, false, rfl, HE.out, Nat.zero_le _, Below.refl _ _⟩

set_option maxHeartbeats 2000000 in
set_option maxRecDepth 100000 in
/-- The document's Unquote. -/
theorem refUnquote_any (s : ByteArray) (hs : s.size ≤ 140737488355328) (w : World) :
    Calls Tryz.prog 24 #[.string s] w fun e w' => UnqPost s.data.toList w e w' := by
  have hsl : s.data.toList.length = s.size := by simp
  have HSL : Hid (s.data.toList.length = s.size) := hsl
  clear hsl
  go_enter Tryz.func24, Tryz.ntmps24
  go_wp2_with fail
  refine (refUnquoted_any s hs _).mono ?_
  rintro e w' ⟨t, n, b, rfl, hu, ht, hb⟩
  have HU : Hid (UnqdIs s.data.toList t n b) := hu
  have HT : Hid (t.length ≤ s.data.toList.length) := ht
  clear hu ht
  cases b
  · go_wp2
    go_ret2
    exact ⟨[], false, rfl, HU.out.bad, Nat.zero_le _, hb⟩
  · by_cases hn : n = s.size
    · have q : ((n : Int) != (s.size : Int)) = false := by rw [hn]; simp
      have HE : Hid (UnqIs s.data.toList t true) := HU.out.good (by rw [HSL.out]; exact hn)
      clear hn
      go_wp2
      go_ret2
      exact ⟨t, true, rfl, HE.out, HT.out, hb⟩
    · have q : ((n : Int) != (s.size : Int)) = true := by simp only [bne_iff_ne, ne_eq]; omega
      have HE : Hid (UnqIs s.data.toList [] false) := HU.out.more (by rw [HSL.out]; exact hn)
      clear hn
      go_wp2
      go_ret2
      exact ⟨[], false, rfl, HE.out, Nat.zero_le _, hb⟩

end Go.Proofs.YtaocjmipjibiaaaGreatDoor

namespace Go.Proofs.YtaocjmipjibiaaaGreatDoor
open Go.RowKit
set_option linter.unusedVariables false

/-- What a call of the document's Parse leaves. -/
def ParsePost (l : List UInt8) (w : World) (e : Ending) (w' : World) : Prop := ∃ (c r k : Int), e = .returned (.tuple #[.agg #[.int .i64 c, .int .i64 r], .int .i64 k]) ∧ ParseIs l c r k ∧ Below w.heap.size w w'
theorem ParsePost.mk {l : List UInt8} {w w' : World} {c r k : Int} (h : ParseIs l c r k) (hb : Below w.heap.size w w') : ParsePost l w (.returned (.tuple #[.agg #[.int .i64 c, .int .i64 r], .int .i64 k])) w' := ⟨c, r, k, rfl, h, hb⟩

theorem numIs_whole {l : List UInt8} {n : Int} {b : Bool} (h : WholeIs l n b) : NumIs l n b :=
  ⟨fun hb => ⟨by rw [itoa_nat n (h.1 hb).1]; exact (h.1 hb).2.2, by have := (h.1 hb).1; omega, by have := (h.1 hb).2.1; omega⟩, h.2⟩
theorem cut_found (s : ByteArray) (k : Nat) (hk : k < s.size) (h46 : s[k] = 46) (hn : (46 : UInt8) ∉ s.data.toList.take k) : CutIs s.data.toList (s.extract 0 k) (s.extract (k + 1) s.size) true := by
  have hl : s.data.toList.length = s.size := by simp
  have e1 : s.data.toList = s.data.toList.take k ++ 46 :: s.data.toList.drop (k + 1) := by
    have h1 := take_next s k hk
    rw [h46] at h1
    conv => lhs; rw [← List.take_append_drop (k + 1) s.data.toList, h1]
    simp
  have g1 : (s.extract 0 k).data.toList = s.data.toList.take k := by rw [← ByteArray.toList_eq, Lib.extract_toList]; simp
  have g2 : (s.extract (k + 1) s.size).data.toList = s.data.toList.drop (k + 1) := by
    rw [← ByteArray.toList_eq, Lib.extract_toList, List.take_of_length_le (by simp)]
  exact .inr ⟨rfl, by rw [g1, g2]; exact e1, by rw [g1]; exact hn⟩

set_option maxHeartbeats 2000000 in
theorem refParseS_any (s : ByteArray) (hs : s.size ≤ 281474976710656) (w : World) :
    Calls Tryz.prog 98 #[.string s] w fun e w' => ParsePost s.data.toList w e w' := by
  by_cases h1 : s.data.toList = rootL
  · have q1 : (s.toList == [114, 111, 111, 116]) = true := by rw [ByteArray.toList_eq, h1]; rfl
    have H1 : Hid (s.data.toList = rootL) := h1
    clear h1
    go_enter Tryz.func98, Tryz.ntmps98
    go_wp2
    exact bodyPost_ret (v := .tuple #[.agg #[.int .i64 (0), .int .i64 (0)], .int .i64 0]) (by simp [results, Tryz.results98, go_sem]) rfl (ParsePost.mk (.inl ⟨H1.out, rfl, rfl, rfl⟩) ((Below.refl _ _).alloc (Nat.le_refl _) _))
  have q1 : (s.toList == [114, 111, 111, 116]) = false := by rw [ByteArray.toList_eq, beq_eq_false_iff_ne]; exact h1
  have H1 : Hid (¬ s.data.toList = rootL) := h1
  clear h1
  by_cases h2 : s.data.toList = trashL
  · have q2 : (s.toList == [116, 114, 97, 115, 104]) = true := by rw [ByteArray.toList_eq, h2]; rfl
    have H2 : Hid (s.data.toList = trashL) := h2
    clear h2
    go_enter Tryz.func98, Tryz.ntmps98
    go_wp2
    exact bodyPost_ret (v := .tuple #[.agg #[.int .i64 (0), .int .i64 (1)], .int .i64 0]) (by simp [results, Tryz.results98, go_sem]) rfl (ParsePost.mk (.inr (.inl ⟨H2.out, rfl, rfl, rfl⟩)) ((Below.refl _ _).alloc (Nat.le_refl _) _))
  have q2 : (s.toList == [116, 114, 97, 115, 104]) = false := by rw [ByteArray.toList_eq, beq_eq_false_iff_ne]; exact h2
  have H2 : Hid (¬ s.data.toList = trashL) := h2
  clear h2
  have hs2 : (s.size : Int) ≤ 281474976710656 := by omega
  go_enter Tryz.func98, Tryz.ntmps98
  go_wp2
  go_loop [4] (fun i => ∃ k : Nat, k ≤ s.size ∧ i = .int .i64 k ∧ (46 : UInt8) ∉ s.data.toList.take k) (fun i => s.size - (intOf i).toNat)
  case atStart => exact ⟨0, Nat.zero_le _, rfl, by simp⟩
  case round =>
    obtain ⟨k, hk, rfl, hn⟩ := hrel
    have HN : Hid ((46 : UInt8) ∉ s.data.toList.take k) := hn
    clear hn
    by_cases hlt : k < s.size
    · have k1 : (k : Int) < (s.size : Int) := by omega
      by_cases d : s[k] = 46
      · have d1 : ((s[k].toNat : Int) == 46) = true := by rw [d]; rfl
        have C : Hid (CutIs s.data.toList (s.extract 0 k) (s.extract (k + 1) s.size) true) := cut_found s k hlt d HN.out
        clear d
        have c1 : (0 : Int) ≤ ↑k := by omega
        have c2 : (↑k : Int) ≤ ↑s.size := by omega
        have c3 : (0 : Int) ≤ ↑k + 1 := by omega
        have c4 : (↑k + 1 : Int) ≤ ↑s.size := by omega
        go_wp2_with fail
        refine (whole_any _ _).mono ?_
        rintro e w1 ⟨n, b1, rfl, h1, rfl⟩
        have N1 : Hid (NumIs (s.extract 0 k).data.toList n b1) := numIs_whole h1
        clear h1
        go_wp2_with fail
        refine (whole_any _ _).mono ?_
        rintro e w2 ⟨m, b2, rfl, h1, rfl⟩
        have N2 : Hid (NumIs (s.extract (k + 1) s.size).data.toList m b2) := numIs_whole h1
        clear h1
        cases b1
        · go_wp2
          exact bodyPost_ret (v := .tuple #[.agg #[.int .i64 (0), .int .i64 (0)], .int .i64 2]) (by simp [results, Tryz.results98, go_sem]) rfl (ParsePost.mk (parseIs_stamp H1.out H2.out (stampIs_bad1 C.out N1.out)) (((Below.refl _ _).alloc (Nat.le_refl _) _).alloc (by simp) _))
        cases b2
        · go_wp2
          exact bodyPost_ret (v := .tuple #[.agg #[.int .i64 (0), .int .i64 (0)], .int .i64 2]) (by simp [results, Tryz.results98, go_sem]) rfl (ParsePost.mk (parseIs_stamp H1.out H2.out (stampIs_bad2 C.out N2.out)) (((Below.refl _ _).alloc (Nat.le_refl _) _).alloc (by simp) _))
        cases hr : rightB n m
        · go_wp2_with (go_at_call 38; refine (refRight_any _ _ _).mono ?_; rintro e w3 ⟨rfl, rfl⟩)
          exact bodyPost_ret (v := .tuple #[.agg #[.int .i64 (0), .int .i64 (0)], .int .i64 2]) (by simp [results, Tryz.results98, go_sem]) rfl (ParsePost.mk (parseIs_stamp H1.out H2.out (stampIs_wrong C.out N1.out N2.out (fun h => by rw [(rightP_iff n m).2 h] at hr; cases hr))) ((((Below.refl _ _).alloc (Nat.le_refl _) _).alloc (by simp) _).alloc (by simp; omega) _))
        · go_wp2_with (go_at_call 38; refine (refRight_any _ _ _).mono ?_; rintro e w3 ⟨rfl, rfl⟩)
          exact bodyPost_ret (v := .tuple #[.agg #[.int .i64 (n), .int .i64 (m)], .int .i64 0]) (by simp [results, Tryz.results98, go_sem]) rfl (ParsePost.mk (parseIs_stamp H1.out H2.out (stampIs_ok C.out N1.out N2.out ((rightP_iff n m).1 hr))) ((((Below.refl _ _).alloc (Nat.le_refl _) _).alloc (by simp) _).alloc (by simp; omega) _))
      · have d1 : ((s[k].toNat : Int) == 46) = false := by
          rw [beq_eq_false_iff_ne]
          intro h
          exact d (UInt8.toNat_inj.1 (by simp; omega))
        have D : Hid (¬ s[k] = 46) := d
        clear d
        go_wp2
        go_round
        case rel =>
          refine ⟨k + 1, by omega, by go_num, ?_⟩
          rw [take_next s k hlt, List.mem_append, List.mem_singleton, not_or]
          exact ⟨HN.out, fun h => D.out h.symm⟩
        case measure => simp [intOf]; omega
    · have e : Hid (s.data.toList.take k = s.data.toList) := List.take_of_length_le (by simp; omega)
      go_wp2
      exact bodyPost_ret (v := .tuple #[.agg #[.int .i64 (0), .int .i64 (0)], .int .i64 2]) (by simp [results, Tryz.results98, go_sem]) rfl (ParsePost.mk (parseIs_stamp H1.out H2.out (stampIs_nocut _ (by have h := HN.out; rw [e.out] at h; exact h))) ((Below.refl _ _).alloc (Nat.le_refl _) _))

end Go.Proofs.YtaocjmipjibiaaaGreatDoor

namespace Go.Proofs.YtaocjmipjibiaaaGreatDoor
open Go.RowKit
set_option linter.unusedVariables false
set_option linter.unusedSimpArgs false

theorem ownsRow_form {B : Nat} {w : World} {t : TypeId} {z n : Nat} {v : Value} {xs : List Value} (h : w.ownsRow B t z v n xs) : ∃ a cap, v = .slice a n cap := by
  rcases h.2 with ⟨rfl, hn⟩ | ⟨g, cap, cur, rfl, _⟩
  · exact ⟨none, 0, by rw [hn]⟩
  · exact ⟨_, cap, rfl⟩
theorem ownsRow_has {B : Nat} {w : World} {t : TypeId} {z n : Nat} {v : Value} {xs : List Value} (h : w.ownsRow B t z v (n + 1) xs) : ∃ g cap, v = .slice (some ⟨g, 0, none⟩) (n + 1) cap := by
  rcases h.2 with ⟨rfl, hn⟩ | ⟨g, cap, cur, rfl, _⟩
  · omega
  · exact ⟨g, cap, rfl⟩
def WordsPost (m : Nat) (l : List UInt8) (w : World) (e : Ending) (w' : World) : Prop := ∃ (g cap n : Nat) (W : List ByteArray), e = .returned (.slice (some ⟨g, 0, none⟩) n cap) ∧ OwnW w.heap.size w' (.slice (some ⟨g, 0, none⟩) n cap) n W ∧ n = W.length ∧ n ≤ m + 1 ∧ W.map (·.data.toList) = wordsL m l ∧ Below w.heap.size w w'
theorem ownW_more {B : Nat} {w : World} {v : Value} {W : List ByteArray} {s : ByteArray} {n : Nat} {cs : List Value} (h : w.ownsRow B 9 1 v n cs) (hc : cs = W.map Value.string ++ [.string s]) : OwnW B w v n (W ++ [s]) := by
  unfold OwnW
  rw [List.map_append]
  rw [hc] at h
  exact h

set_option maxHeartbeats 4000000 in
set_option maxRecDepth 100000 in
/-- The document's Words. -/
theorem refWords_any (m : Nat) (M : Int) (hM : M = (m : Int) + 1) (hm : m ≤ 60) (s : ByteArray) (hs : s.size ≤ 262144) (w : World) :
    Calls Tryz.prog 67 #[.string s, .int .i64 M] w fun e w' => WordsPost m s.data.toList w e w' := by
  obtain ⟨i0, hi, hz0, hz1, hz2⟩ := info_parts infoStr
  have hsl : s.data.toList.length = s.size := by simp
  have HSL : Hid (s.data.toList.length = s.size) := hsl
  clear hsl
  have HO0 : Hid (OwnW w.heap.size (w.alloc (.cells #[] 9)) (.slice (some ⟨w.heap.size, 0, none⟩) 0 0) 0 []) := OwnW.made w [] 0 rfl (by omega) (Nat.le_refl _)
  have HB0 : Hid (Below w.heap.size w (w.alloc (.cells #[] 9))) := (Below.refl _ _).alloc (Nat.le_refl _) _
  have hM1 : M - 1 = (m : Int) := by omega
  clear hM
  go_enter Tryz.func67, Tryz.ntmps67
  go_wp2
  go_loopw [5, 6, 7] (fun ov fv iv wr => ∃ (k f n : Nat) (W : List ByteArray), k ≤ s.size ∧ f ≤ k ∧ n ≤ m ∧ iv = .int .i64 (k : Int) ∧ fv = .int .i64 (f : Int) ∧ Hid (n = W.length) ∧ Hid (CutTo m s.data.toList (W.map (·.data.toList)) f k) ∧ Hid (OwnW w.heap.size wr ov n W) ∧ Hid (Below w.heap.size w wr)) (fun _ _ iv _ => s.size - (intOf iv).toNat)
  case atStart => exact ⟨0, 0, 0, [], by omega, by omega, by omega, rfl, rfl, rfl, cutTo_start _ _, HO0, HB0⟩
  case round =>
    obtain ⟨k, f, n, W, hk, hf, hn, rfl, rfl, HN, HC, HO, HB⟩ := hrel
    have hsz := HB.out.size
    have k0 : (0 : Int) ≤ (k : Int) := by omega
    have f0 : (0 : Int) ≤ (f : Int) := by omega
    have fk : (f : Int) ≤ (k : Int) := by omega
    have ks : (k : Int) ≤ (s.size : Int) := by omega
    have fs : (f : Int) ≤ (s.size : Int) := by omega
    obtain ⟨ao, co, e0⟩ := ownsRow_form HO.out
    subst e0
    have HEND : Hid ((k = s.size ∨ n = m) → wordsL m s.data.toList = (W ++ [s.extract f s.size]).map (·.data.toList)) := fun h => by
      rw [cutTo_end HC.out (by rw [HSL.out, List.length_map, ← HN.out]; exact h), List.map_append, List.map_singleton, extract_drop]
    by_cases hlt : k < s.size
    · have k1 : (k : Int) < (s.size : Int) := by omega
      have hkl : k < s.data.toList.length := by rw [HSL.out]; exact hlt
      by_cases hnm : n < m
      · have q1 : (n : Int) < (m : Int) := by omega
        by_cases hc : s[k] = 32
        · have q2 : ((s[k].toNat : Int) == 32) = true := by rw [hc]; rfl
          have HC2 : Hid (CutTo m s.data.toList ((W ++ [s.extract f k]).map (·.data.toList)) (k + 1) (k + 1)) := by
            show CutTo _ _ _ _ _
            have := cutTo_cut HC.out hkl (show s.data.toList[k] = 32 from hc) (by rw [List.length_map, ← HN.out]; exact hnm)
            rw [List.map_append, List.map_singleton, ← ByteArray.toList_eq (s.extract f k), Lib.extract_toList]
            exact this
          clear hc
          go_wp2_with (at_builtin; refine wpList_append_own _ rfl _ _ 65 rfl w.heap.size 9 i0 (.string ⟨#[]⟩) 1 16 Tryz.underlying65 hi hz0 hz1 hz2 rfl (by decide) _ _ _ rfl (World.ownsRow.alloc HO.out _) ⟨wr.heap.size, 0, none⟩ 1 1 [.string (s.extract f k)] rfl rfl (cell_one_new _ _ _) (fun x hx => by simp at hx; subst hx; rfl) (by unfold maxLen; omega) (by omega) (by simp; omega) ?_; intro v' w3 hown' hgrow3 hnil3)
          go_roundw
          case rel => exact ⟨k + 1, k + 1, n + 1, W ++ [s.extract f k], by omega, by omega, by omega, by go_num, by go_num, by show _ = _; rw [List.length_append, ← HN.out]; rfl, HC2, ownW_more hown' rfl, (HB.out.alloc (by omega) _).grown hgrow3 (by simp; omega) (fun j e => (World.ownsRow.lt HO.out j e).1)⟩
          case measure => simp [intOf]; omega
        · have q2 : ((s[k].toNat : Int) == 32) = false := by
            have := u8_ne (y := 32) (n := 32) rfl hc
            simpa [bne] using this
          have HC2 : Hid (CutTo m s.data.toList (W.map (·.data.toList)) f (k + 1)) := cutTo_on HC.out hkl hc
          clear hc
          go_wp2
          go_roundw
          case rel => exact ⟨k + 1, f, n, W, by omega, by omega, hn, by go_num, rfl, HN, HC2, HO, HB⟩
          case measure => simp [intOf]; omega
      · have q1 : ¬ (n : Int) < (m : Int) := by omega
        have HE : Hid (wordsL m s.data.toList = (W ++ [s.extract f s.size]).map (·.data.toList)) := HEND.out (.inr (by omega))
        go_wp2_with (at_builtin; refine wpList_append_own _ rfl _ _ 65 rfl w.heap.size 9 i0 (.string ⟨#[]⟩) 1 16 Tryz.underlying65 hi hz0 hz1 hz2 rfl (by decide) _ _ _ rfl (World.ownsRow.alloc HO.out _) ⟨wr.heap.size, 0, none⟩ 1 1 [.string (s.extract f s.size)] rfl rfl (cell_one_new _ _ _) (fun x hx => by simp at hx; subst hx; rfl) (by unfold maxLen; omega) (by omega) (by simp; omega) ?_; intro v' w3 hown' hgrow3 hnil3; obtain ⟨gv, cv, ev⟩ := ownsRow_has hown'; subst ev)
        go_ret
        exact ⟨gv, cv, n + 1, W ++ [s.extract f s.size], rfl, ownW_more hown' rfl, by rw [List.length_append, ← HN.out]; rfl, by omega, HE.out.symm, (HB.out.alloc (by omega) _).grown hgrow3 (by simp; omega) (fun j e => (World.ownsRow.lt HO.out j e).1)⟩
    · have k1 : ¬ (k : Int) < (s.size : Int) := by omega
      have HE : Hid (wordsL m s.data.toList = (W ++ [s.extract f s.size]).map (·.data.toList)) := HEND.out (.inl (by omega))
      go_wp2_with (at_builtin; refine wpList_append_own _ rfl _ _ 65 rfl w.heap.size 9 i0 (.string ⟨#[]⟩) 1 16 Tryz.underlying65 hi hz0 hz1 hz2 rfl (by decide) _ _ _ rfl (World.ownsRow.alloc HO.out _) ⟨wr.heap.size, 0, none⟩ 1 1 [.string (s.extract f s.size)] rfl rfl (cell_one_new _ _ _) (fun x hx => by simp at hx; subst hx; rfl) (by unfold maxLen; omega) (by omega) (by simp; omega) ?_; intro v' w3 hown' hgrow3 hnil3; obtain ⟨gv, cv, ev⟩ := ownsRow_has hown'; subst ev)
      go_ret
      exact ⟨gv, cv, n + 1, W ++ [s.extract f s.size], rfl, ownW_more hown' rfl, by rw [List.length_append, ← HN.out]; rfl, by omega, HE.out.symm, (HB.out.alloc (by omega) _).grown hgrow3 (by simp; omega) (fun j e => (World.ownsRow.lt HO.out j e).1)⟩

/-- The words of a text, as a row. -/
def WdsAt (w : World) (g n cap m : Nat) (l : List UInt8) : Prop := ∃ (B : Nat) (W : List ByteArray), OwnW B w (.slice (some ⟨g, 0, none⟩) n cap) n W ∧ n = W.length ∧ W.map (·.data.toList) = wordsL m l
theorem WdsAt.below {w w' : World} {g n cap m : Nat} {l : List UInt8} (h : WdsAt w g n cap m l) (hb : Below w.heap.size w w') : WdsAt w' g n cap m l := by
  obtain ⟨B, W, h1, h2, h3⟩ := h
  exact ⟨B, W, ownsRow_below h1 hb, h2, h3⟩
theorem WdsAt.lt {w : World} {g n cap m : Nat} {l : List UInt8} (h : WdsAt w g n cap m l) : g < w.heap.size := by
  obtain ⟨B, W, h1, _⟩ := h
  exact (World.ownsRow.lt h1 g rfl).2
theorem WdsAt.keep {w w' : World} {g n cap m : Nat} {l : List UInt8} (h : WdsAt w g n cap m l) (hb : w'.heap[g]? = w.heap[g]?) : WdsAt w' g n cap m l := by
  obtain ⟨B, W, h1, h2, h3⟩ := h
  refine ⟨B, W, ⟨h1.1, ?_⟩, h2, h3⟩
  rcases h1.2 with hn | ⟨g', cap', cur, hv, hg, hc, rest⟩
  · exact .inl hn
  · refine .inr ⟨g', cap', cur, hv, hg, ?_, rest⟩
    cases hv
    rw [hb]
    exact hc
theorem WdsAt.set {w : World} {g n cap m k i : Nat} {l : List UInt8} {v : Value} (h : WdsAt w g n cap m l) (hk : g ≠ k) : WdsAt (w.setCell ⟨k, i, none⟩ v) g n cap m l := h.keep (heap_setCell_other w ⟨k, i, none⟩ g v hk)

set_option maxHeartbeats 1000000 in
set_option maxRecDepth 100000 in
/-- The document's at, of the words of a text. -/
theorem refWordAt_any (g n cap m : Nat) (l : List UInt8) (i : Nat) (I : Int) (hI : I = (i : Int)) (w : World) (h : WdsAt w g n cap m l) :
    Calls Tryz.prog 69 #[.slice (some ⟨g, 0, none⟩) n cap, .int .i64 I] w fun e w' => ∃ s : ByteArray, e = .returned (.string s) ∧ s.data.toList = (wordsL m l).getD i [] ∧ w' = w := by
  subst hI
  obtain ⟨B, W, h1, h2, h3⟩ := h
  have H3 : Hid (W.map (·.data.toList) = wordsL m l) := h3
  have HN : Hid (n = W.length) := h2
  clear h3 h2
  have i0 : (0 : Int) ≤ (i : Int) := by omega
  by_cases hlt : i < n
  · have q : (i : Int) < (n : Int) := by omega
    have hw : i < W.length := by rw [← HN.out]; exact hlt
    have hc := World.ownsRow.cellAt h1 i (by omega)
    rw [show (W.map Value.string)[i]? = some (.string W[i]) by rw [List.getElem?_map, List.getElem?_eq_getElem hw]; rfl] at hc
    have HE : Hid ((W[i]).data.toList = (wordsL m l).getD i []) := by
      show _ = _
      rw [← H3.out, List.getD_eq_getElem?_getD, List.getElem?_map, List.getElem?_eq_getElem hw]
      rfl
    generalize W[i] = x at *
    go_enter Tryz.func69, Tryz.ntmps69
    go_wp2
    go_ret
    exact ⟨x, rfl, HE.out, rfl⟩
  · have q : ¬ (i : Int) < (n : Int) := by omega
    have HE : Hid ((wordsL m l).getD i [] = []) := by
      show _ = _
      rw [← H3.out, List.getD_eq_getElem?_getD, List.getElem?_eq_none (by rw [List.length_map, ← HN.out]; omega)]
      rfl
    go_enter Tryz.func69, Tryz.ntmps69
    go_wp2
    go_ret
    exact ⟨⟨#[]⟩, rfl, HE.out.symm, rfl⟩

end Go.Proofs.YtaocjmipjibiaaaGreatDoor

namespace Go.Proofs.YtaocjmipjibiaaaGreatDoor
open Go.RowKit
set_option linter.unusedVariables false

/-- A word that is no numeral up to MaxCount, behind numerals: the text is no clock's. -/
theorem bad_word {L wd rest : List UInt8} {out : List Int} (hL : L = preL out ++ (wd ++ rest)) (hr : rest = [] ∨ ∃ r, rest = 44 :: r) (hw : (44 : UInt8) ∉ wd) (hn : ∀ u : Nat, u ≤ 1099511627776 → wd ≠ Lib.decDigits u) : ∀ d, d ≠ [] → OkC d → L ≠ commaL d := fun d hd hok e => by
  rw [hL] at e
  obtain ⟨d', e1, h1, e2⟩ := pre_split out d _ e hd
  have hok' : ∀ x ∈ d', 0 ≤ x ∧ x ≤ 1099511627776 := fun x hx => hok.2 x (by rw [e1]; simp [hx])
  rcases hr with rfl | ⟨r, rfl⟩
  · rw [List.append_nil] at e2
    obtain ⟨x, rfl, ex⟩ := word_last h1 hw e2
    have := hok' x (by simp)
    rw [itoa_nat x this.1] at ex
    exact hn x.toNat (by omega) ex
  · obtain ⟨x, r', rfl, ex⟩ := word_of h1 hw e2
    have := hok' x (by simp)
    rw [itoa_nat x this.1] at ex
    exact hn x.toNat (by omega) ex
theorem bad_long {L s : List UInt8} {out : List Int} (hL : L = preL out ++ s) (h64 : out.length = 64) : ∀ d, d ≠ [] → OkC d → L ≠ commaL d := fun d hd hok e => by
  rw [hL] at e
  obtain ⟨d', e1, h1, e2⟩ := pre_split out d _ e hd
  have h2 := hok.1
  have h3 : d'.length ≠ 0 := fun h => h1 (List.eq_nil_of_length_eq_zero h)
  rw [e1, List.length_append] at h2
  omega

/-- What has been read: the numbers ahead of place f, and no comma from there on to k; or all. -/
def ReadTo (L : List UInt8) (out : List Int) (f k : Nat) : Prop :=
  (k ≤ L.length ∧ f ≤ k ∧ L.take f = preL out ∧ (44 : UInt8) ∉ (L.drop f).take (k - f)) ∨ (k = L.length + 1 ∧ out ≠ [] ∧ L = commaL out)
theorem readTo_split {L : List UInt8} {f k : Nat} (hf : f ≤ k) : L = L.take f ++ ((L.drop f).take (k - f) ++ L.drop k) := by
  conv => lhs; rw [← List.take_append_drop f L]
  congr 1
  conv => lhs; rw [← List.take_append_drop (k - f) (L.drop f)]
  congr 1
  rw [List.drop_drop]
  congr 1
  omega
theorem readTo_on {L : List UInt8} {out : List Int} {f k : Nat} (h : ReadTo L out f k) (hk : k < L.length) (hc : L[k] ≠ 44) : ReadTo L out f (k + 1) := by
  rcases h with ⟨h1, h2, h3, h4⟩ | ⟨h1, _⟩
  · refine .inl ⟨by omega, by omega, h3, ?_⟩
    rw [show k + 1 - f = (k - f) + 1 by omega, List.take_succ_eq_append_getElem (by rw [List.length_drop]; omega), List.mem_append, List.mem_singleton, not_or]
    refine ⟨h4, ?_⟩
    rw [List.getElem_drop]
    intro e
    exact hc (by rw [e]; congr 1; omega)
  · omega
theorem readTo_comma {L wd : List UInt8} {out : List Int} {f k : Nat} {n : Int} (h : ReadTo L out f k) (hk : k < L.length) (hc : L[k] = 44) (hw : wd = (L.drop f).take (k - f)) (hn : wd = Lib.itoa n) : ReadTo L (out ++ [n]) (k + 1) (k + 1) := by
  rcases h with ⟨h1, h2, h3, h4⟩ | ⟨h1, _⟩
  · refine .inl ⟨by omega, Nat.le_refl _, ?_, by simp⟩
    rw [List.take_succ_eq_append_getElem hk, hc, preL_snoc, ← h3, ← hn, hw]
    congr 1
    conv => lhs; rw [show k = f + (k - f) by omega]
    rw [List.take_add]
  · omega
theorem readTo_end {L wd : List UInt8} {out : List Int} {f k : Nat} {n : Int} (h : ReadTo L out f k) (hk : k = L.length) (hw : wd = (L.drop f).take (k - f)) (hn : wd = Lib.itoa n) (g : Nat) : ReadTo L (out ++ [n]) g (k + 1) := by
  rcases h with ⟨h1, h2, h3, h4⟩ | ⟨h1, _⟩
  · refine .inr ⟨by omega, by simp, ?_⟩
    rw [commaL_snoc, ← h3, ← hn, hw]
    conv => lhs; rw [← List.take_append_drop f L]
    congr 1
    rw [List.take_of_length_le (by rw [List.length_drop]; omega)]
  · omega
theorem whole_itoa {l : List UInt8} {n : Int} (h : WholeIs l n true) : l = Lib.itoa n ∧ 0 ≤ n ∧ n ≤ 1099511627776 := by
  obtain ⟨a, b, c⟩ := h.1 rfl
  exact ⟨by rw [itoa_nat n a]; exact c, a, b⟩

set_option maxHeartbeats 4000000 in
set_option maxRecDepth 100000 in
/-- The document's Parse. -/
theorem refParse_any (s : ByteArray) (hs : s.size ≤ 281474976710656) (w : World) :
    Calls Tryz.prog 70 #[.string s] w fun e w' => ∃ v d k, e = .returned (.tuple #[v, .int .i64 k]) ∧ OwnI w.heap.size w' v d ∧ d.length ≤ 64 ∧ ParseC s.data.toList d k ∧ Below w.heap.size w w' := by
  obtain ⟨i0, hi, hz0, hz1, hz2⟩ := info_parts infoInt
  have hsl : s.data.toList.length = s.size := by simp
  by_cases h1 : s.data.toList = [45]
  · have q1 : (s.toList == [45]) = true := by rw [ByteArray.toList_eq, h1]; rfl
    have H1 : Hid (s.data.toList = [45]) := h1
    clear h1
    go_enter Tryz.func70, Tryz.ntmps70
    go_wp2
    go_ret2
    exact ⟨_, [], _, rfl, OwnI.nil0 _ _, by simp, .inl ⟨H1.out, rfl, rfl⟩, Below.refl _ _⟩
  · have q1 : (s.toList == [45]) = false := by rw [ByteArray.toList_eq, beq_eq_false_iff_ne]; exact h1
    have H1 : Hid (¬ s.data.toList = [45]) := h1
    have HSL : Hid (s.data.toList.length = s.size) := hsl
    clear h1 hsl
    have HO0 : Hid (OwnI w.heap.size (w.alloc (.cells #[] 3)) (.slice (some ⟨w.heap.size, 0, none⟩) 0 0) []) := OwnI.empty w _ (Nat.le_refl _)
    have HB0 : Hid (Below w.heap.size w (w.alloc (.cells #[] 3))) := (Below.refl _ _).alloc (Nat.le_refl _) _
    go_enter Tryz.func70, Tryz.ntmps70
    go_wp2
    go_loopw [4, 5, 6] (fun ov fv iv wr => ∃ (k f : Nat) (out : List Int), k ≤ s.size + 1 ∧ f ≤ s.size + 1 ∧ iv = .int .i64 (k : Int) ∧ fv = .int .i64 (f : Int) ∧ out.length ≤ 64 ∧ Hid (∀ x ∈ out, 0 ≤ x ∧ x ≤ 1099511627776) ∧ Hid (ReadTo s.data.toList out f k) ∧ Hid (OwnI w.heap.size wr ov out) ∧ Hid (Below w.heap.size w wr)) (fun _ _ iv _ => s.size + 1 - (intOf iv).toNat)
    case atStart => exact ⟨0, 0, [], by omega, by omega, rfl, rfl, by simp, fun x hx => by simp at hx, .inl ⟨Nat.zero_le _, Nat.le_refl _, by simp [preL], by simp⟩, HO0, HB0⟩
    case round =>
      obtain ⟨k, f, out, hk, hf, rfl, rfl, hlen, HA, HRT, HO, HB⟩ := hrel
      have hsz := HB.out.size
      by_cases hle : k ≤ s.size
      · obtain ⟨ao, co, e0⟩ := HO.out.form
        subst e0
        have hfk : f ≤ k := by
          rcases HRT.out with ⟨_, h, _⟩ | ⟨h, _⟩
          · exact h
          · rw [HSL.out] at h; omega
        have HP0 : Hid (s.data.toList.take f = preL out ∧ (44 : UInt8) ∉ (s.data.toList.drop f).take (k - f)) := by
          rcases HRT.out with ⟨_, _, h, h'⟩ | ⟨h, _⟩
          · exact ⟨h, h'⟩
          · rw [HSL.out] at h; omega
        have HL : Hid (s.data.toList = preL out ++ ((s.data.toList.drop f).take (k - f) ++ s.data.toList.drop k)) := by
          show _ = _
          have := readTo_split (L := s.data.toList) hfk
          rw [HP0.out.1] at this
          exact this
        have HWD : Hid ((s.extract f k).data.toList = (s.data.toList.drop f).take (k - f)) := by show _ = _; rw [← ByteArray.toList_eq, Lib.extract_toList]
        have f0 : (0 : Int) ≤ (f : Int) := by omega
        have fk : (f : Int) ≤ (k : Int) := by omega
        have ks : (k : Int) ≤ (s.size : Int) := by omega
        by_cases hlt : k < s.size
        · have k1 : (k : Int) < (s.size : Int) := by omega
          have k0 : (0 : Int) ≤ (k : Int) := by omega
          have hkl : k < s.data.toList.length := by rw [HSL.out]; exact hlt
          have hsk : s.data.toList[k] = s[k] := by rfl
          by_cases hc : s[k] = 44
          · have d1 : ((s[k].toNat : Int) != 44) = false := by rw [hc]; rfl
            have HC : Hid (s.data.toList[k]'hkl = 44) := hsk.trans hc
            have HREST : Hid (s.data.toList.drop k = 44 :: s.data.toList.drop (k + 1)) := by
              show _ = _
              rw [List.drop_eq_getElem_cons hkl, HC.out]
            clear hc hsk
            go_wp2_with fail
            refine (whole_any _ _).mono ?_
            rintro e w' ⟨n, ok, rfl, hW, hw⟩
            replace hw := hw.symm
            subst hw
            have HW : Hid (WholeIs (s.extract f k).data.toList n ok) := hW
            clear hW
            cases ok
            · have HN : Hid (ParseC s.data.toList [] 2) := parseC_bad1 H1.out (bad_word HL.out (.inr ⟨_, HREST.out⟩) HP0.out.2 (by rw [← HWD.out]; exact HW.out.2 rfl))
              go_wp2
              go_ret2
              exact ⟨_, [], _, rfl, OwnI.nil0 _ _, by simp, HN.out, HB.out⟩
            · obtain ⟨hwd, hn0, hn1⟩ := whole_itoa HW.out
              have HWN : Hid ((s.extract f k).data.toList = Lib.itoa n) := hwd
              clear hwd HW
              by_cases h64 : out.length = 64
              · have HN : Hid (ParseC s.data.toList [] 2) := parseC_bad1 H1.out (bad_long HL.out h64)
                have q64 : ((out.length : Int) == 64) = true := by simp; omega
                clear h64
                go_wp2
                go_ret2
                exact ⟨_, [], _, rfl, OwnI.nil0 _ _, by simp, HN.out, HB.out⟩
              · have q64 : ((out.length : Int) == 64) = false := by simp; omega
                have HR2 : Hid (ReadTo s.data.toList (out ++ [n]) (k + 1) (k + 1)) := readTo_comma HRT.out hkl HC.out HWD.out HWN.out
                have HA2 : Hid (∀ x ∈ out ++ [n], 0 ≤ x ∧ x ≤ 1099511627776) := fun x hx => by
                  rcases List.mem_append.1 hx with h | h
                  · exact HA.out x h
                  · simp at h; subst h; exact ⟨hn0, hn1⟩
                go_wp2_with (at_builtin; refine wpList_append_own _ rfl _ _ 24 rfl w.heap.size 3 i0 (.int .i64 0) 1 8 Tryz.underlying24 hi hz0 hz1 hz2 rfl (by decide) _ _ _ rfl (World.ownsRow.alloc HO.out _) ⟨wr.heap.size, 0, none⟩ 1 1 [.int .i64 n] rfl rfl (cell_one_new _ _ _) (fun x hx => by simp at hx; subst hx; rfl) (by unfold maxLen; omega) (by omega) (by simp; omega) ?_; intro v' w3 hown' hgrow3 hnil3)
                go_roundw
                case rel => exact ⟨k + 1, k + 1, out ++ [n], by omega, by omega, by go_num, by go_num, by simp; omega, HA2, HR2, OwnI.snoc hown', (HB.out.alloc (by omega) _).grown hgrow3 (by simp; omega) (fun j e => HO.out.block j e)⟩
                case measure => simp [intOf]; omega
          · have d1 : ((s[k].toNat : Int) != 44) = true := by
              simp only [bne_iff_ne, ne_eq]
              intro h
              exact hc (UInt8.toNat_inj.1 (by have : s[k].toNat = 44 := by omega
                                              rw [this]; rfl))
            have HR2 : Hid (ReadTo s.data.toList out f (k + 1)) := readTo_on HRT.out hkl (by rw [hsk]; exact hc)
            clear hc hsk
            go_wp2
            go_roundw
            case rel => exact ⟨k + 1, f, out, by omega, by omega, by go_num, rfl, hlen, HA, HR2, HO, HB⟩
            case measure => simp [intOf]; omega
        · have hkz : k = s.size := by omega
          have kn : ¬ (k : Int) < (s.size : Int) := by omega
          have HREST : Hid (s.data.toList.drop k = []) := by show _ = _; rw [List.drop_eq_nil_iff, HSL.out]; omega
          have HKZ : Hid (k = s.data.toList.length) := by show _ = _; rw [HSL.out]; exact hkz
          clear hkz
          go_wp2_with fail
          refine (whole_any _ _).mono ?_
          rintro e w' ⟨n, ok, rfl, hW, hw⟩
          replace hw := hw.symm
          subst hw
          have HW : Hid (WholeIs (s.extract f k).data.toList n ok) := hW
          clear hW
          cases ok
          · have HN : Hid (ParseC s.data.toList [] 2) := parseC_bad1 H1.out (bad_word HL.out (.inl HREST.out) HP0.out.2 (by rw [← HWD.out]; exact HW.out.2 rfl))
            go_wp2
            go_ret2
            exact ⟨_, [], _, rfl, OwnI.nil0 _ _, by simp, HN.out, HB.out⟩
          · obtain ⟨hwd, hn0, hn1⟩ := whole_itoa HW.out
            have HWN : Hid ((s.extract f k).data.toList = Lib.itoa n) := hwd
            clear hwd HW
            by_cases h64 : out.length = 64
            · have HN : Hid (ParseC s.data.toList [] 2) := parseC_bad1 H1.out (bad_long HL.out h64)
              have q64 : ((out.length : Int) == 64) = true := by simp; omega
              clear h64
              go_wp2
              go_ret2
              exact ⟨_, [], _, rfl, OwnI.nil0 _ _, by simp, HN.out, HB.out⟩
            · have q64 : ((out.length : Int) == 64) = false := by simp; omega
              have HR2 : Hid (ReadTo s.data.toList (out ++ [n]) (k + 1) (k + 1)) := readTo_end HRT.out HKZ.out HWD.out HWN.out _
              have HA2 : Hid (∀ x ∈ out ++ [n], 0 ≤ x ∧ x ≤ 1099511627776) := fun x hx => by
                rcases List.mem_append.1 hx with h | h
                · exact HA.out x h
                · simp at h; subst h; exact ⟨hn0, hn1⟩
              go_wp2_with (at_builtin; refine wpList_append_own _ rfl _ _ 24 rfl w.heap.size 3 i0 (.int .i64 0) 1 8 Tryz.underlying24 hi hz0 hz1 hz2 rfl (by decide) _ _ _ rfl (World.ownsRow.alloc HO.out _) ⟨wr.heap.size, 0, none⟩ 1 1 [.int .i64 n] rfl rfl (cell_one_new _ _ _) (fun x hx => by simp at hx; subst hx; rfl) (by unfold maxLen; omega) (by omega) (by simp; omega) ?_; intro v' w3 hown' hgrow3 hnil3)
              go_roundw
              case rel => exact ⟨k + 1, k + 1, out ++ [n], by omega, by omega, by go_num, by go_num, by simp; omega, HA2, HR2, OwnI.snoc hown', (HB.out.alloc (by omega) _).grown hgrow3 (by simp; omega) (fun j e => HO.out.block j e)⟩
              case measure => simp [intOf]; omega
      · have kn : ¬ (k : Int) ≤ (s.size : Int) := by omega
        obtain ⟨hne, hl⟩ : out ≠ [] ∧ s.data.toList = commaL out := by
          rcases HRT.out with ⟨h, _⟩ | ⟨_, h⟩
          · rw [HSL.out] at h; omega
          · exact h
        obtain ⟨e, y, rfl⟩ : ∃ e y, out = e ++ [y] := ⟨out.dropLast, out.getLast hne, (List.dropLast_concat_getLast _).symm⟩
        have hI := HO.out.isI (by omega)
        obtain ⟨a1, c1, rfl, hc1, _, r1⟩ := hI
        obtain ⟨b1, o1, rfl, g1⟩ := r1.resolve_left hne
        have x1 := g1 e.length (by simp)
        simp at x1
        have HLL : Hid (s.data.toList = commaL (e ++ [y])) := hl
        have HLE : Hid ((e ++ [y]).length ≤ 64) := hlen
        have HNE : Hid (e ++ [y] ≠ []) := hne
        have hle2 : e.length + 1 ≤ 64 := by simpa using hlen
        have k1 : (e.length : Int) < (e.length : Int) + 1 := by omega
        have k0 : (0 : Int) ≤ (e.length : Int) := by omega
        clear g1 r1 hl hne hlen hc1
        by_cases hy : y = 0
        · have HP : Hid (ParseC s.data.toList [] 2) := parseC_bad2 H1.out HNE.out HLL.out (fun g => g.2.2 (by simp [hy]))
          subst hy
          go_wp2
          go_ret2
          exact ⟨_, [], _, rfl, OwnI.nil0 _ _, by simp, HP.out, HB.out⟩
        · have HP : Hid (ParseC s.data.toList (e ++ [y]) 0) := .inr (.inl ⟨⟨HNE.out, ⟨HLE.out, HA.out⟩, by simp [hy]⟩, HLL.out, rfl⟩)
          have q0 : (y == 0) = false := by simp [hy]
          clear hy
          go_wp2
          go_ret2
          have h5 := HO.out
          rw [show (e ++ [y]).length = e.length + 1 by simp] at h5
          exact ⟨_, e ++ [y], _, rfl, h5, HLE.out, HP.out, HB.out⟩

end Go.Proofs.YtaocjmipjibiaaaGreatDoor

namespace Go.Proofs.YtaocjmipjibiaaaGreatDoor
open Go.RowKit
set_option linter.unusedVariables false
set_option linter.unusedSimpArgs false

theorem words_at_len (m : Nat) (l : List UInt8) (i : Nat) : ((wordsL m l).getD i []).length ≤ l.length := by
  have ht : ∀ k (l : List UInt8), (tlN k l).length ≤ l.length := by
    intro k
    induction k with
    | zero => intro l; exact Nat.le_refl _
    | succ k ih => intro l; exact Nat.le_trans (ih (tlW l)) (tlW_len l)
  rw [words_at]
  split
  · exact Nat.le_trans (hdW_len _) (ht _ _)
  · split
    · exact ht _ _
    · simp

set_option maxHeartbeats 1000000 in
set_option maxRecDepth 100000 in
/-- The document's stamp, of the words of a text. -/
theorem refStampAt_any (g n cap m : Nat) (l : List UInt8) (hl : l.length ≤ 262144) (i : Nat) (I : Int) (hI : I = (i : Int)) (w : World) (h : WdsAt w g n cap m l) :
    Calls Tryz.prog 71 #[.slice (some ⟨g, 0, none⟩) n cap, .int .i64 I] w fun e w' => ∃ c r, e = .returned (.agg #[.int .i64 c, .int .i64 r]) ∧ StampW ((wordsL m l).getD i []) c r ∧ Below w.heap.size w w' := by
  subst hI
  have HB0 : Hid (Below w.heap.size w (w.alloc (.cells #[.int .i64 0, .int .i64 0] 23))) := (Below.refl _ _).alloc (Nat.le_refl _) _
  have H : Hid (WdsAt (w.alloc (.cells #[.int .i64 0, .int .i64 0] 23)) g n cap m l) := h.below HB0.out
  have HR0 : Hid ((w.alloc (.cells #[.int .i64 0, .int .i64 0] 23)).heap[w.heap.size]? = some (.cells #[.int .i64 0, .int .i64 0] 23)) := heap_alloc_new _ _
  clear h
  go_enter Tryz.func71, Tryz.ntmps71
  go_wp2_with fail
  refine (refWordAt_any g n cap m l i (i : Int) rfl _ H.out).mono ?_
  rintro e w1 ⟨s, rfl, hs, hw⟩
  have HS : Hid (s.data.toList = (wordsL m l).getD i []) := hs
  have HB1 : Hid (Below w.heap.size w w1) := by show Below _ _ _; rw [hw]; exact HB0.out
  have HR1 : Hid (w1.heap[w.heap.size]? = some (.cells #[.int .i64 0, .int .i64 0] 23)) := by show _ = _; rw [hw]; exact HR0.out
  have hz : s.size ≤ 281474976710656 := by have := words_at_len m l i; rw [← hs, size_list] at this; omega
  clear hs hw H HB0 HR0
  go_wp2_with fail
  refine (refParseS_any s hz _).mono ?_
  rintro e w2 ⟨c, r, k, rfl, hp, hb⟩
  have HP : Hid (StampW ((wordsL m l).getD i []) c r) := ⟨k, by rw [← HS.out]; exact hp⟩
  have HR2 : Hid (w2.heap[w.heap.size]? = some (.cells #[.int .i64 0, .int .i64 0] 23)) := row_below HR1.out hb
  have HB2 : Hid (Below w.heap.size w w2) := HB1.out.trans (hb.mono HB1.out.size)
  have hlt2 := row_lt HR2.out
  clear hp hb
  have k0 := cell_of_row _ _ 0 _ _ _ HR2.out
  have k1 := cell_of_row _ _ 1 _ _ _ HR2.out
  have f0 := frozen_of_row _ _ 0 _ _ HR2.out
  have f1 := frozen_of_row _ _ 1 _ _ HR2.out
  simp only [List.getElem?_toArray, List.getElem?_cons_zero, List.getElem?_cons_succ] at k0 k1
  have HR4 : Hid (((w2.setCell ⟨w.heap.size, 0, none⟩ (.int .i64 c)).setCell ⟨w.heap.size, 1, none⟩ (.int .i64 r)).heap[w.heap.size]? = some (.cells #[.int .i64 c, .int .i64 r] 23)) := heap_setCell_same _ _ 1 _ _ (.int .i64 r) (heap_setCell_same w2 _ 0 _ _ (.int .i64 c) HR2.out)
  have HR5 : Hid ((((w2.setCell ⟨w.heap.size, 0, none⟩ (.int .i64 c)).setCell ⟨w.heap.size, 1, none⟩ (.int .i64 r)).alloc (.cells #[.int .i64 c, .int .i64 r] 23)).heap[w.heap.size]? = some (.cells #[.int .i64 c, .int .i64 r] 23)) := (((Below.refl _ _).alloc (Nat.le_refl _) _).block _ (Array.getElem?_eq_some_iff.1 HR4.out).1).trans HR4.out
  have HB4 : Hid (Below w.heap.size w ((w2.setCell ⟨w.heap.size, 0, none⟩ (.int .i64 c)).setCell ⟨w.heap.size, 1, none⟩ (.int .i64 r))) := (HB2.out.setCell (Nat.le_refl _) _).setCell (Nat.le_refl _) _
  go_wp2
  (try simp only [Exit.inBlock, Exit.then])
  refine bodyPost_ret (v := .agg #[.int .i64 c, .int .i64 r]) ?res rfl ?post
  case res => exact results_cell_row rfl _ _ w.heap.size _ _ _ _ rfl HR5.out Tryz.underlying23 rfl (by kernel_rfl)
  exact ⟨c, r, rfl, HP.out, HB4.out.alloc HB4.out.size _⟩

/-- A clock that lies in neither of two boxes. -/
def DpN (gr gc : Nat) (W : World) (v : Value) (d : List Int) : Prop := ∃ (a : Option Addr) (cap : Nat), v = .slice a d.length cap ∧ d.length ≤ cap ∧ d.length ≤ 64 ∧ (d = [] ∨ ∃ b o, a = some ⟨b, o, none⟩ ∧ b ≠ gr ∧ b ≠ gc ∧ IntsAt W b o d)
theorem DpN.of {N gr gc : Nat} {W : World} {v : Value} {d : List Int} (h : OwnI N W v d) (hl : d.length ≤ 64) (hr : gr < N) (hc : W.heap.size ≤ gc) : DpN gr gc W v d := by
  have h0 := h.isI (by omega)
  obtain ⟨a, cap, e, hcp, _, r⟩ := h0
  refine ⟨a, cap, e, hcp, hl, ?_⟩
  by_cases hd : d = []
  · exact .inl hd
  · obtain ⟨b, o, e2, hr2⟩ := r.resolve_left hd
    have h1 := h.block b (by rw [e, e2]; rfl)
    have h2 := hr2.lt hd
    exact .inr ⟨b, o, e2, by omega, by omega, hr2⟩
theorem DpN.isI {gr gc : Nat} {W : World} {v : Value} {d : List Int} (h : DpN gr gc W v d) : IsI W v d := by
  obtain ⟨a, cap, e, hc, hl, r⟩ := h
  exact ⟨a, cap, e, hc, by omega, r.imp id fun ⟨b, o, e2, _, _, hr⟩ => ⟨b, o, e2, hr⟩⟩
theorem DpN.below {gr gc : Nat} {W W' : World} {v : Value} {d : List Int} (h : DpN gr gc W v d) (hb : Below W.heap.size W W') : DpN gr gc W' v d := by
  obtain ⟨a, cap, e, hc, hl, r⟩ := h
  refine ⟨a, cap, e, hc, hl, ?_⟩
  by_cases hd : d = []
  · exact .inl hd
  · obtain ⟨b, o, e2, h1, h2, hr⟩ := r.resolve_left hd
    exact .inr ⟨b, o, e2, h1, h2, hr.block (hb.block b (hr.lt hd))⟩
theorem DpN.set {gr gc k i : Nat} {W : World} {u v : Value} {d : List Int} (h : DpN gr gc W v d) (hk : k = gr ∨ k = gc) : DpN gr gc (W.setCell ⟨k, i, none⟩ u) v d := by
  obtain ⟨a, cap, e, hc, hl, r⟩ := h
  refine ⟨a, cap, e, hc, hl, r.imp id fun ⟨b, o, e2, h1, h2, hr⟩ => ⟨b, o, e2, h1, h2, hr.block (heap_setCell_other W ⟨k, i, none⟩ b u ?_)⟩⟩
  show b ≠ k
  rcases hk with rfl | rfl
  · exact h1
  · exact h2

/-- The box of the result, the change's box, the row of words, the clock. -/
def PSt (w0 : World) (gc g n cap m : Nat) (l : List UInt8) (dv : Value) (ds : List Int) (cs : Array Value) (W : World) : Prop :=
  Below w0.heap.size w0 W ∧ W.heap[w0.heap.size]? = some (.cells #[.int .i64 0, .int .i64 0, .int .i64 0, .slice none 0 0, .int .i64 0, .int .i64 0, .int .i64 0, .int .i64 0, .int .i64 0, .int .i64 0, .int .i64 0, .string ⟨#[]⟩, .string ⟨#[]⟩] 26) ∧ W.heap[gc]? = some (.cells cs 26) ∧ (w0.heap.size < gc ∧ gc ≠ g) ∧ WdsAt W g n cap m l ∧ DpN w0.heap.size gc W dv ds
theorem PSt.below {w0 : World} {gc g n cap m : Nat} {l : List UInt8} {dv : Value} {ds : List Int} {cs : Array Value} {W W' : World} (h : PSt w0 gc g n cap m l dv ds cs W) (hb : Below W.heap.size W W') : PSt w0 gc g n cap m l dv ds cs W' :=
  ⟨h.1.trans (hb.mono h.1.size), row_below h.2.1 hb, row_below h.2.2.1 hb, h.2.2.2.1, h.2.2.2.2.1.below hb, h.2.2.2.2.2.below hb⟩
theorem PSt.set {w0 : World} {gc g n cap m : Nat} {l : List UInt8} {dv : Value} {ds : List Int} {cs : Array Value} {W : World} (h : PSt w0 gc g n cap m l dv ds cs W) (i : Nat) (v : Value) : PSt w0 gc g n cap m l dv ds (cs.setIfInBounds i v) (W.setCell ⟨gc, i, none⟩ v) :=
  ⟨h.1.setCell (Nat.le_of_lt h.2.2.2.1.1) _, row_set_other h.2.1 (Nat.ne_of_lt h.2.2.2.1.1), heap_setCell_same W gc i _ _ v h.2.2.1, h.2.2.2.1, h.2.2.2.2.1.set (fun e => h.2.2.2.1.2 e.symm), h.2.2.2.2.2.set (.inr rfl)⟩
theorem PSt.words {w0 : World} {gc g n cap m : Nat} {l : List UInt8} {dv : Value} {ds : List Int} {cs : Array Value} {W W' : World} (h : PSt w0 gc g n cap m l dv ds cs W) (hb : Below W.heap.size W W') {g2 n2 cap2 m2 : Nat} (hw : WdsAt W' g2 n2 cap2 m2 l) (hg : W.heap.size ≤ g2) : PSt w0 gc g2 n2 cap2 m2 l dv ds cs W' :=
  ⟨h.1.trans (hb.mono h.1.size), row_below h.2.1 hb, row_below h.2.2.1 hb, ⟨h.2.2.2.1.1, by have := row_lt h.2.2.1; omega⟩, hw, h.2.2.2.2.2.below hb⟩

set_option maxRecDepth 100000 in
set_option maxHeartbeats 8000000 in
theorem refParse_long (s : ByteArray) (hs : 262144 < s.size) (w : World) :
    Calls Tryz.prog 30 #[.string s] w fun e w' => ParseDone s.data.toList w e w' := by
  have q : (262144 : Int) < (s.size : Int) := by omega
  have HP : Hid (ParseCh s.data.toList Ch.none 3) := .inl ⟨by rw [size_list]; exact hs, rfl, rfl⟩
  have HR : Hid ((w.alloc (.cells #[.int .i64 0, .int .i64 0, .int .i64 0, .slice none 0 0, .int .i64 0, .int .i64 0, .int .i64 0, .int .i64 0, .int .i64 0, .int .i64 0, .int .i64 0, .string ⟨#[]⟩, .string ⟨#[]⟩] 26)).heap[w.heap.size]? = some (.cells #[.int .i64 0, .int .i64 0, .int .i64 0, .slice none 0 0, .int .i64 0, .int .i64 0, .int .i64 0, .int .i64 0, .int .i64 0, .int .i64 0, .int .i64 0, .string ⟨#[]⟩, .string ⟨#[]⟩] 26)) := heap_alloc_new _ _
  go_enter Tryz.func30, Tryz.ntmps30
  go_wp2
  (try simp only [Exit.inBlock, Exit.then])
  refine bodyPost_ret (v := .tuple #[.agg #[.int .i64 0, .int .i64 0, .int .i64 0, .slice none 0 0, .int .i64 0, .int .i64 0, .int .i64 0, .int .i64 0, .int .i64 0, .int .i64 0, .int .i64 0, .string ⟨#[]⟩, .string ⟨#[]⟩], .int .i64 3]) ?res rfl ?post
  case res => exact results_cell_row2 rfl _ _ w.heap.size _ _ _ _ rfl HR.out Tryz.underlying26 rfl (by kernel_rfl) rfl
  exact ParseDone.zero HP.out ((Below.refl _ _).alloc (Nat.le_refl _) _)

end Go.Proofs.YtaocjmipjibiaaaGreatDoor
