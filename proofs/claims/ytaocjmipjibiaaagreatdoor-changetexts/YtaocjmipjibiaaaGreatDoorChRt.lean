/- What the document's Stamp, After and Text make of any change. -/
import Derived.Test.YtaocjmipjibiaaaGreatDoorChRc
import Derived.Test.YtaocjmipjibiaaaGreatDoorChRq
import Derived.Test.YtaocjmipjibiaaaGreatDoorTxB
import Derived.Test.YtaocjmipjibiaaaGreatDoorIdY
namespace Go.Proofs.YtaocjmipjibiaaaGreatDoor
open Go.RowKit
set_option linter.unusedVariables false
set_option linter.unusedSimpArgs false

theorem bytes_app (a b : ByteArray) : (a ++ b).data.toList = a.data.toList ++ b.data.toList := by
  obtain ⟨⟨la⟩⟩ := a
  obtain ⟨⟨lb⟩⟩ := b
  have h := ByteArray.mk_append_mk la lb
  exact congrArg (fun z : ByteArray => z.data.toList) h

set_option maxHeartbeats 1000000 in
theorem refStamp_any (c r : Int) (w : World) :
    Calls Tryz.prog 63 #[.agg #[.int .i64 c, .int .i64 r]] w fun e w' => e = .returned (.string (txt (textL c r))) ∧ Below w.heap.size w w' := by
  have K0 := KeptC.start w [.int .i64 c, .int .i64 r] 23
  go_enter Tryz.func63, Tryz.ntmps63
  go_wp2_with fail
  refine (refTextS_any c r _).mono ?_
  rintro e w1 ⟨rfl, hb1⟩
  have K1 := K0.step hb1
  go_wp2
  go_ret
  exact ⟨rfl, K1.2.2⟩

set_option maxHeartbeats 1000000 in
theorem refAfter_any (c r : Int) (w : World) :
    Calls Tryz.prog 65 #[.agg #[.int .i64 c, .int .i64 r]] w fun e w' => e = .returned (.string (txt (afterL c r))) ∧ Below w.heap.size w w' := by
  have K0 := KeptC.start w [.int .i64 c, .int .i64 r] 23
  by_cases h0 : c = 0
  · by_cases h1 : r = 0
    · have HE : Hid (afterL c r = [45]) := by show _ = _; simp [afterL, rootB, h0, h1]
      have q0 : (c == 0) = true := by simp [h0]
      have q1 : (r == 0) = true := by simp [h1]
      clear h0 h1
      go_enter Tryz.func65, Tryz.ntmps65
      go_wp2
      go_ret
      exact ⟨by rw [HE.out]; rfl, K0.2.2⟩
    · have HE : Hid (afterL c r = textL c r) := by show _ = _; simp [afterL, rootB, h1]
      have q0 : (c == 0) = true := by simp [h0]
      have q1 : (r == 0) = false := by simp [h1]
      clear h0 h1
      go_enter Tryz.func65, Tryz.ntmps65
      go_wp2_with fail
      refine (refStamp_any c r _).mono ?_
      rintro e w1 ⟨rfl, hb1⟩
      have K1 := K0.step hb1
      go_wp2
      go_ret
      exact ⟨by rw [HE.out]; rfl, K1.2.2⟩
  · have HE : Hid (afterL c r = textL c r) := by show _ = _; simp [afterL, rootB, h0]
    have q0 : (c == 0) = false := by simp [h0]
    clear h0
    go_enter Tryz.func65, Tryz.ntmps65
    go_wp2_with fail
    refine (refStamp_any c r _).mono ?_
    rintro e w1 ⟨rfl, hb1⟩
    have K1 := K0.step hb1
    go_wp2
    go_ret
    exact ⟨by rw [HE.out]; rfl, K1.2.2⟩

theorem ret_siT {a b : ByteArray} (h : a = b) : Ending.returned (.tuple #[.string a, .int .i64 0]) = .returned (.tuple #[.string b, .int .i64 0]) := by rw [h]

set_option maxRecDepth 100000 in
set_option maxHeartbeats 16000000 in
theorem refTextCh_ok (ac ar sq : Int) (dv : Value) (kd nc nr pc pr fc fr : Int) (nm vl : ByteArray) (ds : List Int) (hs : nm.size ≤ 281474976710656) (w : World) (h1 : IsI w dv ds) (hc : checkCh ⟨ac, ar, sq, ds, kd, nc, nr, pc, pr, fc, fr, nm, vl⟩ = 0) :
    Calls Tryz.prog 28 #[.agg #[.int .i64 ac, .int .i64 ar, .int .i64 sq, dv, .int .i64 kd, .int .i64 nc, .int .i64 nr, .int .i64 pc, .int .i64 pr, .int .i64 fc, .int .i64 fr, .string nm, .string vl]] w fun e w' => e = .returned (.tuple #[.string (txt (textCh ⟨ac, ar, sq, ds, kd, nc, nr, pc, pr, fc, fr, nm, vl⟩)), .int .i64 0]) ∧ Below w.heap.size w w' := by
  obtain ⟨a1, c1, e1⟩ := h1.form
  subst e1
  have K0 := KeptC.start w [.int .i64 ac, .int .i64 ar, .int .i64 sq, .slice a1 ds.length c1, .int .i64 kd, .int .i64 nc, .int .i64 nr, .int .i64 pc, .int .i64 pr, .int .i64 fc, .int .i64 fr, .string nm, .string vl] 26
  have H1 : Hid (IsI w (.slice a1 ds.length c1) ds) := h1
  obtain ⟨g1, g2, g3, g4, _, _, g7, g8⟩ := checkCh_ok _ hc
  have hkd : kd = 1 ∨ kd = 2 ∨ kd = 3 ∨ kd = 4 ∨ kd = 5 := (fine _ hc).kind
  have hcl : checkL ds = 0 := (depsE_ok _ g4).1
  have hv : vl.size ≤ 256 := by unfold valueE at g8; split at g8 <;> (try split at g8) <;> first | omega | (simp at *; omega)
  have hsq : 1 ≤ sq ∧ sq ≤ 1099511627776 := by
    have h2 := g2
    unfold rightB at h2
    simp only [decide_eq_true_eq] at h2
    exact ⟨g3.1, by have := g3.2; simp at this; omega⟩
  obtain ⟨s1, s2⟩ := hsq
  clear h1 g1 g2 g3 g4 g7 g8
  obtain ⟨t1, et1⟩ : ∃ u : ByteArray, u = txt (textL ac ar) := ⟨_, rfl⟩
  have Ht1 : Hid (∀ W, Calls Tryz.prog 63 #[.agg #[.int .i64 ac, .int .i64 ar]] W fun e w' => e = .returned (.string t1) ∧ Below W.heap.size W w') := fun W => by rw [et1]; exact refStamp_any ac ar W
  have zt1 : t1.size ≤ 43 := by rw [et1]; show (textL _ _).toArray.size ≤ _; rw [List.size_toArray]; exact textL_len _ _
  have Et1 : Hid (t1.data.toList = textL ac ar) := by show _ = _; rw [et1]; simp [txt]
  clear et1
  obtain ⟨t2, et2⟩ : ∃ u : ByteArray, u = txt (Lib.itoa sq) := ⟨_, rfl⟩
  have Ht2 : Hid (∀ W, Calls Tryz.prog 64 #[.int .i64 sq] W fun e w' => e = .returned (.string t2) ∧ Below W.heap.size W w') := fun W => by rw [et2]; exact digitsI sq (by omega) (by omega) W
  have zt2 : t2.size ≤ 21 := by rw [et2]; show (Lib.itoa sq).toArray.size ≤ _; rw [List.size_toArray]; exact itoa_len64 sq (by omega) (by omega)
  have Et2 : Hid (t2.data.toList = Lib.itoa sq) := by show _ = _; rw [et2]; simp [txt]
  clear et2
  obtain ⟨t3, et3⟩ : ∃ u : ByteArray, u = txt (textC ds) := ⟨_, rfl⟩
  have zt3 : t3.size ≤ 1408 := by rw [et3]; show (textC ds).toArray.size ≤ _; rw [List.size_toArray]; exact textC_len ds
  have Et3 : Hid (t3.data.toList = textC ds) := by show _ = _; rw [et3]; simp [txt]
  have Ht3 : Hid (∀ W, IsI W (.slice a1 ds.length c1) ds → Calls Tryz.prog 62 #[.slice a1 ds.length c1] W fun e w' => e = .returned (.tuple #[.string t3, .int .i64 0]) ∧ Below W.heap.size W w') := fun W hW => by rw [et3]; have h0 := refText_any _ ds W hW; rw [hcl] at h0; exact h0
  clear et3 hcl
  have n1 : ¬ 9223372036854775807 < t1.size + 1 := by omega
  have n2 : ¬ 9223372036854775807 < t1.size + 1 + t2.size := by omega
  have n3 : ¬ 9223372036854775807 < t1.size + 1 + t2.size + 1 := by omega
  have n4 : ¬ 9223372036854775807 < t1.size + 1 + t2.size + 1 + t3.size := by omega
  have n5 : ¬ 9223372036854775807 < t1.size + 1 + t2.size + 1 + t3.size + 1 := by omega
  go_enter Tryz.func28, Tryz.ntmps28
  go_wp2_with fail
  refine (refCheckCh_any ac ar sq (.slice a1 ds.length c1) kd nc nr pc pr fc fr nm vl ds hs _ (H1.out.below K0.2.2)).mono ?_
  rintro e w1 ⟨rfl, hb1⟩
  rw [hc]
  have K1 := K0.step hb1
  clear hb1
  obtain ⟨k_0, k_1, k_2, k_3, k_4, k_5, k_6, k_7, k_8, k_9, k_10, k_11, k_12⟩ := K1.all
  go_wp2_with fail
  refine (Ht3.out _ (H1.out.below K1.2.2)).mono ?_
  rintro e w2 ⟨rfl, hb2⟩
  have K2 := K1.step hb2
  clear hb2 k_0 k_1 k_2 k_3 k_4 k_5 k_6 k_7 k_8 k_9 k_10 k_11 k_12
  go_wp2_with fail
  refine wp_region_held_drew (S := fun W' => KeptC w w.heap.size [.int .i64 ac, .int .i64 ar, .int .i64 sq, .slice a1 ds.length c1, .int .i64 kd, .int .i64 nc, .int .i64 nr, .int .i64 pc, .int .i64 pr, .int .i64 fc, .int .i64 fr, .string nm, .string vl] W') (by kernel_rfl) K2.drew (fun hHeld => ?_)
  refine wpAnyH_take (i := 0) (oi := ⟨some 18, _, _, _, _, _⟩) (v := ?vh0) rfl (by kernel_rfl) (by kernel_rfl) (by kernel_rfl) (fun _ _ _ h => h) (Or.inl ⟨by rfl, ?hyh0⟩) hHeld ?resth0
  case hyh0 => (intro w hSw; (try dsimp only at hSw); have hc0 := hSw.1 0 _ rfl; have hc1 := hSw.1 1 _ rfl; have hc2 := hSw.1 2 _ rfl; have hc3 := hSw.1 3 _ rfl; have hc4 := hSw.1 4 _ rfl; have hc5 := hSw.1 5 _ rfl; have hc6 := hSw.1 6 _ rfl; have hc7 := hSw.1 7 _ rfl; have hc8 := hSw.1 8 _ rfl; have hc9 := hSw.1 9 _ rfl; have hc10 := hSw.1 10 _ rfl; have hc11 := hSw.1 11 _ rfl; have hc12 := hSw.1 12 _ rfl; go_simp; try with_reducible rfl)
  simp only [Act.put, List.setIfInBounds_toArray, List.set_cons_zero, List.set_cons_succ]
  refine wpAnyH_take (i := 1) (oi := ⟨some 19, _, _, _, _, _⟩) (v := ?vh1) rfl (by kernel_rfl) (by kernel_rfl) (by kernel_rfl) (fun _ _ _ h => h) (Or.inl ⟨by rfl, ?hyh1⟩) hHeld ?resth1
  case hyh1 => (intro w hSw; (try dsimp only at hSw); have hc0 := hSw.1 0 _ rfl; have hc1 := hSw.1 1 _ rfl; have hc2 := hSw.1 2 _ rfl; have hc3 := hSw.1 3 _ rfl; have hc4 := hSw.1 4 _ rfl; have hc5 := hSw.1 5 _ rfl; have hc6 := hSw.1 6 _ rfl; have hc7 := hSw.1 7 _ rfl; have hc8 := hSw.1 8 _ rfl; have hc9 := hSw.1 9 _ rfl; have hc10 := hSw.1 10 _ rfl; have hc11 := hSw.1 11 _ rfl; have hc12 := hSw.1 12 _ rfl; go_simp; try with_reducible rfl)
  simp only [Act.put, List.setIfInBounds_toArray, List.set_cons_zero, List.set_cons_succ]
  refine wpAnyH_take (i := 4) (oi := ⟨some 22, _, _, _, _, _⟩) (v := ?vh4) rfl (by kernel_rfl) (by kernel_rfl) (by kernel_rfl) (fun _ _ _ h => h) (Or.inl ⟨by rfl, ?hyh4⟩) hHeld ?resth4
  case hyh4 => (intro w hSw; (try dsimp only at hSw); have hc0 := hSw.1 0 _ rfl; have hc1 := hSw.1 1 _ rfl; have hc2 := hSw.1 2 _ rfl; have hc3 := hSw.1 3 _ rfl; have hc4 := hSw.1 4 _ rfl; have hc5 := hSw.1 5 _ rfl; have hc6 := hSw.1 6 _ rfl; have hc7 := hSw.1 7 _ rfl; have hc8 := hSw.1 8 _ rfl; have hc9 := hSw.1 9 _ rfl; have hc10 := hSw.1 10 _ rfl; have hc11 := hSw.1 11 _ rfl; have hc12 := hSw.1 12 _ rfl; go_simp; try with_reducible rfl)
  simp only [Act.put, List.setIfInBounds_toArray, List.set_cons_zero, List.set_cons_succ]
  refine wpAnyH_take (i := 5) (oi := ⟨some 23, _, _, _, _, _⟩) (v := ?vh5) rfl (by kernel_rfl) (by kernel_rfl) (by kernel_rfl) (fun _ _ _ h => h) (Or.inl ⟨by rfl, ?hyh5⟩) hHeld ?resth5
  case hyh5 => (intro w hSw; (try dsimp only at hSw); have hc0 := hSw.1 0 _ rfl; have hc1 := hSw.1 1 _ rfl; have hc2 := hSw.1 2 _ rfl; have hc3 := hSw.1 3 _ rfl; have hc4 := hSw.1 4 _ rfl; have hc5 := hSw.1 5 _ rfl; have hc6 := hSw.1 6 _ rfl; have hc7 := hSw.1 7 _ rfl; have hc8 := hSw.1 8 _ rfl; have hc9 := hSw.1 9 _ rfl; have hc10 := hSw.1 10 _ rfl; have hc11 := hSw.1 11 _ rfl; have hc12 := hSw.1 12 _ rfl; go_simp; try with_reducible rfl)
  simp only [Act.put, List.setIfInBounds_toArray, List.set_cons_zero, List.set_cons_succ]
  refine wpAnyH_take (i := 9) (oi := ⟨some 27, _, _, _, _, _⟩) (v := ?vh9) rfl (by kernel_rfl) (by kernel_rfl) (by kernel_rfl) (fun _ _ _ h => h) (Or.inl ⟨by rfl, ?hyh9⟩) hHeld ?resth9
  case hyh9 => (intro w hSw; (try dsimp only at hSw); have hc0 := hSw.1 0 _ rfl; have hc1 := hSw.1 1 _ rfl; have hc2 := hSw.1 2 _ rfl; have hc3 := hSw.1 3 _ rfl; have hc4 := hSw.1 4 _ rfl; have hc5 := hSw.1 5 _ rfl; have hc6 := hSw.1 6 _ rfl; have hc7 := hSw.1 7 _ rfl; have hc8 := hSw.1 8 _ rfl; have hc9 := hSw.1 9 _ rfl; have hc10 := hSw.1 10 _ rfl; have hc11 := hSw.1 11 _ rfl; have hc12 := hSw.1 12 _ rfl; go_simp; try with_reducible rfl)
  simp only [Act.put, List.setIfInBounds_toArray, List.set_cons_zero, List.set_cons_succ]
  refine wpAnyH_ready (rs := [2]) (by kernel_rfl) (by simp) ?_
  refine AllReadyH.cons (o := ⟨some 20, _, _, _, _, _⟩) rfl (fun K hK => ?_) AllReadyH.nil
  go_simp
  refine (Ht1.out _).mono ?_
  rintro e w3 ⟨rfl, hb⟩
  (try go_wp2_with fail)
  refine hK.out _ _ (hHeld.step hb) (fun hHeld2 => ?_)
  clear hK K hHeld
  have hHeld := hHeld2
  clear hHeld2
  (try simp only [Act.put, List.setIfInBounds_toArray, List.set_cons_zero, List.set_cons_succ])
  refine wpAnyH_take (i := 3) (oi := ⟨some 21, _, _, _, _, _⟩) (v := ?vh3) rfl (by kernel_rfl) (by kernel_rfl) (by kernel_rfl) (fun _ _ _ h => h) (Or.inl ⟨by rfl, ?hyh3⟩) hHeld ?resth3
  case hyh3 => (intro w hSw; (try dsimp only at hSw); have hc0 := hSw.1 0 _ rfl; have hc1 := hSw.1 1 _ rfl; have hc2 := hSw.1 2 _ rfl; have hc3 := hSw.1 3 _ rfl; have hc4 := hSw.1 4 _ rfl; have hc5 := hSw.1 5 _ rfl; have hc6 := hSw.1 6 _ rfl; have hc7 := hSw.1 7 _ rfl; have hc8 := hSw.1 8 _ rfl; have hc9 := hSw.1 9 _ rfl; have hc10 := hSw.1 10 _ rfl; have hc11 := hSw.1 11 _ rfl; have hc12 := hSw.1 12 _ rfl; go_simp; try with_reducible rfl)
  simp only [Act.put, List.setIfInBounds_toArray, List.set_cons_zero, List.set_cons_succ]
  refine wpAnyH_ready (rs := [6]) (by kernel_rfl) (by simp) ?_
  refine AllReadyH.cons (o := ⟨some 24, _, _, _, _, _⟩) rfl (fun K hK => ?_) AllReadyH.nil
  go_simp
  refine (Ht2.out _).mono ?_
  rintro e w4 ⟨rfl, hb⟩
  (try go_wp2_with fail)
  refine hK.out _ _ (hHeld.step hb) (fun hHeld2 => ?_)
  clear hK K hHeld
  have hHeld := hHeld2
  clear hHeld2
  (try simp only [Act.put, List.setIfInBounds_toArray, List.set_cons_zero, List.set_cons_succ])
  refine wpAnyH_take (i := 7) (oi := ⟨some 25, _, _, _, _, _⟩) (v := ?vh7) rfl (by kernel_rfl) (by kernel_rfl) (by kernel_rfl) (fun _ _ _ h => h) (Or.inl ⟨by rfl, ?hyh7⟩) hHeld ?resth7
  case hyh7 => (intro w hSw; (try dsimp only at hSw); have hc0 := hSw.1 0 _ rfl; have hc1 := hSw.1 1 _ rfl; have hc2 := hSw.1 2 _ rfl; have hc3 := hSw.1 3 _ rfl; have hc4 := hSw.1 4 _ rfl; have hc5 := hSw.1 5 _ rfl; have hc6 := hSw.1 6 _ rfl; have hc7 := hSw.1 7 _ rfl; have hc8 := hSw.1 8 _ rfl; have hc9 := hSw.1 9 _ rfl; have hc10 := hSw.1 10 _ rfl; have hc11 := hSw.1 11 _ rfl; have hc12 := hSw.1 12 _ rfl; go_simp; try with_reducible rfl)
  simp only [Act.put, List.setIfInBounds_toArray, List.set_cons_zero, List.set_cons_succ]
  refine wpAnyH_take (i := 8) (oi := ⟨some 26, _, _, _, _, _⟩) (v := ?vh8) rfl (by kernel_rfl) (by kernel_rfl) (by kernel_rfl) (fun _ _ _ h => h) (Or.inl ⟨by rfl, ?hyh8⟩) hHeld ?resth8
  case hyh8 => (intro w hSw; (try dsimp only at hSw); have hc0 := hSw.1 0 _ rfl; have hc1 := hSw.1 1 _ rfl; have hc2 := hSw.1 2 _ rfl; have hc3 := hSw.1 3 _ rfl; have hc4 := hSw.1 4 _ rfl; have hc5 := hSw.1 5 _ rfl; have hc6 := hSw.1 6 _ rfl; have hc7 := hSw.1 7 _ rfl; have hc8 := hSw.1 8 _ rfl; have hc9 := hSw.1 9 _ rfl; have hc10 := hSw.1 10 _ rfl; have hc11 := hSw.1 11 _ rfl; have hc12 := hSw.1 12 _ rfl; go_simp; try with_reducible rfl)
  simp only [Act.put, List.setIfInBounds_toArray, List.set_cons_zero, List.set_cons_succ]
  refine wpAnyH_take (i := 10) (oi := ⟨some 28, _, _, _, _, _⟩) (v := ?vh10) rfl (by kernel_rfl) (by kernel_rfl) (by kernel_rfl) (fun _ _ _ h => h) (Or.inl ⟨by rfl, ?hyh10⟩) hHeld ?resth10
  case hyh10 => (intro w hSw; (try dsimp only at hSw); have hc0 := hSw.1 0 _ rfl; have hc1 := hSw.1 1 _ rfl; have hc2 := hSw.1 2 _ rfl; have hc3 := hSw.1 3 _ rfl; have hc4 := hSw.1 4 _ rfl; have hc5 := hSw.1 5 _ rfl; have hc6 := hSw.1 6 _ rfl; have hc7 := hSw.1 7 _ rfl; have hc8 := hSw.1 8 _ rfl; have hc9 := hSw.1 9 _ rfl; have hc10 := hSw.1 10 _ rfl; have hc11 := hSw.1 11 _ rfl; have hc12 := hSw.1 12 _ rfl; go_simp; try with_reducible rfl)
  simp only [Act.put, List.setIfInBounds_toArray, List.set_cons_zero, List.set_cons_succ]
  refine wpAnyH_take (i := 11) (oi := ⟨some 29, _, _, _, _, _⟩) (v := ?vh11) rfl (by kernel_rfl) (by kernel_rfl) (by kernel_rfl) (fun _ _ _ h => h) (Or.inl ⟨by rfl, ?hyh11⟩) hHeld ?resth11
  case hyh11 => (intro w hSw; (try dsimp only at hSw); have hc0 := hSw.1 0 _ rfl; have hc1 := hSw.1 1 _ rfl; have hc2 := hSw.1 2 _ rfl; have hc3 := hSw.1 3 _ rfl; have hc4 := hSw.1 4 _ rfl; have hc5 := hSw.1 5 _ rfl; have hc6 := hSw.1 6 _ rfl; have hc7 := hSw.1 7 _ rfl; have hc8 := hSw.1 8 _ rfl; have hc9 := hSw.1 9 _ rfl; have hc10 := hSw.1 10 _ rfl; have hc11 := hSw.1 11 _ rfl; have hc12 := hSw.1 12 _ rfl; go_simp; try with_reducible rfl)
  simp only [Act.put, List.setIfInBounds_toArray, List.set_cons_zero, List.set_cons_succ]
  refine wpAnyH_take (i := 12) (oi := ⟨some 6, _, _, _, _, _⟩) (v := ?vh12) rfl (by kernel_rfl) (by kernel_rfl) (by kernel_rfl) (fun _ _ _ h => h) (Or.inl ⟨by rfl, ?hyh12⟩) hHeld ?resth12
  case hyh12 => (intro w hSw; (try dsimp only at hSw); have hc0 := hSw.1 0 _ rfl; have hc1 := hSw.1 1 _ rfl; have hc2 := hSw.1 2 _ rfl; have hc3 := hSw.1 3 _ rfl; have hc4 := hSw.1 4 _ rfl; have hc5 := hSw.1 5 _ rfl; have hc6 := hSw.1 6 _ rfl; have hc7 := hSw.1 7 _ rfl; have hc8 := hSw.1 8 _ rfl; have hc9 := hSw.1 9 _ rfl; have hc10 := hSw.1 10 _ rfl; have hc11 := hSw.1 11 _ rfl; have hc12 := hSw.1 12 _ rfl; go_simp; try with_reducible rfl)
  simp only [Act.put, List.setIfInBounds_toArray, List.set_cons_zero, List.set_cons_succ]
  refine wpAnyH_done (by kernel_rfl) ?_ _
  have K4 := hHeld
  clear hHeld n1 n2 n3 n4 n5
  obtain ⟨hd, ehd⟩ : ∃ u : ByteArray, u = (((((t1 ++ (⟨#[32]⟩ : ByteArray)) ++ t2) ++ (⟨#[32]⟩ : ByteArray)) ++ t3) ++ (⟨#[32]⟩ : ByteArray)) := ⟨_, rfl⟩
  have Ehd : Hid (hd.data.toList = textL ac ar ++ 32 :: (Lib.itoa sq ++ 32 :: (textC ds ++ [32]))) := by show _ = _; rw [ehd]; simp only [bytes_app, Et1.out, Et2.out, Et3.out]; simp
  have zhd : hd.size ≤ 1500 := by rw [← size_list, Ehd.out]; have h5 := textL_len ac ar; have h6 := itoa_len64 sq (by omega) (by omega); have h7 := textC_len ds; simp; omega
  rw [← ehd]
  clear ehd
  obtain ⟨k_0, k_1, k_2, k_3, k_4, k_5, k_6, k_7, k_8, k_9, k_10, k_11, k_12⟩ := K4.all
  rcases hkd with rfl | rfl | rfl | rfl | rfl
  · have hnm : nm.size ≤ 32 := by have h0 := (checkCh_ok _ hc).2.2.2.2.2.2.1; have h5 : nameL nm.data.toList = true := (if_pos (show hasName 1 = true by decide)).symm.trans h0; unfold nameL at h5; simp only [Bool.and_eq_true, decide_eq_true_eq] at h5; have := h5.1; rw [size_list] at this; omega
    obtain ⟨u1, eu1⟩ : ∃ u : ByteArray, u = txt (textL pc pr) := ⟨_, rfl⟩
    have Hu1 : Hid (∀ W, Calls Tryz.prog 63 #[.agg #[.int .i64 pc, .int .i64 pr]] W fun e w' => e = .returned (.string u1) ∧ Below W.heap.size W w') := fun W => by rw [eu1]; exact refStamp_any pc pr W
    have zu1 : u1.size ≤ 43 := by rw [eu1]; show (textL _ _).toArray.size ≤ _; rw [List.size_toArray]; exact textL_len _ _
    have Eu1 : Hid (u1.data.toList = textL pc pr) := by show _ = _; rw [eu1]; simp [txt]
    clear eu1
    obtain ⟨u2, eu2⟩ : ∃ u : ByteArray, u = txt (afterL fc fr) := ⟨_, rfl⟩
    have Hu2 : Hid (∀ W, Calls Tryz.prog 65 #[.agg #[.int .i64 fc, .int .i64 fr]] W fun e w' => e = .returned (.string u2) ∧ Below W.heap.size W w') := fun W => by rw [eu2]; exact refAfter_any fc fr W
    have zu2 : u2.size ≤ 43 := by rw [eu2]; show (afterL _ _).toArray.size ≤ _; rw [List.size_toArray]; exact afterL_len _ _
    have Eu2 : Hid (u2.data.toList = afterL fc fr) := by show _ = _; rw [eu2]; simp [txt]
    clear eu2
    have HF : Hid ((((((((⟨#[99, 114, 101, 97, 116, 101, 32]⟩ : ByteArray) ++ hd) ++ u1) ++ (⟨#[32]⟩ : ByteArray)) ++ u2) ++ (⟨#[32]⟩ : ByteArray)) ++ nm) = txt (textCh ⟨ac, ar, sq, ds, 1, nc, nr, pc, pr, fc, fr, nm, vl⟩)) := bytes_ext (by simp only [bytes_app, Ehd.out, Eu1.out, Eu2.out]; show _ = textCh ⟨ac, ar, sq, ds, 1, nc, nr, pc, pr, fc, fr, nm, vl⟩; rw [textCh_1 _ rfl]; simp [kindL])
    have n1 : ¬ 9223372036854775807 < 7 + hd.size := by omega
    have n2 : ¬ 9223372036854775807 < 7 + hd.size + u1.size := by omega
    have n3 : ¬ 9223372036854775807 < 7 + hd.size + u1.size + 1 := by omega
    have n4 : ¬ 9223372036854775807 < 7 + hd.size + u1.size + 1 + u2.size := by omega
    have n5 : ¬ 9223372036854775807 < 7 + hd.size + u1.size + 1 + u2.size + 1 := by omega
    have n6 : ¬ 9223372036854775807 < 7 + hd.size + u1.size + 1 + u2.size + 1 + nm.size := by omega
    go_wp2_with fail
    refine wp_region_held_drew (S := fun W' => KeptC w w.heap.size [.int .i64 ac, .int .i64 ar, .int .i64 sq, .slice a1 ds.length c1, .int .i64 1, .int .i64 nc, .int .i64 nr, .int .i64 pc, .int .i64 pr, .int .i64 fc, .int .i64 fr, .string nm, .string vl] W') (by kernel_rfl) K4.drew (fun hHeld => ?_)
    refine wpAnyH_take (i := 0) (oi := ⟨some 34, _, _, _, _, _⟩) (v := ?vr10) rfl (by kernel_rfl) (by kernel_rfl) (by kernel_rfl) (fun _ _ _ h => h) (Or.inl ⟨by rfl, ?hyr10⟩) hHeld ?restr10
    case hyr10 => (intro w hSw; (try dsimp only at hSw); have hc0 := hSw.1 0 _ rfl; have hc1 := hSw.1 1 _ rfl; have hc2 := hSw.1 2 _ rfl; have hc3 := hSw.1 3 _ rfl; have hc4 := hSw.1 4 _ rfl; have hc5 := hSw.1 5 _ rfl; have hc6 := hSw.1 6 _ rfl; have hc7 := hSw.1 7 _ rfl; have hc8 := hSw.1 8 _ rfl; have hc9 := hSw.1 9 _ rfl; have hc10 := hSw.1 10 _ rfl; have hc11 := hSw.1 11 _ rfl; have hc12 := hSw.1 12 _ rfl; go_simp; try with_reducible rfl)
    simp only [Act.put, List.setIfInBounds_toArray, List.set_cons_zero, List.set_cons_succ]
    refine wpAnyH_take (i := 1) (oi := ⟨some 35, _, _, _, _, _⟩) (v := ?vr11) rfl (by kernel_rfl) (by kernel_rfl) (by kernel_rfl) (fun _ _ _ h => h) (Or.inl ⟨by rfl, ?hyr11⟩) hHeld ?restr11
    case hyr11 => (intro w hSw; (try dsimp only at hSw); have hc0 := hSw.1 0 _ rfl; have hc1 := hSw.1 1 _ rfl; have hc2 := hSw.1 2 _ rfl; have hc3 := hSw.1 3 _ rfl; have hc4 := hSw.1 4 _ rfl; have hc5 := hSw.1 5 _ rfl; have hc6 := hSw.1 6 _ rfl; have hc7 := hSw.1 7 _ rfl; have hc8 := hSw.1 8 _ rfl; have hc9 := hSw.1 9 _ rfl; have hc10 := hSw.1 10 _ rfl; have hc11 := hSw.1 11 _ rfl; have hc12 := hSw.1 12 _ rfl; go_simp; try with_reducible rfl)
    simp only [Act.put, List.setIfInBounds_toArray, List.set_cons_zero, List.set_cons_succ]
    refine wpAnyH_take (i := 2) (oi := ⟨some 36, _, _, _, _, _⟩) (v := ?vr12) rfl (by kernel_rfl) (by kernel_rfl) (by kernel_rfl) (fun _ _ _ h => h) (Or.inl ⟨by rfl, ?hyr12⟩) hHeld ?restr12
    case hyr12 => (intro w hSw; (try dsimp only at hSw); have hc0 := hSw.1 0 _ rfl; have hc1 := hSw.1 1 _ rfl; have hc2 := hSw.1 2 _ rfl; have hc3 := hSw.1 3 _ rfl; have hc4 := hSw.1 4 _ rfl; have hc5 := hSw.1 5 _ rfl; have hc6 := hSw.1 6 _ rfl; have hc7 := hSw.1 7 _ rfl; have hc8 := hSw.1 8 _ rfl; have hc9 := hSw.1 9 _ rfl; have hc10 := hSw.1 10 _ rfl; have hc11 := hSw.1 11 _ rfl; have hc12 := hSw.1 12 _ rfl; go_simp; try with_reducible rfl)
    simp only [Act.put, List.setIfInBounds_toArray, List.set_cons_zero, List.set_cons_succ]
    refine wpAnyH_take (i := 3) (oi := ⟨some 37, _, _, _, _, _⟩) (v := ?vr13) rfl (by kernel_rfl) (by kernel_rfl) (by kernel_rfl) (fun _ _ _ h => h) (Or.inl ⟨by rfl, ?hyr13⟩) hHeld ?restr13
    case hyr13 => (intro w hSw; (try dsimp only at hSw); have hc0 := hSw.1 0 _ rfl; have hc1 := hSw.1 1 _ rfl; have hc2 := hSw.1 2 _ rfl; have hc3 := hSw.1 3 _ rfl; have hc4 := hSw.1 4 _ rfl; have hc5 := hSw.1 5 _ rfl; have hc6 := hSw.1 6 _ rfl; have hc7 := hSw.1 7 _ rfl; have hc8 := hSw.1 8 _ rfl; have hc9 := hSw.1 9 _ rfl; have hc10 := hSw.1 10 _ rfl; have hc11 := hSw.1 11 _ rfl; have hc12 := hSw.1 12 _ rfl; go_simp; try with_reducible rfl)
    simp only [Act.put, List.setIfInBounds_toArray, List.set_cons_zero, List.set_cons_succ]
    refine wpAnyH_take (i := 7) (oi := ⟨some 41, _, _, _, _, _⟩) (v := ?vr17) rfl (by kernel_rfl) (by kernel_rfl) (by kernel_rfl) (fun _ _ _ h => h) (Or.inl ⟨by rfl, ?hyr17⟩) hHeld ?restr17
    case hyr17 => (intro w hSw; (try dsimp only at hSw); have hc0 := hSw.1 0 _ rfl; have hc1 := hSw.1 1 _ rfl; have hc2 := hSw.1 2 _ rfl; have hc3 := hSw.1 3 _ rfl; have hc4 := hSw.1 4 _ rfl; have hc5 := hSw.1 5 _ rfl; have hc6 := hSw.1 6 _ rfl; have hc7 := hSw.1 7 _ rfl; have hc8 := hSw.1 8 _ rfl; have hc9 := hSw.1 9 _ rfl; have hc10 := hSw.1 10 _ rfl; have hc11 := hSw.1 11 _ rfl; have hc12 := hSw.1 12 _ rfl; go_simp; try with_reducible rfl)
    simp only [Act.put, List.setIfInBounds_toArray, List.set_cons_zero, List.set_cons_succ]
    refine wpAnyH_take (i := 8) (oi := ⟨some 42, _, _, _, _, _⟩) (v := ?vr18) rfl (by kernel_rfl) (by kernel_rfl) (by kernel_rfl) (fun _ _ _ h => h) (Or.inl ⟨by rfl, ?hyr18⟩) hHeld ?restr18
    case hyr18 => (intro w hSw; (try dsimp only at hSw); have hc0 := hSw.1 0 _ rfl; have hc1 := hSw.1 1 _ rfl; have hc2 := hSw.1 2 _ rfl; have hc3 := hSw.1 3 _ rfl; have hc4 := hSw.1 4 _ rfl; have hc5 := hSw.1 5 _ rfl; have hc6 := hSw.1 6 _ rfl; have hc7 := hSw.1 7 _ rfl; have hc8 := hSw.1 8 _ rfl; have hc9 := hSw.1 9 _ rfl; have hc10 := hSw.1 10 _ rfl; have hc11 := hSw.1 11 _ rfl; have hc12 := hSw.1 12 _ rfl; go_simp; try with_reducible rfl)
    simp only [Act.put, List.setIfInBounds_toArray, List.set_cons_zero, List.set_cons_succ]
    refine wpAnyH_take (i := 12) (oi := ⟨some 46, _, _, _, _, _⟩) (v := ?vr112) rfl (by kernel_rfl) (by kernel_rfl) (by kernel_rfl) (fun _ _ _ h => h) (Or.inl ⟨by rfl, ?hyr112⟩) hHeld ?restr112
    case hyr112 => (intro w hSw; (try dsimp only at hSw); have hc0 := hSw.1 0 _ rfl; have hc1 := hSw.1 1 _ rfl; have hc2 := hSw.1 2 _ rfl; have hc3 := hSw.1 3 _ rfl; have hc4 := hSw.1 4 _ rfl; have hc5 := hSw.1 5 _ rfl; have hc6 := hSw.1 6 _ rfl; have hc7 := hSw.1 7 _ rfl; have hc8 := hSw.1 8 _ rfl; have hc9 := hSw.1 9 _ rfl; have hc10 := hSw.1 10 _ rfl; have hc11 := hSw.1 11 _ rfl; have hc12 := hSw.1 12 _ rfl; go_simp; try with_reducible rfl)
    simp only [Act.put, List.setIfInBounds_toArray, List.set_cons_zero, List.set_cons_succ]
    refine wpAnyH_take (i := 13) (oi := ⟨some 47, _, _, _, _, _⟩) (v := ?vr113) rfl (by kernel_rfl) (by kernel_rfl) (by kernel_rfl) (fun _ _ _ h => h) (Or.inl ⟨by rfl, ?hyr113⟩) hHeld ?restr113
    case hyr113 => (intro w hSw; (try dsimp only at hSw); have hc0 := hSw.1 0 _ rfl; have hc1 := hSw.1 1 _ rfl; have hc2 := hSw.1 2 _ rfl; have hc3 := hSw.1 3 _ rfl; have hc4 := hSw.1 4 _ rfl; have hc5 := hSw.1 5 _ rfl; have hc6 := hSw.1 6 _ rfl; have hc7 := hSw.1 7 _ rfl; have hc8 := hSw.1 8 _ rfl; have hc9 := hSw.1 9 _ rfl; have hc10 := hSw.1 10 _ rfl; have hc11 := hSw.1 11 _ rfl; have hc12 := hSw.1 12 _ rfl; go_simp; try with_reducible rfl)
    simp only [Act.put, List.setIfInBounds_toArray, List.set_cons_zero, List.set_cons_succ]
    refine wpAnyH_ready (rs := [4]) (by kernel_rfl) (by simp) ?_
    refine AllReadyH.cons (o := ⟨some 38, _, _, _, _, _⟩) rfl (fun K hK => ?_) AllReadyH.nil
    go_simp
    refine (Hu1.out _).mono ?_
    rintro e w10 ⟨rfl, hb⟩
    (try go_wp2_with fail)
    refine hK.out _ _ (hHeld.step hb) (fun hHeld2 => ?_)
    clear hK K hHeld
    have hHeld := hHeld2
    clear hHeld2
    (try simp only [Act.put, List.setIfInBounds_toArray, List.set_cons_zero, List.set_cons_succ])
    refine wpAnyH_take (i := 5) (oi := ⟨some 39, _, _, _, _, _⟩) (v := ?vr15) rfl (by kernel_rfl) (by kernel_rfl) (by kernel_rfl) (fun _ _ _ h => h) (Or.inl ⟨by rfl, ?hyr15⟩) hHeld ?restr15
    case hyr15 => (intro w hSw; (try dsimp only at hSw); have hc0 := hSw.1 0 _ rfl; have hc1 := hSw.1 1 _ rfl; have hc2 := hSw.1 2 _ rfl; have hc3 := hSw.1 3 _ rfl; have hc4 := hSw.1 4 _ rfl; have hc5 := hSw.1 5 _ rfl; have hc6 := hSw.1 6 _ rfl; have hc7 := hSw.1 7 _ rfl; have hc8 := hSw.1 8 _ rfl; have hc9 := hSw.1 9 _ rfl; have hc10 := hSw.1 10 _ rfl; have hc11 := hSw.1 11 _ rfl; have hc12 := hSw.1 12 _ rfl; go_simp; try with_reducible rfl)
    simp only [Act.put, List.setIfInBounds_toArray, List.set_cons_zero, List.set_cons_succ]
    refine wpAnyH_take (i := 6) (oi := ⟨some 40, _, _, _, _, _⟩) (v := ?vr16) rfl (by kernel_rfl) (by kernel_rfl) (by kernel_rfl) (fun _ _ _ h => h) (Or.inl ⟨by rfl, ?hyr16⟩) hHeld ?restr16
    case hyr16 => (intro w hSw; (try dsimp only at hSw); have hc0 := hSw.1 0 _ rfl; have hc1 := hSw.1 1 _ rfl; have hc2 := hSw.1 2 _ rfl; have hc3 := hSw.1 3 _ rfl; have hc4 := hSw.1 4 _ rfl; have hc5 := hSw.1 5 _ rfl; have hc6 := hSw.1 6 _ rfl; have hc7 := hSw.1 7 _ rfl; have hc8 := hSw.1 8 _ rfl; have hc9 := hSw.1 9 _ rfl; have hc10 := hSw.1 10 _ rfl; have hc11 := hSw.1 11 _ rfl; have hc12 := hSw.1 12 _ rfl; go_simp; try with_reducible rfl)
    simp only [Act.put, List.setIfInBounds_toArray, List.set_cons_zero, List.set_cons_succ]
    refine wpAnyH_ready (rs := [9]) (by kernel_rfl) (by simp) ?_
    refine AllReadyH.cons (o := ⟨some 43, _, _, _, _, _⟩) rfl (fun K hK => ?_) AllReadyH.nil
    go_simp
    refine (Hu2.out _).mono ?_
    rintro e w11 ⟨rfl, hb⟩
    (try go_wp2_with fail)
    refine hK.out _ _ (hHeld.step hb) (fun hHeld2 => ?_)
    clear hK K hHeld
    have hHeld := hHeld2
    clear hHeld2
    (try simp only [Act.put, List.setIfInBounds_toArray, List.set_cons_zero, List.set_cons_succ])
    refine wpAnyH_take (i := 10) (oi := ⟨some 44, _, _, _, _, _⟩) (v := ?vr110) rfl (by kernel_rfl) (by kernel_rfl) (by kernel_rfl) (fun _ _ _ h => h) (Or.inl ⟨by rfl, ?hyr110⟩) hHeld ?restr110
    case hyr110 => (intro w hSw; (try dsimp only at hSw); have hc0 := hSw.1 0 _ rfl; have hc1 := hSw.1 1 _ rfl; have hc2 := hSw.1 2 _ rfl; have hc3 := hSw.1 3 _ rfl; have hc4 := hSw.1 4 _ rfl; have hc5 := hSw.1 5 _ rfl; have hc6 := hSw.1 6 _ rfl; have hc7 := hSw.1 7 _ rfl; have hc8 := hSw.1 8 _ rfl; have hc9 := hSw.1 9 _ rfl; have hc10 := hSw.1 10 _ rfl; have hc11 := hSw.1 11 _ rfl; have hc12 := hSw.1 12 _ rfl; go_simp; try with_reducible rfl)
    simp only [Act.put, List.setIfInBounds_toArray, List.set_cons_zero, List.set_cons_succ]
    refine wpAnyH_take (i := 11) (oi := ⟨some 45, _, _, _, _, _⟩) (v := ?vr111) rfl (by kernel_rfl) (by kernel_rfl) (by kernel_rfl) (fun _ _ _ h => h) (Or.inl ⟨by rfl, ?hyr111⟩) hHeld ?restr111
    case hyr111 => (intro w hSw; (try dsimp only at hSw); have hc0 := hSw.1 0 _ rfl; have hc1 := hSw.1 1 _ rfl; have hc2 := hSw.1 2 _ rfl; have hc3 := hSw.1 3 _ rfl; have hc4 := hSw.1 4 _ rfl; have hc5 := hSw.1 5 _ rfl; have hc6 := hSw.1 6 _ rfl; have hc7 := hSw.1 7 _ rfl; have hc8 := hSw.1 8 _ rfl; have hc9 := hSw.1 9 _ rfl; have hc10 := hSw.1 10 _ rfl; have hc11 := hSw.1 11 _ rfl; have hc12 := hSw.1 12 _ rfl; go_simp; try with_reducible rfl)
    simp only [Act.put, List.setIfInBounds_toArray, List.set_cons_zero, List.set_cons_succ]
    refine wpAnyH_take (i := 14) (oi := ⟨some 48, _, _, _, _, _⟩) (v := ?vr114) rfl (by kernel_rfl) (by kernel_rfl) (by kernel_rfl) (fun _ _ _ h => h) (Or.inl ⟨by rfl, ?hyr114⟩) hHeld ?restr114
    case hyr114 => (intro w hSw; (try dsimp only at hSw); have hc0 := hSw.1 0 _ rfl; have hc1 := hSw.1 1 _ rfl; have hc2 := hSw.1 2 _ rfl; have hc3 := hSw.1 3 _ rfl; have hc4 := hSw.1 4 _ rfl; have hc5 := hSw.1 5 _ rfl; have hc6 := hSw.1 6 _ rfl; have hc7 := hSw.1 7 _ rfl; have hc8 := hSw.1 8 _ rfl; have hc9 := hSw.1 9 _ rfl; have hc10 := hSw.1 10 _ rfl; have hc11 := hSw.1 11 _ rfl; have hc12 := hSw.1 12 _ rfl; go_simp; try with_reducible rfl)
    simp only [Act.put, List.setIfInBounds_toArray, List.set_cons_zero, List.set_cons_succ]
    refine wpAnyH_take (i := 15) (oi := ⟨some 2, _, _, _, _, _⟩) (v := ?vr115) rfl (by kernel_rfl) (by kernel_rfl) (by kernel_rfl) (fun _ _ _ h => h) (Or.inl ⟨by rfl, ?hyr115⟩) hHeld ?restr115
    case hyr115 => (intro w hSw; (try dsimp only at hSw); have hc0 := hSw.1 0 _ rfl; have hc1 := hSw.1 1 _ rfl; have hc2 := hSw.1 2 _ rfl; have hc3 := hSw.1 3 _ rfl; have hc4 := hSw.1 4 _ rfl; have hc5 := hSw.1 5 _ rfl; have hc6 := hSw.1 6 _ rfl; have hc7 := hSw.1 7 _ rfl; have hc8 := hSw.1 8 _ rfl; have hc9 := hSw.1 9 _ rfl; have hc10 := hSw.1 10 _ rfl; have hc11 := hSw.1 11 _ rfl; have hc12 := hSw.1 12 _ rfl; go_simp; try with_reducible rfl)
    simp only [Act.put, List.setIfInBounds_toArray, List.set_cons_zero, List.set_cons_succ]
    refine wpAnyH_take (i := 16) (oi := ⟨some 3, _, _, _, _, _⟩) (v := ?vr116) rfl (by kernel_rfl) (by kernel_rfl) (by kernel_rfl) (fun _ _ _ h => h) (Or.inl ⟨by rfl, ?hyr116⟩) hHeld ?restr116
    case hyr116 => (intro w hSw; (try dsimp only at hSw); have hc0 := hSw.1 0 _ rfl; have hc1 := hSw.1 1 _ rfl; have hc2 := hSw.1 2 _ rfl; have hc3 := hSw.1 3 _ rfl; have hc4 := hSw.1 4 _ rfl; have hc5 := hSw.1 5 _ rfl; have hc6 := hSw.1 6 _ rfl; have hc7 := hSw.1 7 _ rfl; have hc8 := hSw.1 8 _ rfl; have hc9 := hSw.1 9 _ rfl; have hc10 := hSw.1 10 _ rfl; have hc11 := hSw.1 11 _ rfl; have hc12 := hSw.1 12 _ rfl; go_simp; try with_reducible rfl)
    simp only [Act.put, List.setIfInBounds_toArray, List.set_cons_zero, List.set_cons_succ]
    refine wpAnyH_done (by kernel_rfl) ?_ _
    have bz := hHeld.2.2
    clear hHeld
    go_wp2
    go_ret2
    exact ⟨ret_siT HF.out, bz⟩
  · obtain ⟨u1, eu1⟩ : ∃ u : ByteArray, u = txt (textL nc nr) := ⟨_, rfl⟩
    have Hu1 : Hid (∀ W, Calls Tryz.prog 63 #[.agg #[.int .i64 nc, .int .i64 nr]] W fun e w' => e = .returned (.string u1) ∧ Below W.heap.size W w') := fun W => by rw [eu1]; exact refStamp_any nc nr W
    have zu1 : u1.size ≤ 43 := by rw [eu1]; show (textL _ _).toArray.size ≤ _; rw [List.size_toArray]; exact textL_len _ _
    have Eu1 : Hid (u1.data.toList = textL nc nr) := by show _ = _; rw [eu1]; simp [txt]
    clear eu1
    obtain ⟨u2, eu2⟩ : ∃ u : ByteArray, u = txt (textL pc pr) := ⟨_, rfl⟩
    have Hu2 : Hid (∀ W, Calls Tryz.prog 63 #[.agg #[.int .i64 pc, .int .i64 pr]] W fun e w' => e = .returned (.string u2) ∧ Below W.heap.size W w') := fun W => by rw [eu2]; exact refStamp_any pc pr W
    have zu2 : u2.size ≤ 43 := by rw [eu2]; show (textL _ _).toArray.size ≤ _; rw [List.size_toArray]; exact textL_len _ _
    have Eu2 : Hid (u2.data.toList = textL pc pr) := by show _ = _; rw [eu2]; simp [txt]
    clear eu2
    obtain ⟨u3, eu3⟩ : ∃ u : ByteArray, u = txt (afterL fc fr) := ⟨_, rfl⟩
    have Hu3 : Hid (∀ W, Calls Tryz.prog 65 #[.agg #[.int .i64 fc, .int .i64 fr]] W fun e w' => e = .returned (.string u3) ∧ Below W.heap.size W w') := fun W => by rw [eu3]; exact refAfter_any fc fr W
    have zu3 : u3.size ≤ 43 := by rw [eu3]; show (afterL _ _).toArray.size ≤ _; rw [List.size_toArray]; exact afterL_len _ _
    have Eu3 : Hid (u3.data.toList = afterL fc fr) := by show _ = _; rw [eu3]; simp [txt]
    clear eu3
    have HF : Hid ((((((((⟨#[109, 111, 118, 101, 32]⟩ : ByteArray) ++ hd) ++ u1) ++ (⟨#[32]⟩ : ByteArray)) ++ u2) ++ (⟨#[32]⟩ : ByteArray)) ++ u3) = txt (textCh ⟨ac, ar, sq, ds, 2, nc, nr, pc, pr, fc, fr, nm, vl⟩)) := bytes_ext (by simp only [bytes_app, Ehd.out, Eu1.out, Eu2.out, Eu3.out]; show _ = textCh ⟨ac, ar, sq, ds, 2, nc, nr, pc, pr, fc, fr, nm, vl⟩; rw [textCh_2 _ rfl]; simp [kindL])
    have n1 : ¬ 9223372036854775807 < 5 + hd.size := by omega
    have n2 : ¬ 9223372036854775807 < 5 + hd.size + u1.size := by omega
    have n3 : ¬ 9223372036854775807 < 5 + hd.size + u1.size + 1 := by omega
    have n4 : ¬ 9223372036854775807 < 5 + hd.size + u1.size + 1 + u2.size := by omega
    have n5 : ¬ 9223372036854775807 < 5 + hd.size + u1.size + 1 + u2.size + 1 := by omega
    have n6 : ¬ 9223372036854775807 < 5 + hd.size + u1.size + 1 + u2.size + 1 + u3.size := by omega
    go_wp2_with fail
    refine wp_region_held_drew (S := fun W' => KeptC w w.heap.size [.int .i64 ac, .int .i64 ar, .int .i64 sq, .slice a1 ds.length c1, .int .i64 2, .int .i64 nc, .int .i64 nr, .int .i64 pc, .int .i64 pr, .int .i64 fc, .int .i64 fr, .string nm, .string vl] W') (by kernel_rfl) K4.drew (fun hHeld => ?_)
    refine wpAnyH_take (i := 0) (oi := ⟨some 51, _, _, _, _, _⟩) (v := ?vr20) rfl (by kernel_rfl) (by kernel_rfl) (by kernel_rfl) (fun _ _ _ h => h) (Or.inl ⟨by rfl, ?hyr20⟩) hHeld ?restr20
    case hyr20 => (intro w hSw; (try dsimp only at hSw); have hc0 := hSw.1 0 _ rfl; have hc1 := hSw.1 1 _ rfl; have hc2 := hSw.1 2 _ rfl; have hc3 := hSw.1 3 _ rfl; have hc4 := hSw.1 4 _ rfl; have hc5 := hSw.1 5 _ rfl; have hc6 := hSw.1 6 _ rfl; have hc7 := hSw.1 7 _ rfl; have hc8 := hSw.1 8 _ rfl; have hc9 := hSw.1 9 _ rfl; have hc10 := hSw.1 10 _ rfl; have hc11 := hSw.1 11 _ rfl; have hc12 := hSw.1 12 _ rfl; go_simp; try with_reducible rfl)
    simp only [Act.put, List.setIfInBounds_toArray, List.set_cons_zero, List.set_cons_succ]
    refine wpAnyH_take (i := 1) (oi := ⟨some 52, _, _, _, _, _⟩) (v := ?vr21) rfl (by kernel_rfl) (by kernel_rfl) (by kernel_rfl) (fun _ _ _ h => h) (Or.inl ⟨by rfl, ?hyr21⟩) hHeld ?restr21
    case hyr21 => (intro w hSw; (try dsimp only at hSw); have hc0 := hSw.1 0 _ rfl; have hc1 := hSw.1 1 _ rfl; have hc2 := hSw.1 2 _ rfl; have hc3 := hSw.1 3 _ rfl; have hc4 := hSw.1 4 _ rfl; have hc5 := hSw.1 5 _ rfl; have hc6 := hSw.1 6 _ rfl; have hc7 := hSw.1 7 _ rfl; have hc8 := hSw.1 8 _ rfl; have hc9 := hSw.1 9 _ rfl; have hc10 := hSw.1 10 _ rfl; have hc11 := hSw.1 11 _ rfl; have hc12 := hSw.1 12 _ rfl; go_simp; try with_reducible rfl)
    simp only [Act.put, List.setIfInBounds_toArray, List.set_cons_zero, List.set_cons_succ]
    refine wpAnyH_take (i := 2) (oi := ⟨some 53, _, _, _, _, _⟩) (v := ?vr22) rfl (by kernel_rfl) (by kernel_rfl) (by kernel_rfl) (fun _ _ _ h => h) (Or.inl ⟨by rfl, ?hyr22⟩) hHeld ?restr22
    case hyr22 => (intro w hSw; (try dsimp only at hSw); have hc0 := hSw.1 0 _ rfl; have hc1 := hSw.1 1 _ rfl; have hc2 := hSw.1 2 _ rfl; have hc3 := hSw.1 3 _ rfl; have hc4 := hSw.1 4 _ rfl; have hc5 := hSw.1 5 _ rfl; have hc6 := hSw.1 6 _ rfl; have hc7 := hSw.1 7 _ rfl; have hc8 := hSw.1 8 _ rfl; have hc9 := hSw.1 9 _ rfl; have hc10 := hSw.1 10 _ rfl; have hc11 := hSw.1 11 _ rfl; have hc12 := hSw.1 12 _ rfl; go_simp; try with_reducible rfl)
    simp only [Act.put, List.setIfInBounds_toArray, List.set_cons_zero, List.set_cons_succ]
    refine wpAnyH_take (i := 3) (oi := ⟨some 54, _, _, _, _, _⟩) (v := ?vr23) rfl (by kernel_rfl) (by kernel_rfl) (by kernel_rfl) (fun _ _ _ h => h) (Or.inl ⟨by rfl, ?hyr23⟩) hHeld ?restr23
    case hyr23 => (intro w hSw; (try dsimp only at hSw); have hc0 := hSw.1 0 _ rfl; have hc1 := hSw.1 1 _ rfl; have hc2 := hSw.1 2 _ rfl; have hc3 := hSw.1 3 _ rfl; have hc4 := hSw.1 4 _ rfl; have hc5 := hSw.1 5 _ rfl; have hc6 := hSw.1 6 _ rfl; have hc7 := hSw.1 7 _ rfl; have hc8 := hSw.1 8 _ rfl; have hc9 := hSw.1 9 _ rfl; have hc10 := hSw.1 10 _ rfl; have hc11 := hSw.1 11 _ rfl; have hc12 := hSw.1 12 _ rfl; go_simp; try with_reducible rfl)
    simp only [Act.put, List.setIfInBounds_toArray, List.set_cons_zero, List.set_cons_succ]
    refine wpAnyH_take (i := 7) (oi := ⟨some 58, _, _, _, _, _⟩) (v := ?vr27) rfl (by kernel_rfl) (by kernel_rfl) (by kernel_rfl) (fun _ _ _ h => h) (Or.inl ⟨by rfl, ?hyr27⟩) hHeld ?restr27
    case hyr27 => (intro w hSw; (try dsimp only at hSw); have hc0 := hSw.1 0 _ rfl; have hc1 := hSw.1 1 _ rfl; have hc2 := hSw.1 2 _ rfl; have hc3 := hSw.1 3 _ rfl; have hc4 := hSw.1 4 _ rfl; have hc5 := hSw.1 5 _ rfl; have hc6 := hSw.1 6 _ rfl; have hc7 := hSw.1 7 _ rfl; have hc8 := hSw.1 8 _ rfl; have hc9 := hSw.1 9 _ rfl; have hc10 := hSw.1 10 _ rfl; have hc11 := hSw.1 11 _ rfl; have hc12 := hSw.1 12 _ rfl; go_simp; try with_reducible rfl)
    simp only [Act.put, List.setIfInBounds_toArray, List.set_cons_zero, List.set_cons_succ]
    refine wpAnyH_take (i := 8) (oi := ⟨some 59, _, _, _, _, _⟩) (v := ?vr28) rfl (by kernel_rfl) (by kernel_rfl) (by kernel_rfl) (fun _ _ _ h => h) (Or.inl ⟨by rfl, ?hyr28⟩) hHeld ?restr28
    case hyr28 => (intro w hSw; (try dsimp only at hSw); have hc0 := hSw.1 0 _ rfl; have hc1 := hSw.1 1 _ rfl; have hc2 := hSw.1 2 _ rfl; have hc3 := hSw.1 3 _ rfl; have hc4 := hSw.1 4 _ rfl; have hc5 := hSw.1 5 _ rfl; have hc6 := hSw.1 6 _ rfl; have hc7 := hSw.1 7 _ rfl; have hc8 := hSw.1 8 _ rfl; have hc9 := hSw.1 9 _ rfl; have hc10 := hSw.1 10 _ rfl; have hc11 := hSw.1 11 _ rfl; have hc12 := hSw.1 12 _ rfl; go_simp; try with_reducible rfl)
    simp only [Act.put, List.setIfInBounds_toArray, List.set_cons_zero, List.set_cons_succ]
    refine wpAnyH_take (i := 12) (oi := ⟨some 63, _, _, _, _, _⟩) (v := ?vr212) rfl (by kernel_rfl) (by kernel_rfl) (by kernel_rfl) (fun _ _ _ h => h) (Or.inl ⟨by rfl, ?hyr212⟩) hHeld ?restr212
    case hyr212 => (intro w hSw; (try dsimp only at hSw); have hc0 := hSw.1 0 _ rfl; have hc1 := hSw.1 1 _ rfl; have hc2 := hSw.1 2 _ rfl; have hc3 := hSw.1 3 _ rfl; have hc4 := hSw.1 4 _ rfl; have hc5 := hSw.1 5 _ rfl; have hc6 := hSw.1 6 _ rfl; have hc7 := hSw.1 7 _ rfl; have hc8 := hSw.1 8 _ rfl; have hc9 := hSw.1 9 _ rfl; have hc10 := hSw.1 10 _ rfl; have hc11 := hSw.1 11 _ rfl; have hc12 := hSw.1 12 _ rfl; go_simp; try with_reducible rfl)
    simp only [Act.put, List.setIfInBounds_toArray, List.set_cons_zero, List.set_cons_succ]
    refine wpAnyH_take (i := 13) (oi := ⟨some 64, _, _, _, _, _⟩) (v := ?vr213) rfl (by kernel_rfl) (by kernel_rfl) (by kernel_rfl) (fun _ _ _ h => h) (Or.inl ⟨by rfl, ?hyr213⟩) hHeld ?restr213
    case hyr213 => (intro w hSw; (try dsimp only at hSw); have hc0 := hSw.1 0 _ rfl; have hc1 := hSw.1 1 _ rfl; have hc2 := hSw.1 2 _ rfl; have hc3 := hSw.1 3 _ rfl; have hc4 := hSw.1 4 _ rfl; have hc5 := hSw.1 5 _ rfl; have hc6 := hSw.1 6 _ rfl; have hc7 := hSw.1 7 _ rfl; have hc8 := hSw.1 8 _ rfl; have hc9 := hSw.1 9 _ rfl; have hc10 := hSw.1 10 _ rfl; have hc11 := hSw.1 11 _ rfl; have hc12 := hSw.1 12 _ rfl; go_simp; try with_reducible rfl)
    simp only [Act.put, List.setIfInBounds_toArray, List.set_cons_zero, List.set_cons_succ]
    refine wpAnyH_ready (rs := [4]) (by kernel_rfl) (by simp) ?_
    refine AllReadyH.cons (o := ⟨some 55, _, _, _, _, _⟩) rfl (fun K hK => ?_) AllReadyH.nil
    go_simp
    refine (Hu1.out _).mono ?_
    rintro e w10 ⟨rfl, hb⟩
    (try go_wp2_with fail)
    refine hK.out _ _ (hHeld.step hb) (fun hHeld2 => ?_)
    clear hK K hHeld
    have hHeld := hHeld2
    clear hHeld2
    (try simp only [Act.put, List.setIfInBounds_toArray, List.set_cons_zero, List.set_cons_succ])
    refine wpAnyH_take (i := 5) (oi := ⟨some 56, _, _, _, _, _⟩) (v := ?vr25) rfl (by kernel_rfl) (by kernel_rfl) (by kernel_rfl) (fun _ _ _ h => h) (Or.inl ⟨by rfl, ?hyr25⟩) hHeld ?restr25
    case hyr25 => (intro w hSw; (try dsimp only at hSw); have hc0 := hSw.1 0 _ rfl; have hc1 := hSw.1 1 _ rfl; have hc2 := hSw.1 2 _ rfl; have hc3 := hSw.1 3 _ rfl; have hc4 := hSw.1 4 _ rfl; have hc5 := hSw.1 5 _ rfl; have hc6 := hSw.1 6 _ rfl; have hc7 := hSw.1 7 _ rfl; have hc8 := hSw.1 8 _ rfl; have hc9 := hSw.1 9 _ rfl; have hc10 := hSw.1 10 _ rfl; have hc11 := hSw.1 11 _ rfl; have hc12 := hSw.1 12 _ rfl; go_simp; try with_reducible rfl)
    simp only [Act.put, List.setIfInBounds_toArray, List.set_cons_zero, List.set_cons_succ]
    refine wpAnyH_take (i := 6) (oi := ⟨some 57, _, _, _, _, _⟩) (v := ?vr26) rfl (by kernel_rfl) (by kernel_rfl) (by kernel_rfl) (fun _ _ _ h => h) (Or.inl ⟨by rfl, ?hyr26⟩) hHeld ?restr26
    case hyr26 => (intro w hSw; (try dsimp only at hSw); have hc0 := hSw.1 0 _ rfl; have hc1 := hSw.1 1 _ rfl; have hc2 := hSw.1 2 _ rfl; have hc3 := hSw.1 3 _ rfl; have hc4 := hSw.1 4 _ rfl; have hc5 := hSw.1 5 _ rfl; have hc6 := hSw.1 6 _ rfl; have hc7 := hSw.1 7 _ rfl; have hc8 := hSw.1 8 _ rfl; have hc9 := hSw.1 9 _ rfl; have hc10 := hSw.1 10 _ rfl; have hc11 := hSw.1 11 _ rfl; have hc12 := hSw.1 12 _ rfl; go_simp; try with_reducible rfl)
    simp only [Act.put, List.setIfInBounds_toArray, List.set_cons_zero, List.set_cons_succ]
    refine wpAnyH_ready (rs := [9]) (by kernel_rfl) (by simp) ?_
    refine AllReadyH.cons (o := ⟨some 60, _, _, _, _, _⟩) rfl (fun K hK => ?_) AllReadyH.nil
    go_simp
    refine (Hu2.out _).mono ?_
    rintro e w11 ⟨rfl, hb⟩
    (try go_wp2_with fail)
    refine hK.out _ _ (hHeld.step hb) (fun hHeld2 => ?_)
    clear hK K hHeld
    have hHeld := hHeld2
    clear hHeld2
    (try simp only [Act.put, List.setIfInBounds_toArray, List.set_cons_zero, List.set_cons_succ])
    refine wpAnyH_take (i := 10) (oi := ⟨some 61, _, _, _, _, _⟩) (v := ?vr210) rfl (by kernel_rfl) (by kernel_rfl) (by kernel_rfl) (fun _ _ _ h => h) (Or.inl ⟨by rfl, ?hyr210⟩) hHeld ?restr210
    case hyr210 => (intro w hSw; (try dsimp only at hSw); have hc0 := hSw.1 0 _ rfl; have hc1 := hSw.1 1 _ rfl; have hc2 := hSw.1 2 _ rfl; have hc3 := hSw.1 3 _ rfl; have hc4 := hSw.1 4 _ rfl; have hc5 := hSw.1 5 _ rfl; have hc6 := hSw.1 6 _ rfl; have hc7 := hSw.1 7 _ rfl; have hc8 := hSw.1 8 _ rfl; have hc9 := hSw.1 9 _ rfl; have hc10 := hSw.1 10 _ rfl; have hc11 := hSw.1 11 _ rfl; have hc12 := hSw.1 12 _ rfl; go_simp; try with_reducible rfl)
    simp only [Act.put, List.setIfInBounds_toArray, List.set_cons_zero, List.set_cons_succ]
    refine wpAnyH_take (i := 11) (oi := ⟨some 62, _, _, _, _, _⟩) (v := ?vr211) rfl (by kernel_rfl) (by kernel_rfl) (by kernel_rfl) (fun _ _ _ h => h) (Or.inl ⟨by rfl, ?hyr211⟩) hHeld ?restr211
    case hyr211 => (intro w hSw; (try dsimp only at hSw); have hc0 := hSw.1 0 _ rfl; have hc1 := hSw.1 1 _ rfl; have hc2 := hSw.1 2 _ rfl; have hc3 := hSw.1 3 _ rfl; have hc4 := hSw.1 4 _ rfl; have hc5 := hSw.1 5 _ rfl; have hc6 := hSw.1 6 _ rfl; have hc7 := hSw.1 7 _ rfl; have hc8 := hSw.1 8 _ rfl; have hc9 := hSw.1 9 _ rfl; have hc10 := hSw.1 10 _ rfl; have hc11 := hSw.1 11 _ rfl; have hc12 := hSw.1 12 _ rfl; go_simp; try with_reducible rfl)
    simp only [Act.put, List.setIfInBounds_toArray, List.set_cons_zero, List.set_cons_succ]
    refine wpAnyH_ready (rs := [14]) (by kernel_rfl) (by simp) ?_
    refine AllReadyH.cons (o := ⟨some 65, _, _, _, _, _⟩) rfl (fun K hK => ?_) AllReadyH.nil
    go_simp
    refine (Hu3.out _).mono ?_
    rintro e w12 ⟨rfl, hb⟩
    (try go_wp2_with fail)
    refine hK.out _ _ (hHeld.step hb) (fun hHeld2 => ?_)
    clear hK K hHeld
    have hHeld := hHeld2
    clear hHeld2
    (try simp only [Act.put, List.setIfInBounds_toArray, List.set_cons_zero, List.set_cons_succ])
    refine wpAnyH_take (i := 15) (oi := ⟨some 66, _, _, _, _, _⟩) (v := ?vr215) rfl (by kernel_rfl) (by kernel_rfl) (by kernel_rfl) (fun _ _ _ h => h) (Or.inl ⟨by rfl, ?hyr215⟩) hHeld ?restr215
    case hyr215 => (intro w hSw; (try dsimp only at hSw); have hc0 := hSw.1 0 _ rfl; have hc1 := hSw.1 1 _ rfl; have hc2 := hSw.1 2 _ rfl; have hc3 := hSw.1 3 _ rfl; have hc4 := hSw.1 4 _ rfl; have hc5 := hSw.1 5 _ rfl; have hc6 := hSw.1 6 _ rfl; have hc7 := hSw.1 7 _ rfl; have hc8 := hSw.1 8 _ rfl; have hc9 := hSw.1 9 _ rfl; have hc10 := hSw.1 10 _ rfl; have hc11 := hSw.1 11 _ rfl; have hc12 := hSw.1 12 _ rfl; go_simp; try with_reducible rfl)
    simp only [Act.put, List.setIfInBounds_toArray, List.set_cons_zero, List.set_cons_succ]
    refine wpAnyH_take (i := 16) (oi := ⟨some 2, _, _, _, _, _⟩) (v := ?vr216) rfl (by kernel_rfl) (by kernel_rfl) (by kernel_rfl) (fun _ _ _ h => h) (Or.inl ⟨by rfl, ?hyr216⟩) hHeld ?restr216
    case hyr216 => (intro w hSw; (try dsimp only at hSw); have hc0 := hSw.1 0 _ rfl; have hc1 := hSw.1 1 _ rfl; have hc2 := hSw.1 2 _ rfl; have hc3 := hSw.1 3 _ rfl; have hc4 := hSw.1 4 _ rfl; have hc5 := hSw.1 5 _ rfl; have hc6 := hSw.1 6 _ rfl; have hc7 := hSw.1 7 _ rfl; have hc8 := hSw.1 8 _ rfl; have hc9 := hSw.1 9 _ rfl; have hc10 := hSw.1 10 _ rfl; have hc11 := hSw.1 11 _ rfl; have hc12 := hSw.1 12 _ rfl; go_simp; try with_reducible rfl)
    simp only [Act.put, List.setIfInBounds_toArray, List.set_cons_zero, List.set_cons_succ]
    refine wpAnyH_take (i := 17) (oi := ⟨some 3, _, _, _, _, _⟩) (v := ?vr217) rfl (by kernel_rfl) (by kernel_rfl) (by kernel_rfl) (fun _ _ _ h => h) (Or.inl ⟨by rfl, ?hyr217⟩) hHeld ?restr217
    case hyr217 => (intro w hSw; (try dsimp only at hSw); have hc0 := hSw.1 0 _ rfl; have hc1 := hSw.1 1 _ rfl; have hc2 := hSw.1 2 _ rfl; have hc3 := hSw.1 3 _ rfl; have hc4 := hSw.1 4 _ rfl; have hc5 := hSw.1 5 _ rfl; have hc6 := hSw.1 6 _ rfl; have hc7 := hSw.1 7 _ rfl; have hc8 := hSw.1 8 _ rfl; have hc9 := hSw.1 9 _ rfl; have hc10 := hSw.1 10 _ rfl; have hc11 := hSw.1 11 _ rfl; have hc12 := hSw.1 12 _ rfl; go_simp; try with_reducible rfl)
    simp only [Act.put, List.setIfInBounds_toArray, List.set_cons_zero, List.set_cons_succ]
    refine wpAnyH_done (by kernel_rfl) ?_ _
    have bz := hHeld.2.2
    clear hHeld
    go_wp2
    go_ret2
    exact ⟨ret_siT HF.out, bz⟩
  · have hnm : nm.size ≤ 32 := by have h0 := (checkCh_ok _ hc).2.2.2.2.2.2.1; have h5 : nameL nm.data.toList = true := (if_pos (show hasName 3 = true by decide)).symm.trans h0; unfold nameL at h5; simp only [Bool.and_eq_true, decide_eq_true_eq] at h5; have := h5.1; rw [size_list] at this; omega
    obtain ⟨u1, eu1⟩ : ∃ u : ByteArray, u = txt (textL nc nr) := ⟨_, rfl⟩
    have Hu1 : Hid (∀ W, Calls Tryz.prog 63 #[.agg #[.int .i64 nc, .int .i64 nr]] W fun e w' => e = .returned (.string u1) ∧ Below W.heap.size W w') := fun W => by rw [eu1]; exact refStamp_any nc nr W
    have zu1 : u1.size ≤ 43 := by rw [eu1]; show (textL _ _).toArray.size ≤ _; rw [List.size_toArray]; exact textL_len _ _
    have Eu1 : Hid (u1.data.toList = textL nc nr) := by show _ = _; rw [eu1]; simp [txt]
    clear eu1
    obtain ⟨u2, eu2⟩ : ∃ u : ByteArray, u = txt (quoteL vl.data.toList) := ⟨_, rfl⟩
    have Hu2 : Hid (∀ W, Calls Tryz.prog 26 #[.string vl] W fun e w' => e = .returned (.string u2) ∧ Below W.heap.size W w') := fun W => by rw [eu2]; exact refQuote_any vl (by omega) W
    have zu2 : u2.size ≤ 771 := by rw [eu2]; show (quoteL _).toArray.size ≤ _; rw [List.size_toArray, quoteL_len]; have := (bodyL_len vl.data.toList).2; rw [size_list] at this; omega
    have Eu2 : Hid (u2.data.toList = quoteL vl.data.toList) := by show _ = _; rw [eu2]; simp [txt]
    clear eu2
    have HF : Hid ((((((((⟨#[115, 101, 116, 32]⟩ : ByteArray) ++ hd) ++ u1) ++ (⟨#[32]⟩ : ByteArray)) ++ nm) ++ (⟨#[32]⟩ : ByteArray)) ++ u2) = txt (textCh ⟨ac, ar, sq, ds, 3, nc, nr, pc, pr, fc, fr, nm, vl⟩)) := bytes_ext (by simp only [bytes_app, Ehd.out, Eu1.out, Eu2.out]; show _ = textCh ⟨ac, ar, sq, ds, 3, nc, nr, pc, pr, fc, fr, nm, vl⟩; rw [textCh_3 _ rfl]; simp [kindL])
    have n1 : ¬ 9223372036854775807 < 4 + hd.size := by omega
    have n2 : ¬ 9223372036854775807 < 4 + hd.size + u1.size := by omega
    have n3 : ¬ 9223372036854775807 < 4 + hd.size + u1.size + 1 := by omega
    have n4 : ¬ 9223372036854775807 < 4 + hd.size + u1.size + 1 + nm.size := by omega
    have n5 : ¬ 9223372036854775807 < 4 + hd.size + u1.size + 1 + nm.size + 1 := by omega
    have n6 : ¬ 9223372036854775807 < 4 + hd.size + u1.size + 1 + nm.size + 1 + u2.size := by omega
    go_wp2_with fail
    refine wp_region_held_drew (S := fun W' => KeptC w w.heap.size [.int .i64 ac, .int .i64 ar, .int .i64 sq, .slice a1 ds.length c1, .int .i64 3, .int .i64 nc, .int .i64 nr, .int .i64 pc, .int .i64 pr, .int .i64 fc, .int .i64 fr, .string nm, .string vl] W') (by kernel_rfl) K4.drew (fun hHeld => ?_)
    refine wpAnyH_take (i := 0) (oi := ⟨some 69, _, _, _, _, _⟩) (v := ?vr30) rfl (by kernel_rfl) (by kernel_rfl) (by kernel_rfl) (fun _ _ _ h => h) (Or.inl ⟨by rfl, ?hyr30⟩) hHeld ?restr30
    case hyr30 => (intro w hSw; (try dsimp only at hSw); have hc0 := hSw.1 0 _ rfl; have hc1 := hSw.1 1 _ rfl; have hc2 := hSw.1 2 _ rfl; have hc3 := hSw.1 3 _ rfl; have hc4 := hSw.1 4 _ rfl; have hc5 := hSw.1 5 _ rfl; have hc6 := hSw.1 6 _ rfl; have hc7 := hSw.1 7 _ rfl; have hc8 := hSw.1 8 _ rfl; have hc9 := hSw.1 9 _ rfl; have hc10 := hSw.1 10 _ rfl; have hc11 := hSw.1 11 _ rfl; have hc12 := hSw.1 12 _ rfl; go_simp; try with_reducible rfl)
    simp only [Act.put, List.setIfInBounds_toArray, List.set_cons_zero, List.set_cons_succ]
    refine wpAnyH_take (i := 1) (oi := ⟨some 70, _, _, _, _, _⟩) (v := ?vr31) rfl (by kernel_rfl) (by kernel_rfl) (by kernel_rfl) (fun _ _ _ h => h) (Or.inl ⟨by rfl, ?hyr31⟩) hHeld ?restr31
    case hyr31 => (intro w hSw; (try dsimp only at hSw); have hc0 := hSw.1 0 _ rfl; have hc1 := hSw.1 1 _ rfl; have hc2 := hSw.1 2 _ rfl; have hc3 := hSw.1 3 _ rfl; have hc4 := hSw.1 4 _ rfl; have hc5 := hSw.1 5 _ rfl; have hc6 := hSw.1 6 _ rfl; have hc7 := hSw.1 7 _ rfl; have hc8 := hSw.1 8 _ rfl; have hc9 := hSw.1 9 _ rfl; have hc10 := hSw.1 10 _ rfl; have hc11 := hSw.1 11 _ rfl; have hc12 := hSw.1 12 _ rfl; go_simp; try with_reducible rfl)
    simp only [Act.put, List.setIfInBounds_toArray, List.set_cons_zero, List.set_cons_succ]
    refine wpAnyH_take (i := 2) (oi := ⟨some 71, _, _, _, _, _⟩) (v := ?vr32) rfl (by kernel_rfl) (by kernel_rfl) (by kernel_rfl) (fun _ _ _ h => h) (Or.inl ⟨by rfl, ?hyr32⟩) hHeld ?restr32
    case hyr32 => (intro w hSw; (try dsimp only at hSw); have hc0 := hSw.1 0 _ rfl; have hc1 := hSw.1 1 _ rfl; have hc2 := hSw.1 2 _ rfl; have hc3 := hSw.1 3 _ rfl; have hc4 := hSw.1 4 _ rfl; have hc5 := hSw.1 5 _ rfl; have hc6 := hSw.1 6 _ rfl; have hc7 := hSw.1 7 _ rfl; have hc8 := hSw.1 8 _ rfl; have hc9 := hSw.1 9 _ rfl; have hc10 := hSw.1 10 _ rfl; have hc11 := hSw.1 11 _ rfl; have hc12 := hSw.1 12 _ rfl; go_simp; try with_reducible rfl)
    simp only [Act.put, List.setIfInBounds_toArray, List.set_cons_zero, List.set_cons_succ]
    refine wpAnyH_take (i := 3) (oi := ⟨some 72, _, _, _, _, _⟩) (v := ?vr33) rfl (by kernel_rfl) (by kernel_rfl) (by kernel_rfl) (fun _ _ _ h => h) (Or.inl ⟨by rfl, ?hyr33⟩) hHeld ?restr33
    case hyr33 => (intro w hSw; (try dsimp only at hSw); have hc0 := hSw.1 0 _ rfl; have hc1 := hSw.1 1 _ rfl; have hc2 := hSw.1 2 _ rfl; have hc3 := hSw.1 3 _ rfl; have hc4 := hSw.1 4 _ rfl; have hc5 := hSw.1 5 _ rfl; have hc6 := hSw.1 6 _ rfl; have hc7 := hSw.1 7 _ rfl; have hc8 := hSw.1 8 _ rfl; have hc9 := hSw.1 9 _ rfl; have hc10 := hSw.1 10 _ rfl; have hc11 := hSw.1 11 _ rfl; have hc12 := hSw.1 12 _ rfl; go_simp; try with_reducible rfl)
    simp only [Act.put, List.setIfInBounds_toArray, List.set_cons_zero, List.set_cons_succ]
    refine wpAnyH_take (i := 7) (oi := ⟨some 76, _, _, _, _, _⟩) (v := ?vr37) rfl (by kernel_rfl) (by kernel_rfl) (by kernel_rfl) (fun _ _ _ h => h) (Or.inl ⟨by rfl, ?hyr37⟩) hHeld ?restr37
    case hyr37 => (intro w hSw; (try dsimp only at hSw); have hc0 := hSw.1 0 _ rfl; have hc1 := hSw.1 1 _ rfl; have hc2 := hSw.1 2 _ rfl; have hc3 := hSw.1 3 _ rfl; have hc4 := hSw.1 4 _ rfl; have hc5 := hSw.1 5 _ rfl; have hc6 := hSw.1 6 _ rfl; have hc7 := hSw.1 7 _ rfl; have hc8 := hSw.1 8 _ rfl; have hc9 := hSw.1 9 _ rfl; have hc10 := hSw.1 10 _ rfl; have hc11 := hSw.1 11 _ rfl; have hc12 := hSw.1 12 _ rfl; go_simp; try with_reducible rfl)
    simp only [Act.put, List.setIfInBounds_toArray, List.set_cons_zero, List.set_cons_succ]
    refine wpAnyH_take (i := 8) (oi := ⟨some 77, _, _, _, _, _⟩) (v := ?vr38) rfl (by kernel_rfl) (by kernel_rfl) (by kernel_rfl) (fun _ _ _ h => h) (Or.inl ⟨by rfl, ?hyr38⟩) hHeld ?restr38
    case hyr38 => (intro w hSw; (try dsimp only at hSw); have hc0 := hSw.1 0 _ rfl; have hc1 := hSw.1 1 _ rfl; have hc2 := hSw.1 2 _ rfl; have hc3 := hSw.1 3 _ rfl; have hc4 := hSw.1 4 _ rfl; have hc5 := hSw.1 5 _ rfl; have hc6 := hSw.1 6 _ rfl; have hc7 := hSw.1 7 _ rfl; have hc8 := hSw.1 8 _ rfl; have hc9 := hSw.1 9 _ rfl; have hc10 := hSw.1 10 _ rfl; have hc11 := hSw.1 11 _ rfl; have hc12 := hSw.1 12 _ rfl; go_simp; try with_reducible rfl)
    simp only [Act.put, List.setIfInBounds_toArray, List.set_cons_zero, List.set_cons_succ]
    refine wpAnyH_take (i := 11) (oi := ⟨some 80, _, _, _, _, _⟩) (v := ?vr311) rfl (by kernel_rfl) (by kernel_rfl) (by kernel_rfl) (fun _ _ _ h => h) (Or.inl ⟨by rfl, ?hyr311⟩) hHeld ?restr311
    case hyr311 => (intro w hSw; (try dsimp only at hSw); have hc0 := hSw.1 0 _ rfl; have hc1 := hSw.1 1 _ rfl; have hc2 := hSw.1 2 _ rfl; have hc3 := hSw.1 3 _ rfl; have hc4 := hSw.1 4 _ rfl; have hc5 := hSw.1 5 _ rfl; have hc6 := hSw.1 6 _ rfl; have hc7 := hSw.1 7 _ rfl; have hc8 := hSw.1 8 _ rfl; have hc9 := hSw.1 9 _ rfl; have hc10 := hSw.1 10 _ rfl; have hc11 := hSw.1 11 _ rfl; have hc12 := hSw.1 12 _ rfl; go_simp; try with_reducible rfl)
    simp only [Act.put, List.setIfInBounds_toArray, List.set_cons_zero, List.set_cons_succ]
    refine wpAnyH_take (i := 12) (oi := ⟨some 81, _, _, _, _, _⟩) (v := ?vr312) rfl (by kernel_rfl) (by kernel_rfl) (by kernel_rfl) (fun _ _ _ h => h) (Or.inl ⟨by rfl, ?hyr312⟩) hHeld ?restr312
    case hyr312 => (intro w hSw; (try dsimp only at hSw); have hc0 := hSw.1 0 _ rfl; have hc1 := hSw.1 1 _ rfl; have hc2 := hSw.1 2 _ rfl; have hc3 := hSw.1 3 _ rfl; have hc4 := hSw.1 4 _ rfl; have hc5 := hSw.1 5 _ rfl; have hc6 := hSw.1 6 _ rfl; have hc7 := hSw.1 7 _ rfl; have hc8 := hSw.1 8 _ rfl; have hc9 := hSw.1 9 _ rfl; have hc10 := hSw.1 10 _ rfl; have hc11 := hSw.1 11 _ rfl; have hc12 := hSw.1 12 _ rfl; go_simp; try with_reducible rfl)
    simp only [Act.put, List.setIfInBounds_toArray, List.set_cons_zero, List.set_cons_succ]
    refine wpAnyH_ready (rs := [4]) (by kernel_rfl) (by simp) ?_
    refine AllReadyH.cons (o := ⟨some 73, _, _, _, _, _⟩) rfl (fun K hK => ?_) AllReadyH.nil
    go_simp
    refine (Hu1.out _).mono ?_
    rintro e w10 ⟨rfl, hb⟩
    (try go_wp2_with fail)
    refine hK.out _ _ (hHeld.step hb) (fun hHeld2 => ?_)
    clear hK K hHeld
    have hHeld := hHeld2
    clear hHeld2
    (try simp only [Act.put, List.setIfInBounds_toArray, List.set_cons_zero, List.set_cons_succ])
    refine wpAnyH_take (i := 5) (oi := ⟨some 74, _, _, _, _, _⟩) (v := ?vr35) rfl (by kernel_rfl) (by kernel_rfl) (by kernel_rfl) (fun _ _ _ h => h) (Or.inl ⟨by rfl, ?hyr35⟩) hHeld ?restr35
    case hyr35 => (intro w hSw; (try dsimp only at hSw); have hc0 := hSw.1 0 _ rfl; have hc1 := hSw.1 1 _ rfl; have hc2 := hSw.1 2 _ rfl; have hc3 := hSw.1 3 _ rfl; have hc4 := hSw.1 4 _ rfl; have hc5 := hSw.1 5 _ rfl; have hc6 := hSw.1 6 _ rfl; have hc7 := hSw.1 7 _ rfl; have hc8 := hSw.1 8 _ rfl; have hc9 := hSw.1 9 _ rfl; have hc10 := hSw.1 10 _ rfl; have hc11 := hSw.1 11 _ rfl; have hc12 := hSw.1 12 _ rfl; go_simp; try with_reducible rfl)
    simp only [Act.put, List.setIfInBounds_toArray, List.set_cons_zero, List.set_cons_succ]
    refine wpAnyH_take (i := 6) (oi := ⟨some 75, _, _, _, _, _⟩) (v := ?vr36) rfl (by kernel_rfl) (by kernel_rfl) (by kernel_rfl) (fun _ _ _ h => h) (Or.inl ⟨by rfl, ?hyr36⟩) hHeld ?restr36
    case hyr36 => (intro w hSw; (try dsimp only at hSw); have hc0 := hSw.1 0 _ rfl; have hc1 := hSw.1 1 _ rfl; have hc2 := hSw.1 2 _ rfl; have hc3 := hSw.1 3 _ rfl; have hc4 := hSw.1 4 _ rfl; have hc5 := hSw.1 5 _ rfl; have hc6 := hSw.1 6 _ rfl; have hc7 := hSw.1 7 _ rfl; have hc8 := hSw.1 8 _ rfl; have hc9 := hSw.1 9 _ rfl; have hc10 := hSw.1 10 _ rfl; have hc11 := hSw.1 11 _ rfl; have hc12 := hSw.1 12 _ rfl; go_simp; try with_reducible rfl)
    simp only [Act.put, List.setIfInBounds_toArray, List.set_cons_zero, List.set_cons_succ]
    refine wpAnyH_take (i := 9) (oi := ⟨some 78, _, _, _, _, _⟩) (v := ?vr39) rfl (by kernel_rfl) (by kernel_rfl) (by kernel_rfl) (fun _ _ _ h => h) (Or.inl ⟨by rfl, ?hyr39⟩) hHeld ?restr39
    case hyr39 => (intro w hSw; (try dsimp only at hSw); have hc0 := hSw.1 0 _ rfl; have hc1 := hSw.1 1 _ rfl; have hc2 := hSw.1 2 _ rfl; have hc3 := hSw.1 3 _ rfl; have hc4 := hSw.1 4 _ rfl; have hc5 := hSw.1 5 _ rfl; have hc6 := hSw.1 6 _ rfl; have hc7 := hSw.1 7 _ rfl; have hc8 := hSw.1 8 _ rfl; have hc9 := hSw.1 9 _ rfl; have hc10 := hSw.1 10 _ rfl; have hc11 := hSw.1 11 _ rfl; have hc12 := hSw.1 12 _ rfl; go_simp; try with_reducible rfl)
    simp only [Act.put, List.setIfInBounds_toArray, List.set_cons_zero, List.set_cons_succ]
    refine wpAnyH_take (i := 10) (oi := ⟨some 79, _, _, _, _, _⟩) (v := ?vr310) rfl (by kernel_rfl) (by kernel_rfl) (by kernel_rfl) (fun _ _ _ h => h) (Or.inl ⟨by rfl, ?hyr310⟩) hHeld ?restr310
    case hyr310 => (intro w hSw; (try dsimp only at hSw); have hc0 := hSw.1 0 _ rfl; have hc1 := hSw.1 1 _ rfl; have hc2 := hSw.1 2 _ rfl; have hc3 := hSw.1 3 _ rfl; have hc4 := hSw.1 4 _ rfl; have hc5 := hSw.1 5 _ rfl; have hc6 := hSw.1 6 _ rfl; have hc7 := hSw.1 7 _ rfl; have hc8 := hSw.1 8 _ rfl; have hc9 := hSw.1 9 _ rfl; have hc10 := hSw.1 10 _ rfl; have hc11 := hSw.1 11 _ rfl; have hc12 := hSw.1 12 _ rfl; go_simp; try with_reducible rfl)
    simp only [Act.put, List.setIfInBounds_toArray, List.set_cons_zero, List.set_cons_succ]
    refine wpAnyH_ready (rs := [13]) (by kernel_rfl) (by simp) ?_
    refine AllReadyH.cons (o := ⟨some 82, _, _, _, _, _⟩) rfl (fun K hK => ?_) AllReadyH.nil
    go_simp
    refine (Hu2.out _).mono ?_
    rintro e w11 ⟨rfl, hb⟩
    (try go_wp2_with fail)
    refine hK.out _ _ (hHeld.step hb) (fun hHeld2 => ?_)
    clear hK K hHeld
    have hHeld := hHeld2
    clear hHeld2
    (try simp only [Act.put, List.setIfInBounds_toArray, List.set_cons_zero, List.set_cons_succ])
    refine wpAnyH_take (i := 14) (oi := ⟨some 83, _, _, _, _, _⟩) (v := ?vr314) rfl (by kernel_rfl) (by kernel_rfl) (by kernel_rfl) (fun _ _ _ h => h) (Or.inl ⟨by rfl, ?hyr314⟩) hHeld ?restr314
    case hyr314 => (intro w hSw; (try dsimp only at hSw); have hc0 := hSw.1 0 _ rfl; have hc1 := hSw.1 1 _ rfl; have hc2 := hSw.1 2 _ rfl; have hc3 := hSw.1 3 _ rfl; have hc4 := hSw.1 4 _ rfl; have hc5 := hSw.1 5 _ rfl; have hc6 := hSw.1 6 _ rfl; have hc7 := hSw.1 7 _ rfl; have hc8 := hSw.1 8 _ rfl; have hc9 := hSw.1 9 _ rfl; have hc10 := hSw.1 10 _ rfl; have hc11 := hSw.1 11 _ rfl; have hc12 := hSw.1 12 _ rfl; go_simp; try with_reducible rfl)
    simp only [Act.put, List.setIfInBounds_toArray, List.set_cons_zero, List.set_cons_succ]
    refine wpAnyH_take (i := 15) (oi := ⟨some 2, _, _, _, _, _⟩) (v := ?vr315) rfl (by kernel_rfl) (by kernel_rfl) (by kernel_rfl) (fun _ _ _ h => h) (Or.inl ⟨by rfl, ?hyr315⟩) hHeld ?restr315
    case hyr315 => (intro w hSw; (try dsimp only at hSw); have hc0 := hSw.1 0 _ rfl; have hc1 := hSw.1 1 _ rfl; have hc2 := hSw.1 2 _ rfl; have hc3 := hSw.1 3 _ rfl; have hc4 := hSw.1 4 _ rfl; have hc5 := hSw.1 5 _ rfl; have hc6 := hSw.1 6 _ rfl; have hc7 := hSw.1 7 _ rfl; have hc8 := hSw.1 8 _ rfl; have hc9 := hSw.1 9 _ rfl; have hc10 := hSw.1 10 _ rfl; have hc11 := hSw.1 11 _ rfl; have hc12 := hSw.1 12 _ rfl; go_simp; try with_reducible rfl)
    simp only [Act.put, List.setIfInBounds_toArray, List.set_cons_zero, List.set_cons_succ]
    refine wpAnyH_take (i := 16) (oi := ⟨some 3, _, _, _, _, _⟩) (v := ?vr316) rfl (by kernel_rfl) (by kernel_rfl) (by kernel_rfl) (fun _ _ _ h => h) (Or.inl ⟨by rfl, ?hyr316⟩) hHeld ?restr316
    case hyr316 => (intro w hSw; (try dsimp only at hSw); have hc0 := hSw.1 0 _ rfl; have hc1 := hSw.1 1 _ rfl; have hc2 := hSw.1 2 _ rfl; have hc3 := hSw.1 3 _ rfl; have hc4 := hSw.1 4 _ rfl; have hc5 := hSw.1 5 _ rfl; have hc6 := hSw.1 6 _ rfl; have hc7 := hSw.1 7 _ rfl; have hc8 := hSw.1 8 _ rfl; have hc9 := hSw.1 9 _ rfl; have hc10 := hSw.1 10 _ rfl; have hc11 := hSw.1 11 _ rfl; have hc12 := hSw.1 12 _ rfl; go_simp; try with_reducible rfl)
    simp only [Act.put, List.setIfInBounds_toArray, List.set_cons_zero, List.set_cons_succ]
    refine wpAnyH_done (by kernel_rfl) ?_ _
    have bz := hHeld.2.2
    clear hHeld
    go_wp2
    go_ret2
    exact ⟨ret_siT HF.out, bz⟩
  · have hnm : nm.size ≤ 32 := by have h0 := (checkCh_ok _ hc).2.2.2.2.2.2.1; have h5 : nameL nm.data.toList = true := (if_pos (show hasName 4 = true by decide)).symm.trans h0; unfold nameL at h5; simp only [Bool.and_eq_true, decide_eq_true_eq] at h5; have := h5.1; rw [size_list] at this; omega
    obtain ⟨u1, eu1⟩ : ∃ u : ByteArray, u = txt (textL nc nr) := ⟨_, rfl⟩
    have Hu1 : Hid (∀ W, Calls Tryz.prog 63 #[.agg #[.int .i64 nc, .int .i64 nr]] W fun e w' => e = .returned (.string u1) ∧ Below W.heap.size W w') := fun W => by rw [eu1]; exact refStamp_any nc nr W
    have zu1 : u1.size ≤ 43 := by rw [eu1]; show (textL _ _).toArray.size ≤ _; rw [List.size_toArray]; exact textL_len _ _
    have Eu1 : Hid (u1.data.toList = textL nc nr) := by show _ = _; rw [eu1]; simp [txt]
    clear eu1
    have HF : Hid ((((((⟨#[99, 108, 101, 97, 114, 32]⟩ : ByteArray) ++ hd) ++ u1) ++ (⟨#[32]⟩ : ByteArray)) ++ nm) = txt (textCh ⟨ac, ar, sq, ds, 4, nc, nr, pc, pr, fc, fr, nm, vl⟩)) := bytes_ext (by simp only [bytes_app, Ehd.out, Eu1.out]; show _ = textCh ⟨ac, ar, sq, ds, 4, nc, nr, pc, pr, fc, fr, nm, vl⟩; rw [textCh_4 _ rfl]; simp [kindL])
    have n1 : ¬ 9223372036854775807 < 6 + hd.size := by omega
    have n2 : ¬ 9223372036854775807 < 6 + hd.size + u1.size := by omega
    have n3 : ¬ 9223372036854775807 < 6 + hd.size + u1.size + 1 := by omega
    have n4 : ¬ 9223372036854775807 < 6 + hd.size + u1.size + 1 + nm.size := by omega
    go_wp2_with fail
    refine wp_region_held_drew (S := fun W' => KeptC w w.heap.size [.int .i64 ac, .int .i64 ar, .int .i64 sq, .slice a1 ds.length c1, .int .i64 4, .int .i64 nc, .int .i64 nr, .int .i64 pc, .int .i64 pr, .int .i64 fc, .int .i64 fr, .string nm, .string vl] W') (by kernel_rfl) K4.drew (fun hHeld => ?_)
    refine wpAnyH_take (i := 0) (oi := ⟨some 86, _, _, _, _, _⟩) (v := ?vr40) rfl (by kernel_rfl) (by kernel_rfl) (by kernel_rfl) (fun _ _ _ h => h) (Or.inl ⟨by rfl, ?hyr40⟩) hHeld ?restr40
    case hyr40 => (intro w hSw; (try dsimp only at hSw); have hc0 := hSw.1 0 _ rfl; have hc1 := hSw.1 1 _ rfl; have hc2 := hSw.1 2 _ rfl; have hc3 := hSw.1 3 _ rfl; have hc4 := hSw.1 4 _ rfl; have hc5 := hSw.1 5 _ rfl; have hc6 := hSw.1 6 _ rfl; have hc7 := hSw.1 7 _ rfl; have hc8 := hSw.1 8 _ rfl; have hc9 := hSw.1 9 _ rfl; have hc10 := hSw.1 10 _ rfl; have hc11 := hSw.1 11 _ rfl; have hc12 := hSw.1 12 _ rfl; go_simp; try with_reducible rfl)
    simp only [Act.put, List.setIfInBounds_toArray, List.set_cons_zero, List.set_cons_succ]
    refine wpAnyH_take (i := 1) (oi := ⟨some 87, _, _, _, _, _⟩) (v := ?vr41) rfl (by kernel_rfl) (by kernel_rfl) (by kernel_rfl) (fun _ _ _ h => h) (Or.inl ⟨by rfl, ?hyr41⟩) hHeld ?restr41
    case hyr41 => (intro w hSw; (try dsimp only at hSw); have hc0 := hSw.1 0 _ rfl; have hc1 := hSw.1 1 _ rfl; have hc2 := hSw.1 2 _ rfl; have hc3 := hSw.1 3 _ rfl; have hc4 := hSw.1 4 _ rfl; have hc5 := hSw.1 5 _ rfl; have hc6 := hSw.1 6 _ rfl; have hc7 := hSw.1 7 _ rfl; have hc8 := hSw.1 8 _ rfl; have hc9 := hSw.1 9 _ rfl; have hc10 := hSw.1 10 _ rfl; have hc11 := hSw.1 11 _ rfl; have hc12 := hSw.1 12 _ rfl; go_simp; try with_reducible rfl)
    simp only [Act.put, List.setIfInBounds_toArray, List.set_cons_zero, List.set_cons_succ]
    refine wpAnyH_take (i := 2) (oi := ⟨some 88, _, _, _, _, _⟩) (v := ?vr42) rfl (by kernel_rfl) (by kernel_rfl) (by kernel_rfl) (fun _ _ _ h => h) (Or.inl ⟨by rfl, ?hyr42⟩) hHeld ?restr42
    case hyr42 => (intro w hSw; (try dsimp only at hSw); have hc0 := hSw.1 0 _ rfl; have hc1 := hSw.1 1 _ rfl; have hc2 := hSw.1 2 _ rfl; have hc3 := hSw.1 3 _ rfl; have hc4 := hSw.1 4 _ rfl; have hc5 := hSw.1 5 _ rfl; have hc6 := hSw.1 6 _ rfl; have hc7 := hSw.1 7 _ rfl; have hc8 := hSw.1 8 _ rfl; have hc9 := hSw.1 9 _ rfl; have hc10 := hSw.1 10 _ rfl; have hc11 := hSw.1 11 _ rfl; have hc12 := hSw.1 12 _ rfl; go_simp; try with_reducible rfl)
    simp only [Act.put, List.setIfInBounds_toArray, List.set_cons_zero, List.set_cons_succ]
    refine wpAnyH_take (i := 3) (oi := ⟨some 89, _, _, _, _, _⟩) (v := ?vr43) rfl (by kernel_rfl) (by kernel_rfl) (by kernel_rfl) (fun _ _ _ h => h) (Or.inl ⟨by rfl, ?hyr43⟩) hHeld ?restr43
    case hyr43 => (intro w hSw; (try dsimp only at hSw); have hc0 := hSw.1 0 _ rfl; have hc1 := hSw.1 1 _ rfl; have hc2 := hSw.1 2 _ rfl; have hc3 := hSw.1 3 _ rfl; have hc4 := hSw.1 4 _ rfl; have hc5 := hSw.1 5 _ rfl; have hc6 := hSw.1 6 _ rfl; have hc7 := hSw.1 7 _ rfl; have hc8 := hSw.1 8 _ rfl; have hc9 := hSw.1 9 _ rfl; have hc10 := hSw.1 10 _ rfl; have hc11 := hSw.1 11 _ rfl; have hc12 := hSw.1 12 _ rfl; go_simp; try with_reducible rfl)
    simp only [Act.put, List.setIfInBounds_toArray, List.set_cons_zero, List.set_cons_succ]
    refine wpAnyH_take (i := 7) (oi := ⟨some 93, _, _, _, _, _⟩) (v := ?vr47) rfl (by kernel_rfl) (by kernel_rfl) (by kernel_rfl) (fun _ _ _ h => h) (Or.inl ⟨by rfl, ?hyr47⟩) hHeld ?restr47
    case hyr47 => (intro w hSw; (try dsimp only at hSw); have hc0 := hSw.1 0 _ rfl; have hc1 := hSw.1 1 _ rfl; have hc2 := hSw.1 2 _ rfl; have hc3 := hSw.1 3 _ rfl; have hc4 := hSw.1 4 _ rfl; have hc5 := hSw.1 5 _ rfl; have hc6 := hSw.1 6 _ rfl; have hc7 := hSw.1 7 _ rfl; have hc8 := hSw.1 8 _ rfl; have hc9 := hSw.1 9 _ rfl; have hc10 := hSw.1 10 _ rfl; have hc11 := hSw.1 11 _ rfl; have hc12 := hSw.1 12 _ rfl; go_simp; try with_reducible rfl)
    simp only [Act.put, List.setIfInBounds_toArray, List.set_cons_zero, List.set_cons_succ]
    refine wpAnyH_take (i := 8) (oi := ⟨some 94, _, _, _, _, _⟩) (v := ?vr48) rfl (by kernel_rfl) (by kernel_rfl) (by kernel_rfl) (fun _ _ _ h => h) (Or.inl ⟨by rfl, ?hyr48⟩) hHeld ?restr48
    case hyr48 => (intro w hSw; (try dsimp only at hSw); have hc0 := hSw.1 0 _ rfl; have hc1 := hSw.1 1 _ rfl; have hc2 := hSw.1 2 _ rfl; have hc3 := hSw.1 3 _ rfl; have hc4 := hSw.1 4 _ rfl; have hc5 := hSw.1 5 _ rfl; have hc6 := hSw.1 6 _ rfl; have hc7 := hSw.1 7 _ rfl; have hc8 := hSw.1 8 _ rfl; have hc9 := hSw.1 9 _ rfl; have hc10 := hSw.1 10 _ rfl; have hc11 := hSw.1 11 _ rfl; have hc12 := hSw.1 12 _ rfl; go_simp; try with_reducible rfl)
    simp only [Act.put, List.setIfInBounds_toArray, List.set_cons_zero, List.set_cons_succ]
    refine wpAnyH_ready (rs := [4]) (by kernel_rfl) (by simp) ?_
    refine AllReadyH.cons (o := ⟨some 90, _, _, _, _, _⟩) rfl (fun K hK => ?_) AllReadyH.nil
    go_simp
    refine (Hu1.out _).mono ?_
    rintro e w10 ⟨rfl, hb⟩
    (try go_wp2_with fail)
    refine hK.out _ _ (hHeld.step hb) (fun hHeld2 => ?_)
    clear hK K hHeld
    have hHeld := hHeld2
    clear hHeld2
    (try simp only [Act.put, List.setIfInBounds_toArray, List.set_cons_zero, List.set_cons_succ])
    refine wpAnyH_take (i := 5) (oi := ⟨some 91, _, _, _, _, _⟩) (v := ?vr45) rfl (by kernel_rfl) (by kernel_rfl) (by kernel_rfl) (fun _ _ _ h => h) (Or.inl ⟨by rfl, ?hyr45⟩) hHeld ?restr45
    case hyr45 => (intro w hSw; (try dsimp only at hSw); have hc0 := hSw.1 0 _ rfl; have hc1 := hSw.1 1 _ rfl; have hc2 := hSw.1 2 _ rfl; have hc3 := hSw.1 3 _ rfl; have hc4 := hSw.1 4 _ rfl; have hc5 := hSw.1 5 _ rfl; have hc6 := hSw.1 6 _ rfl; have hc7 := hSw.1 7 _ rfl; have hc8 := hSw.1 8 _ rfl; have hc9 := hSw.1 9 _ rfl; have hc10 := hSw.1 10 _ rfl; have hc11 := hSw.1 11 _ rfl; have hc12 := hSw.1 12 _ rfl; go_simp; try with_reducible rfl)
    simp only [Act.put, List.setIfInBounds_toArray, List.set_cons_zero, List.set_cons_succ]
    refine wpAnyH_take (i := 6) (oi := ⟨some 92, _, _, _, _, _⟩) (v := ?vr46) rfl (by kernel_rfl) (by kernel_rfl) (by kernel_rfl) (fun _ _ _ h => h) (Or.inl ⟨by rfl, ?hyr46⟩) hHeld ?restr46
    case hyr46 => (intro w hSw; (try dsimp only at hSw); have hc0 := hSw.1 0 _ rfl; have hc1 := hSw.1 1 _ rfl; have hc2 := hSw.1 2 _ rfl; have hc3 := hSw.1 3 _ rfl; have hc4 := hSw.1 4 _ rfl; have hc5 := hSw.1 5 _ rfl; have hc6 := hSw.1 6 _ rfl; have hc7 := hSw.1 7 _ rfl; have hc8 := hSw.1 8 _ rfl; have hc9 := hSw.1 9 _ rfl; have hc10 := hSw.1 10 _ rfl; have hc11 := hSw.1 11 _ rfl; have hc12 := hSw.1 12 _ rfl; go_simp; try with_reducible rfl)
    simp only [Act.put, List.setIfInBounds_toArray, List.set_cons_zero, List.set_cons_succ]
    refine wpAnyH_take (i := 9) (oi := ⟨some 95, _, _, _, _, _⟩) (v := ?vr49) rfl (by kernel_rfl) (by kernel_rfl) (by kernel_rfl) (fun _ _ _ h => h) (Or.inl ⟨by rfl, ?hyr49⟩) hHeld ?restr49
    case hyr49 => (intro w hSw; (try dsimp only at hSw); have hc0 := hSw.1 0 _ rfl; have hc1 := hSw.1 1 _ rfl; have hc2 := hSw.1 2 _ rfl; have hc3 := hSw.1 3 _ rfl; have hc4 := hSw.1 4 _ rfl; have hc5 := hSw.1 5 _ rfl; have hc6 := hSw.1 6 _ rfl; have hc7 := hSw.1 7 _ rfl; have hc8 := hSw.1 8 _ rfl; have hc9 := hSw.1 9 _ rfl; have hc10 := hSw.1 10 _ rfl; have hc11 := hSw.1 11 _ rfl; have hc12 := hSw.1 12 _ rfl; go_simp; try with_reducible rfl)
    simp only [Act.put, List.setIfInBounds_toArray, List.set_cons_zero, List.set_cons_succ]
    refine wpAnyH_take (i := 10) (oi := ⟨some 2, _, _, _, _, _⟩) (v := ?vr410) rfl (by kernel_rfl) (by kernel_rfl) (by kernel_rfl) (fun _ _ _ h => h) (Or.inl ⟨by rfl, ?hyr410⟩) hHeld ?restr410
    case hyr410 => (intro w hSw; (try dsimp only at hSw); have hc0 := hSw.1 0 _ rfl; have hc1 := hSw.1 1 _ rfl; have hc2 := hSw.1 2 _ rfl; have hc3 := hSw.1 3 _ rfl; have hc4 := hSw.1 4 _ rfl; have hc5 := hSw.1 5 _ rfl; have hc6 := hSw.1 6 _ rfl; have hc7 := hSw.1 7 _ rfl; have hc8 := hSw.1 8 _ rfl; have hc9 := hSw.1 9 _ rfl; have hc10 := hSw.1 10 _ rfl; have hc11 := hSw.1 11 _ rfl; have hc12 := hSw.1 12 _ rfl; go_simp; try with_reducible rfl)
    simp only [Act.put, List.setIfInBounds_toArray, List.set_cons_zero, List.set_cons_succ]
    refine wpAnyH_take (i := 11) (oi := ⟨some 3, _, _, _, _, _⟩) (v := ?vr411) rfl (by kernel_rfl) (by kernel_rfl) (by kernel_rfl) (fun _ _ _ h => h) (Or.inl ⟨by rfl, ?hyr411⟩) hHeld ?restr411
    case hyr411 => (intro w hSw; (try dsimp only at hSw); have hc0 := hSw.1 0 _ rfl; have hc1 := hSw.1 1 _ rfl; have hc2 := hSw.1 2 _ rfl; have hc3 := hSw.1 3 _ rfl; have hc4 := hSw.1 4 _ rfl; have hc5 := hSw.1 5 _ rfl; have hc6 := hSw.1 6 _ rfl; have hc7 := hSw.1 7 _ rfl; have hc8 := hSw.1 8 _ rfl; have hc9 := hSw.1 9 _ rfl; have hc10 := hSw.1 10 _ rfl; have hc11 := hSw.1 11 _ rfl; have hc12 := hSw.1 12 _ rfl; go_simp; try with_reducible rfl)
    simp only [Act.put, List.setIfInBounds_toArray, List.set_cons_zero, List.set_cons_succ]
    refine wpAnyH_done (by kernel_rfl) ?_ _
    have bz := hHeld.2.2
    clear hHeld
    go_wp2
    go_ret2
    exact ⟨ret_siT HF.out, bz⟩
  · obtain ⟨u1, eu1⟩ : ∃ u : ByteArray, u = txt (textL nc nr) := ⟨_, rfl⟩
    have Hu1 : Hid (∀ W, Calls Tryz.prog 63 #[.agg #[.int .i64 nc, .int .i64 nr]] W fun e w' => e = .returned (.string u1) ∧ Below W.heap.size W w') := fun W => by rw [eu1]; exact refStamp_any nc nr W
    have zu1 : u1.size ≤ 43 := by rw [eu1]; show (textL _ _).toArray.size ≤ _; rw [List.size_toArray]; exact textL_len _ _
    have Eu1 : Hid (u1.data.toList = textL nc nr) := by show _ = _; rw [eu1]; simp [txt]
    clear eu1
    obtain ⟨u2, eu2⟩ : ∃ u : ByteArray, u = txt (quoteL vl.data.toList) := ⟨_, rfl⟩
    have Hu2 : Hid (∀ W, Calls Tryz.prog 26 #[.string vl] W fun e w' => e = .returned (.string u2) ∧ Below W.heap.size W w') := fun W => by rw [eu2]; exact refQuote_any vl (by omega) W
    have zu2 : u2.size ≤ 771 := by rw [eu2]; show (quoteL _).toArray.size ≤ _; rw [List.size_toArray, quoteL_len]; have := (bodyL_len vl.data.toList).2; rw [size_list] at this; omega
    have Eu2 : Hid (u2.data.toList = quoteL vl.data.toList) := by show _ = _; rw [eu2]; simp [txt]
    clear eu2
    have HF : Hid ((((((⟨#[116, 101, 120, 116, 32]⟩ : ByteArray) ++ hd) ++ u1) ++ (⟨#[32]⟩ : ByteArray)) ++ u2) = txt (textCh ⟨ac, ar, sq, ds, 5, nc, nr, pc, pr, fc, fr, nm, vl⟩)) := bytes_ext (by simp only [bytes_app, Ehd.out, Eu1.out, Eu2.out]; show _ = textCh ⟨ac, ar, sq, ds, 5, nc, nr, pc, pr, fc, fr, nm, vl⟩; rw [textCh_5 _ rfl]; simp [kindL])
    have n1 : ¬ 9223372036854775807 < 5 + hd.size := by omega
    have n2 : ¬ 9223372036854775807 < 5 + hd.size + u1.size := by omega
    have n3 : ¬ 9223372036854775807 < 5 + hd.size + u1.size + 1 := by omega
    have n4 : ¬ 9223372036854775807 < 5 + hd.size + u1.size + 1 + u2.size := by omega
    go_wp2_with fail
    refine wp_region_held_drew (S := fun W' => KeptC w w.heap.size [.int .i64 ac, .int .i64 ar, .int .i64 sq, .slice a1 ds.length c1, .int .i64 5, .int .i64 nc, .int .i64 nr, .int .i64 pc, .int .i64 pr, .int .i64 fc, .int .i64 fr, .string nm, .string vl] W') (by kernel_rfl) K4.drew (fun hHeld => ?_)
    refine wpAnyH_take (i := 0) (oi := ⟨some 96, _, _, _, _, _⟩) (v := ?vr50) rfl (by kernel_rfl) (by kernel_rfl) (by kernel_rfl) (fun _ _ _ h => h) (Or.inl ⟨by rfl, ?hyr50⟩) hHeld ?restr50
    case hyr50 => (intro w hSw; (try dsimp only at hSw); have hc0 := hSw.1 0 _ rfl; have hc1 := hSw.1 1 _ rfl; have hc2 := hSw.1 2 _ rfl; have hc3 := hSw.1 3 _ rfl; have hc4 := hSw.1 4 _ rfl; have hc5 := hSw.1 5 _ rfl; have hc6 := hSw.1 6 _ rfl; have hc7 := hSw.1 7 _ rfl; have hc8 := hSw.1 8 _ rfl; have hc9 := hSw.1 9 _ rfl; have hc10 := hSw.1 10 _ rfl; have hc11 := hSw.1 11 _ rfl; have hc12 := hSw.1 12 _ rfl; go_simp; try with_reducible rfl)
    simp only [Act.put, List.setIfInBounds_toArray, List.set_cons_zero, List.set_cons_succ]
    refine wpAnyH_take (i := 1) (oi := ⟨some 97, _, _, _, _, _⟩) (v := ?vr51) rfl (by kernel_rfl) (by kernel_rfl) (by kernel_rfl) (fun _ _ _ h => h) (Or.inl ⟨by rfl, ?hyr51⟩) hHeld ?restr51
    case hyr51 => (intro w hSw; (try dsimp only at hSw); have hc0 := hSw.1 0 _ rfl; have hc1 := hSw.1 1 _ rfl; have hc2 := hSw.1 2 _ rfl; have hc3 := hSw.1 3 _ rfl; have hc4 := hSw.1 4 _ rfl; have hc5 := hSw.1 5 _ rfl; have hc6 := hSw.1 6 _ rfl; have hc7 := hSw.1 7 _ rfl; have hc8 := hSw.1 8 _ rfl; have hc9 := hSw.1 9 _ rfl; have hc10 := hSw.1 10 _ rfl; have hc11 := hSw.1 11 _ rfl; have hc12 := hSw.1 12 _ rfl; go_simp; try with_reducible rfl)
    simp only [Act.put, List.setIfInBounds_toArray, List.set_cons_zero, List.set_cons_succ]
    refine wpAnyH_take (i := 2) (oi := ⟨some 98, _, _, _, _, _⟩) (v := ?vr52) rfl (by kernel_rfl) (by kernel_rfl) (by kernel_rfl) (fun _ _ _ h => h) (Or.inl ⟨by rfl, ?hyr52⟩) hHeld ?restr52
    case hyr52 => (intro w hSw; (try dsimp only at hSw); have hc0 := hSw.1 0 _ rfl; have hc1 := hSw.1 1 _ rfl; have hc2 := hSw.1 2 _ rfl; have hc3 := hSw.1 3 _ rfl; have hc4 := hSw.1 4 _ rfl; have hc5 := hSw.1 5 _ rfl; have hc6 := hSw.1 6 _ rfl; have hc7 := hSw.1 7 _ rfl; have hc8 := hSw.1 8 _ rfl; have hc9 := hSw.1 9 _ rfl; have hc10 := hSw.1 10 _ rfl; have hc11 := hSw.1 11 _ rfl; have hc12 := hSw.1 12 _ rfl; go_simp; try with_reducible rfl)
    simp only [Act.put, List.setIfInBounds_toArray, List.set_cons_zero, List.set_cons_succ]
    refine wpAnyH_take (i := 3) (oi := ⟨some 99, _, _, _, _, _⟩) (v := ?vr53) rfl (by kernel_rfl) (by kernel_rfl) (by kernel_rfl) (fun _ _ _ h => h) (Or.inl ⟨by rfl, ?hyr53⟩) hHeld ?restr53
    case hyr53 => (intro w hSw; (try dsimp only at hSw); have hc0 := hSw.1 0 _ rfl; have hc1 := hSw.1 1 _ rfl; have hc2 := hSw.1 2 _ rfl; have hc3 := hSw.1 3 _ rfl; have hc4 := hSw.1 4 _ rfl; have hc5 := hSw.1 5 _ rfl; have hc6 := hSw.1 6 _ rfl; have hc7 := hSw.1 7 _ rfl; have hc8 := hSw.1 8 _ rfl; have hc9 := hSw.1 9 _ rfl; have hc10 := hSw.1 10 _ rfl; have hc11 := hSw.1 11 _ rfl; have hc12 := hSw.1 12 _ rfl; go_simp; try with_reducible rfl)
    simp only [Act.put, List.setIfInBounds_toArray, List.set_cons_zero, List.set_cons_succ]
    refine wpAnyH_take (i := 7) (oi := ⟨some 103, _, _, _, _, _⟩) (v := ?vr57) rfl (by kernel_rfl) (by kernel_rfl) (by kernel_rfl) (fun _ _ _ h => h) (Or.inl ⟨by rfl, ?hyr57⟩) hHeld ?restr57
    case hyr57 => (intro w hSw; (try dsimp only at hSw); have hc0 := hSw.1 0 _ rfl; have hc1 := hSw.1 1 _ rfl; have hc2 := hSw.1 2 _ rfl; have hc3 := hSw.1 3 _ rfl; have hc4 := hSw.1 4 _ rfl; have hc5 := hSw.1 5 _ rfl; have hc6 := hSw.1 6 _ rfl; have hc7 := hSw.1 7 _ rfl; have hc8 := hSw.1 8 _ rfl; have hc9 := hSw.1 9 _ rfl; have hc10 := hSw.1 10 _ rfl; have hc11 := hSw.1 11 _ rfl; have hc12 := hSw.1 12 _ rfl; go_simp; try with_reducible rfl)
    simp only [Act.put, List.setIfInBounds_toArray, List.set_cons_zero, List.set_cons_succ]
    refine wpAnyH_take (i := 8) (oi := ⟨some 104, _, _, _, _, _⟩) (v := ?vr58) rfl (by kernel_rfl) (by kernel_rfl) (by kernel_rfl) (fun _ _ _ h => h) (Or.inl ⟨by rfl, ?hyr58⟩) hHeld ?restr58
    case hyr58 => (intro w hSw; (try dsimp only at hSw); have hc0 := hSw.1 0 _ rfl; have hc1 := hSw.1 1 _ rfl; have hc2 := hSw.1 2 _ rfl; have hc3 := hSw.1 3 _ rfl; have hc4 := hSw.1 4 _ rfl; have hc5 := hSw.1 5 _ rfl; have hc6 := hSw.1 6 _ rfl; have hc7 := hSw.1 7 _ rfl; have hc8 := hSw.1 8 _ rfl; have hc9 := hSw.1 9 _ rfl; have hc10 := hSw.1 10 _ rfl; have hc11 := hSw.1 11 _ rfl; have hc12 := hSw.1 12 _ rfl; go_simp; try with_reducible rfl)
    simp only [Act.put, List.setIfInBounds_toArray, List.set_cons_zero, List.set_cons_succ]
    refine wpAnyH_ready (rs := [4]) (by kernel_rfl) (by simp) ?_
    refine AllReadyH.cons (o := ⟨some 100, _, _, _, _, _⟩) rfl (fun K hK => ?_) AllReadyH.nil
    go_simp
    refine (Hu1.out _).mono ?_
    rintro e w10 ⟨rfl, hb⟩
    (try go_wp2_with fail)
    refine hK.out _ _ (hHeld.step hb) (fun hHeld2 => ?_)
    clear hK K hHeld
    have hHeld := hHeld2
    clear hHeld2
    (try simp only [Act.put, List.setIfInBounds_toArray, List.set_cons_zero, List.set_cons_succ])
    refine wpAnyH_take (i := 5) (oi := ⟨some 101, _, _, _, _, _⟩) (v := ?vr55) rfl (by kernel_rfl) (by kernel_rfl) (by kernel_rfl) (fun _ _ _ h => h) (Or.inl ⟨by rfl, ?hyr55⟩) hHeld ?restr55
    case hyr55 => (intro w hSw; (try dsimp only at hSw); have hc0 := hSw.1 0 _ rfl; have hc1 := hSw.1 1 _ rfl; have hc2 := hSw.1 2 _ rfl; have hc3 := hSw.1 3 _ rfl; have hc4 := hSw.1 4 _ rfl; have hc5 := hSw.1 5 _ rfl; have hc6 := hSw.1 6 _ rfl; have hc7 := hSw.1 7 _ rfl; have hc8 := hSw.1 8 _ rfl; have hc9 := hSw.1 9 _ rfl; have hc10 := hSw.1 10 _ rfl; have hc11 := hSw.1 11 _ rfl; have hc12 := hSw.1 12 _ rfl; go_simp; try with_reducible rfl)
    simp only [Act.put, List.setIfInBounds_toArray, List.set_cons_zero, List.set_cons_succ]
    refine wpAnyH_take (i := 6) (oi := ⟨some 102, _, _, _, _, _⟩) (v := ?vr56) rfl (by kernel_rfl) (by kernel_rfl) (by kernel_rfl) (fun _ _ _ h => h) (Or.inl ⟨by rfl, ?hyr56⟩) hHeld ?restr56
    case hyr56 => (intro w hSw; (try dsimp only at hSw); have hc0 := hSw.1 0 _ rfl; have hc1 := hSw.1 1 _ rfl; have hc2 := hSw.1 2 _ rfl; have hc3 := hSw.1 3 _ rfl; have hc4 := hSw.1 4 _ rfl; have hc5 := hSw.1 5 _ rfl; have hc6 := hSw.1 6 _ rfl; have hc7 := hSw.1 7 _ rfl; have hc8 := hSw.1 8 _ rfl; have hc9 := hSw.1 9 _ rfl; have hc10 := hSw.1 10 _ rfl; have hc11 := hSw.1 11 _ rfl; have hc12 := hSw.1 12 _ rfl; go_simp; try with_reducible rfl)
    simp only [Act.put, List.setIfInBounds_toArray, List.set_cons_zero, List.set_cons_succ]
    refine wpAnyH_ready (rs := [9]) (by kernel_rfl) (by simp) ?_
    refine AllReadyH.cons (o := ⟨some 105, _, _, _, _, _⟩) rfl (fun K hK => ?_) AllReadyH.nil
    go_simp
    refine (Hu2.out _).mono ?_
    rintro e w11 ⟨rfl, hb⟩
    (try go_wp2_with fail)
    refine hK.out _ _ (hHeld.step hb) (fun hHeld2 => ?_)
    clear hK K hHeld
    have hHeld := hHeld2
    clear hHeld2
    (try simp only [Act.put, List.setIfInBounds_toArray, List.set_cons_zero, List.set_cons_succ])
    refine wpAnyH_take (i := 10) (oi := ⟨some 106, _, _, _, _, _⟩) (v := ?vr510) rfl (by kernel_rfl) (by kernel_rfl) (by kernel_rfl) (fun _ _ _ h => h) (Or.inl ⟨by rfl, ?hyr510⟩) hHeld ?restr510
    case hyr510 => (intro w hSw; (try dsimp only at hSw); have hc0 := hSw.1 0 _ rfl; have hc1 := hSw.1 1 _ rfl; have hc2 := hSw.1 2 _ rfl; have hc3 := hSw.1 3 _ rfl; have hc4 := hSw.1 4 _ rfl; have hc5 := hSw.1 5 _ rfl; have hc6 := hSw.1 6 _ rfl; have hc7 := hSw.1 7 _ rfl; have hc8 := hSw.1 8 _ rfl; have hc9 := hSw.1 9 _ rfl; have hc10 := hSw.1 10 _ rfl; have hc11 := hSw.1 11 _ rfl; have hc12 := hSw.1 12 _ rfl; go_simp; try with_reducible rfl)
    simp only [Act.put, List.setIfInBounds_toArray, List.set_cons_zero, List.set_cons_succ]
    refine wpAnyH_take (i := 11) (oi := ⟨some 2, _, _, _, _, _⟩) (v := ?vr511) rfl (by kernel_rfl) (by kernel_rfl) (by kernel_rfl) (fun _ _ _ h => h) (Or.inl ⟨by rfl, ?hyr511⟩) hHeld ?restr511
    case hyr511 => (intro w hSw; (try dsimp only at hSw); have hc0 := hSw.1 0 _ rfl; have hc1 := hSw.1 1 _ rfl; have hc2 := hSw.1 2 _ rfl; have hc3 := hSw.1 3 _ rfl; have hc4 := hSw.1 4 _ rfl; have hc5 := hSw.1 5 _ rfl; have hc6 := hSw.1 6 _ rfl; have hc7 := hSw.1 7 _ rfl; have hc8 := hSw.1 8 _ rfl; have hc9 := hSw.1 9 _ rfl; have hc10 := hSw.1 10 _ rfl; have hc11 := hSw.1 11 _ rfl; have hc12 := hSw.1 12 _ rfl; go_simp; try with_reducible rfl)
    simp only [Act.put, List.setIfInBounds_toArray, List.set_cons_zero, List.set_cons_succ]
    refine wpAnyH_take (i := 12) (oi := ⟨some 3, _, _, _, _, _⟩) (v := ?vr512) rfl (by kernel_rfl) (by kernel_rfl) (by kernel_rfl) (fun _ _ _ h => h) (Or.inl ⟨by rfl, ?hyr512⟩) hHeld ?restr512
    case hyr512 => (intro w hSw; (try dsimp only at hSw); have hc0 := hSw.1 0 _ rfl; have hc1 := hSw.1 1 _ rfl; have hc2 := hSw.1 2 _ rfl; have hc3 := hSw.1 3 _ rfl; have hc4 := hSw.1 4 _ rfl; have hc5 := hSw.1 5 _ rfl; have hc6 := hSw.1 6 _ rfl; have hc7 := hSw.1 7 _ rfl; have hc8 := hSw.1 8 _ rfl; have hc9 := hSw.1 9 _ rfl; have hc10 := hSw.1 10 _ rfl; have hc11 := hSw.1 11 _ rfl; have hc12 := hSw.1 12 _ rfl; go_simp; try with_reducible rfl)
    simp only [Act.put, List.setIfInBounds_toArray, List.set_cons_zero, List.set_cons_succ]
    refine wpAnyH_done (by kernel_rfl) ?_ _
    have bz := hHeld.2.2
    clear hHeld
    go_wp2
    go_ret2
    exact ⟨ret_siT HF.out, bz⟩

end Go.Proofs.YtaocjmipjibiaaaGreatDoor
