/- CausalNil is true of every input. -/
import Derived.Test.YtkppjlnhdmbaiabCaQ
namespace Go.Proofs.Ytkppjlnhdmbaiab
open Go.RowKit
set_option linter.unusedVariables false
set_option linter.unusedSimpArgs false

theorem isH_nil (w : World) (a : Option Addr) (c : Nat) : IsH w (.slice a 0 c) [] := ⟨a, c, rfl, Nat.zero_le _, by simp, .inl rfl⟩

set_option maxRecDepth 100000 in
set_option maxHeartbeats 4000000 in
theorem told0 (w : World) : Calls Try.prog 7 #[.pointer none, .agg #[.int .i64 0, .slice none 0 0]] w fun e w' => e = .returned (.bool true) ∧ Below w.heap.size w w' := by
  have HV : Hid (∀ W, BufH (fun _ => False) W (.pointer none) 0 []) := fun W => ⟨[], .inr ⟨rfl, rfl, rfl, fun k h => h.elim⟩, List.Perm.refl _, List.Pairwise.nil⟩
  obtain ⟨W0, eW⟩ : ∃ X, X = w.alloc (.cells #[.int .i64 0, .slice none 0 0] 30) := ⟨_, rfl⟩
  have HK : Hid (W0.heap[w.heap.size]? = some (.cells #[.int .i64 0, .slice none 0 0] 30)) := by rw [eW]; exact heap_alloc_new _ _
  have hb0 : Below w.heap.size w W0 := by rw [eW]; exact (Below.refl _ _).alloc (Nat.le_refl _) _
  have HB : Hid (BelW w W0) := hb0
  clear hb0
  go_enter Try.func7, Try.ntmps7
  go_wp2
  rw [← eW]
  clear eW
  refine wp_region_held_drew (S := fun W' => W'.heap[w.heap.size]? = some (.cells #[.int .i64 0, .slice none 0 0] 30)) (by kernel_rfl) HK.out (fun hHeld => ?_)
  obtain ⟨Ut3u0, eW⟩ : ∃ X, X = W0.drew := ⟨_, rfl⟩
  have hb : Below W0.heap.size W0 Ut3u0 := by rw [eW]; exact (Below.refl _ _).drew
  replace HB : Hid (BelW w Ut3u0) := HB.out.below hb
  rw [← eW] at hHeld ⊢
  clear eW hb
  refine wpAnyH_take (i := 0) (oi := ⟨some 5, _, _, _, _, _⟩) (v := ?vt3ux0) rfl (by kernel_rfl) (by kernel_rfl) (by kernel_rfl) (fun _ _ _ h => h) (Or.inl ⟨by rfl, ?hyt3ux0⟩) hHeld ?restt3ux0
  case hyt3ux0 => (intro w _; go_simp; try with_reducible rfl)
  simp only [Act.put, List.setIfInBounds_toArray, List.set_cons_zero, List.set_cons_succ]
  refine wpAnyH_take (i := 2) (oi := ⟨some 7, _, _, _, _, _⟩) (v := ?vt3ux2) rfl (by kernel_rfl) (by kernel_rfl) (by kernel_rfl) (fun _ _ _ h => h) (Or.inl ⟨by rfl, ?hyt3ux2⟩) hHeld ?restt3ux2
  case hyt3ux2 => (intro w _; go_simp; try with_reducible rfl)
  simp only [Act.put, List.setIfInBounds_toArray, List.set_cons_zero, List.set_cons_succ]
  refine wpAnyH_take (i := 3) (oi := ⟨some 8, _, _, _, _, _⟩) (v := ?vt3ux3) rfl (by kernel_rfl) (by kernel_rfl) (by kernel_rfl) (fun _ _ _ h => h) (Or.inl ⟨by rfl, ?hyt3ux3⟩) hHeld ?restt3ux3
  case hyt3ux3 => (intro w hSw; (try dsimp only at hSw); have hk := hSw; obtain ⟨b_0, b_1⟩ := row2c hk; go_simp; try with_reducible rfl)
  simp only [Act.put, List.setIfInBounds_toArray, List.set_cons_zero, List.set_cons_succ]
  refine wpAnyH_take (i := 4) (oi := ⟨some 9, _, _, _, _, _⟩) (v := ?vt3ux4) rfl (by kernel_rfl) (by kernel_rfl) (by kernel_rfl) (fun _ _ _ h => h) (Or.inl ⟨by rfl, ?hyt3ux4⟩) hHeld ?restt3ux4
  case hyt3ux4 => (intro w hSw; (try dsimp only at hSw); have hk := hSw; obtain ⟨b_0, b_1⟩ := row2c hk; go_simp; try with_reducible rfl)
  simp only [Act.put, List.setIfInBounds_toArray, List.set_cons_zero, List.set_cons_succ]
  refine wpAnyH_ready (rs := [1]) (by kernel_rfl) (by simp) ?_
  refine AllReadyH.cons (o := ⟨some 6, _, _, _, _, _⟩) rfl (fun K hK => ?_) AllReadyH.nil
  go_simp
  refine (lenH_any (fun _ => False) _ 0 [] _ (HV.out _)).mono ?_
  rintro e Ut3u1 ⟨rfl, hb⟩
  rw [show ((([] : List Ch).length : Nat) : Int) = 0 from rfl]
  (try go_wp2_with fail)
  refine hK.out _ _ ((hb.block _ (Array.getElem?_eq_some_iff.1 hHeld).1).trans hHeld) (fun hHeld2 => ?_)
  clear hK K hHeld
  have hHeld := hHeld2
  clear hHeld2
  (try simp only [Act.put, List.setIfInBounds_toArray, List.set_cons_zero, List.set_cons_succ])
  replace HB : Hid (BelW w Ut3u1) := HB.out.below hb
  clear hb
  refine wpAnyH_take (i := 5) (oi := ⟨some 10, _, _, _, _, _⟩) (v := ?vt3u_1x5) rfl (by kernel_rfl) (by kernel_rfl) (by kernel_rfl) (fun _ _ _ h => h) (Or.inl ⟨by rfl, ?hyt3u_1x5⟩) hHeld ?restt3u_1x5
  case hyt3u_1x5 => (intro w hSw; (try dsimp only at hSw); have hk := hSw; obtain ⟨b_0, b_1⟩ := row2c hk; go_simp; try with_reducible rfl)
  simp only [Act.put, List.setIfInBounds_toArray, List.set_cons_zero, List.set_cons_succ]
  refine wpAnyH_take (i := 6) (oi := ⟨some 11, _, _, _, _, _⟩) (v := ?vt3u_1x6) rfl (by kernel_rfl) (by kernel_rfl) (by kernel_rfl) (fun _ _ _ h => h) (Or.inl ⟨by rfl, ?hyt3u_1x6⟩) hHeld ?restt3u_1x6
  case hyt3u_1x6 => (intro w _; go_simp; try with_reducible rfl)
  simp only [Act.put, List.setIfInBounds_toArray, List.set_cons_zero, List.set_cons_succ]
  refine wpAnyH_take (i := 7) (oi := ⟨some 12, _, _, _, _, _⟩) (v := ?vt3u_1x7) rfl (by kernel_rfl) (by kernel_rfl) (by kernel_rfl) (fun _ _ _ h => h) (Or.inl ⟨by rfl, ?hyt3u_1x7⟩) hHeld ?restt3u_1x7
  case hyt3u_1x7 => (intro w _; go_simp; try with_reducible rfl)
  simp only [Act.put, List.setIfInBounds_toArray, List.set_cons_zero, List.set_cons_succ]
  refine wpAnyH_take (i := 9) (oi := ⟨some 14, _, _, _, _, _⟩) (v := ?vt3u_1x9) rfl (by kernel_rfl) (by kernel_rfl) (by kernel_rfl) (fun _ _ _ h => h) (Or.inl ⟨by rfl, ?hyt3u_1x9⟩) hHeld ?restt3u_1x9
  case hyt3u_1x9 => (intro w _; go_simp; try with_reducible rfl)
  simp only [Act.put, List.setIfInBounds_toArray, List.set_cons_zero, List.set_cons_succ]
  refine wpAnyH_take (i := 10) (oi := ⟨some 15, _, _, _, _, _⟩) (v := ?vt3u_1x10) rfl (by kernel_rfl) (by kernel_rfl) (by kernel_rfl) (fun _ _ _ h => h) (Or.inl ⟨by rfl, ?hyt3u_1x10⟩) hHeld ?restt3u_1x10
  case hyt3u_1x10 => (intro w hSw; (try dsimp only at hSw); have hk := hSw; obtain ⟨b_0, b_1⟩ := row2c hk; go_simp; try with_reducible rfl)
  simp only [Act.put, List.setIfInBounds_toArray, List.set_cons_zero, List.set_cons_succ]
  refine wpAnyH_ready (rs := [8]) (by kernel_rfl) (by simp) ?_
  refine AllReadyH.cons (o := ⟨some 13, _, _, _, _, _⟩) rfl (fun K hK => ?_) AllReadyH.nil
  go_simp
  refine (room_any _ 0 [] (fun _ => False) _ (.inr ⟨rfl, rfl, rfl, fun k h => h.elim⟩)).mono ?_
  rintro e Ut3u2 ⟨rfl, hb⟩
  (try go_wp2_with fail)
  refine hK.out _ _ ((hb.block _ (Array.getElem?_eq_some_iff.1 hHeld).1).trans hHeld) (fun hHeld2 => ?_)
  clear hK K hHeld
  have hHeld := hHeld2
  clear hHeld2
  (try simp only [Act.put, List.setIfInBounds_toArray, List.set_cons_zero, List.set_cons_succ])
  replace HB : Hid (BelW w Ut3u2) := HB.out.below hb
  clear hb
  refine wpAnyH_take (i := 11) (oi := ⟨some 16, _, _, _, _, _⟩) (v := ?vt3u_1_8x11) rfl (by kernel_rfl) (by kernel_rfl) (by kernel_rfl) (fun _ _ _ h => h) (Or.inl ⟨by rfl, ?hyt3u_1_8x11⟩) hHeld ?restt3u_1_8x11
  case hyt3u_1_8x11 => (intro w hSw; (try dsimp only at hSw); have hk := hSw; obtain ⟨b_0, b_1⟩ := row2c hk; go_simp; try with_reducible rfl)
  simp only [Act.put, List.setIfInBounds_toArray, List.set_cons_zero, List.set_cons_succ]
  refine wpAnyH_take (i := 12) (oi := ⟨some 17, _, _, _, _, _⟩) (v := ?vt3u_1_8x12) rfl (by kernel_rfl) (by kernel_rfl) (by kernel_rfl) (fun _ _ _ h => h) (Or.inl ⟨by rfl, ?hyt3u_1_8x12⟩) hHeld ?restt3u_1_8x12
  case hyt3u_1_8x12 => (intro w _; go_simp; try with_reducible rfl)
  simp only [Act.put, List.setIfInBounds_toArray, List.set_cons_zero, List.set_cons_succ]
  refine wpAnyH_take (i := 13) (oi := ⟨some 18, _, _, _, _, _⟩) (v := ?vt3u_1_8x13) rfl (by kernel_rfl) (by kernel_rfl) (by kernel_rfl) (fun _ _ _ h => h) (Or.inl ⟨by rfl, ?hyt3u_1_8x13⟩) hHeld ?restt3u_1_8x13
  case hyt3u_1_8x13 => (intro w _; go_simp; try with_reducible rfl)
  simp only [Act.put, List.setIfInBounds_toArray, List.set_cons_zero, List.set_cons_succ]
  refine wpAnyH_take (i := 14) (oi := ⟨some 19, _, _, _, _, _⟩) (v := ?vt3u_1_8x14) rfl (by kernel_rfl) (by kernel_rfl) (by kernel_rfl) (fun _ _ _ h => h) (Or.inl ⟨by rfl, ?hyt3u_1_8x14⟩) hHeld ?restt3u_1_8x14
  case hyt3u_1_8x14 => (intro w _; go_simp; try with_reducible rfl)
  simp only [Act.put, List.setIfInBounds_toArray, List.set_cons_zero, List.set_cons_succ]
  refine wpAnyH_take (i := 16) (oi := ⟨some 21, _, _, _, _, _⟩) (v := ?vt3u_1_8x16) rfl (by kernel_rfl) (by kernel_rfl) (by kernel_rfl) (fun _ _ _ h => h) (Or.inl ⟨by rfl, ?hyt3u_1_8x16⟩) hHeld ?restt3u_1_8x16
  case hyt3u_1_8x16 => (intro w _; go_simp; try with_reducible rfl)
  simp only [Act.put, List.setIfInBounds_toArray, List.set_cons_zero, List.set_cons_succ]
  refine wpAnyH_take (i := 17) (oi := ⟨some 22, _, _, _, _, _⟩) (v := ?vt3u_1_8x17) rfl (by kernel_rfl) (by kernel_rfl) (by kernel_rfl) (fun _ _ _ h => h) (Or.inl ⟨by rfl, ?hyt3u_1_8x17⟩) hHeld ?restt3u_1_8x17
  case hyt3u_1_8x17 => (intro w hSw; (try dsimp only at hSw); have hk := hSw; obtain ⟨b_0, b_1⟩ := row2c hk; go_simp; try with_reducible rfl)
  simp only [Act.put, List.setIfInBounds_toArray, List.set_cons_zero, List.set_cons_succ]
  refine wpAnyH_ready (rs := [15]) (by kernel_rfl) (by simp) ?_
  refine AllReadyH.cons (o := ⟨some 20, _, _, _, _, _⟩) rfl (fun K hK => ?_) AllReadyH.nil
  go_simp
  refine (heldH_any (fun _ => False) _ 0 [] _ (HV.out _) (by decide)).mono ?_
  rintro e Ut3u3 ⟨a, c, E, rfl, _, _, hb⟩
  rw [show (([] : List Ch).length) = 0 from rfl]
  (try go_wp2_with fail)
  refine hK.out _ _ ((hb.block _ (Array.getElem?_eq_some_iff.1 hHeld).1).trans hHeld) (fun hHeld2 => ?_)
  clear hK K hHeld
  have hHeld := hHeld2
  clear hHeld2
  (try simp only [Act.put, List.setIfInBounds_toArray, List.set_cons_zero, List.set_cons_succ])
  replace HB : Hid (BelW w Ut3u3) := HB.out.below hb
  clear hb
  refine wpAnyH_ready (rs := [18]) (by kernel_rfl) (by simp) ?_
  refine AllReadyH.cons (o := ⟨some 23, _, _, _, _, _⟩) rfl (fun K hK => ?_) AllReadyH.nil
  go_simp
  refine (sameAll_eq _ _ [] _ (isH_nil _ _ _) (isH_nil _ _ _)).mono ?_
  rintro e Ut3u4 ⟨rfl, hb⟩
  (try go_wp2_with fail)
  refine hK.out _ _ ((hb.block _ (Array.getElem?_eq_some_iff.1 hHeld).1).trans hHeld) (fun hHeld2 => ?_)
  clear hK K hHeld
  have hHeld := hHeld2
  clear hHeld2
  (try simp only [Act.put, List.setIfInBounds_toArray, List.set_cons_zero, List.set_cons_succ])
  replace HB : Hid (BelW w Ut3u4) := HB.out.below hb
  clear hb
  refine wpAnyH_take (i := 19) (oi := ⟨some 24, _, _, _, _, _⟩) (v := ?vt3u_1_8_15_18x19) rfl (by kernel_rfl) (by kernel_rfl) (by kernel_rfl) (fun _ _ _ h => h) (Or.inl ⟨by rfl, ?hyt3u_1_8_15_18x19⟩) hHeld ?restt3u_1_8_15_18x19
  case hyt3u_1_8_15_18x19 => (intro w _; go_simp; try with_reducible rfl)
  simp only [Act.put, List.setIfInBounds_toArray, List.set_cons_zero, List.set_cons_succ]
  refine wpAnyH_take (i := 20) (oi := ⟨some 4, _, _, _, _, _⟩) (v := ?vt3u_1_8_15_18x20) rfl (by kernel_rfl) (by kernel_rfl) (by kernel_rfl) (fun _ _ _ h => h) (Or.inl ⟨by rfl, ?hyt3u_1_8_15_18x20⟩) hHeld ?restt3u_1_8_15_18x20
  case hyt3u_1_8_15_18x20 => (intro w _; go_simp; try with_reducible rfl)
  simp only [Act.put, List.setIfInBounds_toArray, List.set_cons_zero, List.set_cons_succ]
  refine wpAnyH_done (by kernel_rfl) ?_ _
  clear hHeld
  go_wp2
  go_ret
  exact ⟨rfl, HB.out⟩

set_option maxRecDepth 100000 in
set_option maxHeartbeats 8000000 in
theorem nilLaw (kv : Value) (kn : List Int) (ac ar sq : Int) (dv : Value) (kd nc nr pc pr fc fr : Int) (nm vl : ByteArray) (ds : List Int) (w : World) (hk : IsI w kv kn) (hd : IsI w dv ds) (hn : nm.size ≤ 281474976710656) (hv : vl.size ≤ 281474976710656) :
    Calls Try.prog 3 #[kv, .agg #[.int .i64 ac, .int .i64 ar, .int .i64 sq, dv, .int .i64 kd, .int .i64 nc, .int .i64 nr, .int .i64 pc, .int .i64 pr, .int .i64 fc, .int .i64 fr, .string nm, .string vl]] w fun e w' => e = .returned (.bool true) ∧ Below w.heap.size w w' := by
  obtain ⟨a0, c0, e0⟩ := hk.form
  subst e0
  obtain ⟨a1, c1, e1⟩ := hd.form
  subst e1
  have HIk : Hid (IsI w (.slice a0 kn.length c0) kn) := hk
  have HId : Hid (IsI w (.slice a1 ds.length c1) ds) := hd
  have HS : Hid (Sized (⟨ac, ar, sq, ds, kd, nc, nr, pc, pr, fc, fr, nm, vl⟩ : Ch)) := ⟨hn, hv⟩
  obtain ⟨W0, eW⟩ : ∃ X, X = w.alloc (.cells #[.int .i64 ac, .int .i64 ar, .int .i64 sq, .slice a1 ds.length c1, .int .i64 kd, .int .i64 nc, .int .i64 nr, .int .i64 pc, .int .i64 pr, .int .i64 fc, .int .i64 fr, .string nm, .string vl] 26) := ⟨_, rfl⟩
  have HK : Hid (KeptC w w.heap.size [.int .i64 ac, .int .i64 ar, .int .i64 sq, .slice a1 ds.length c1, .int .i64 kd, .int .i64 nc, .int .i64 nr, .int .i64 pc, .int .i64 pr, .int .i64 fc, .int .i64 fr, .string nm, .string vl] W0) := by rw [eW]; exact KeptC.start w [.int .i64 ac, .int .i64 ar, .int .i64 sq, .slice a1 ds.length c1, .int .i64 kd, .int .i64 nc, .int .i64 nr, .int .i64 pc, .int .i64 pr, .int .i64 fc, .int .i64 fr, .string nm, .string vl] 26
  clear hk hd
  go_enter Try.func3, Try.ntmps3
  go_wp2_with fail
  rw [← eW]
  clear eW
  refine (refTake0 ac ar sq (.slice a1 ds.length c1) kd nc nr pc pr fc fr nm vl ds _ kn _ (HIk.out.below HK.out.2.2) (HId.out.below HK.out.2.2) HS.out).mono ?_
  rintro e w1 ⟨a2, n2, c2, rfl, hH2, hb1⟩
  have HK1 : Hid (KeptC w w.heap.size [.int .i64 ac, .int .i64 ar, .int .i64 sq, .slice a1 ds.length c1, .int .i64 kd, .int .i64 nc, .int .i64 nr, .int .i64 pc, .int .i64 pr, .int .i64 fc, .int .i64 fr, .string nm, .string vl] w1) := HK.out.step hb1
  have HH1 : Hid (IsH w1 (.slice a2 n2 c2) (takeR 0 [] kn (⟨ac, ar, sq, ds, kd, nc, nr, pc, pr, fc, fr, nm, vl⟩ : Ch)).2.1) := hH2
  clear hH2 hb1 HK
  obtain ⟨W1, eW1⟩ : ∃ X, X = w1.alloc (.cells #[.int .i64 0, .slice none 0 0] 30) := ⟨_, rfl⟩
  have hbW1 : Below w1.heap.size w1 W1 := by rw [eW1]; exact (Below.refl _ _).alloc (Nat.le_refl _) _
  replace HK1 : Hid (KeptC w w.heap.size [.int .i64 ac, .int .i64 ar, .int .i64 sq, .slice a1 ds.length c1, .int .i64 kd, .int .i64 nc, .int .i64 nr, .int .i64 pc, .int .i64 pr, .int .i64 fc, .int .i64 fr, .string nm, .string vl] W1) := HK1.out.step hbW1
  replace HH1 : Hid (IsH W1 (.slice a2 n2 c2) (takeR 0 [] kn (⟨ac, ar, sq, ds, kd, nc, nr, pc, pr, fc, fr, nm, vl⟩ : Ch)).2.1) := HH1.out.below hbW1
  have hK1 : KeptC w w.heap.size [.int .i64 ac, .int .i64 ar, .int .i64 sq, .slice a1 ds.length c1, .int .i64 kd, .int .i64 nc, .int .i64 nr, .int .i64 pc, .int .i64 pr, .int .i64 fc, .int .i64 fr, .string nm, .string vl] (w1.alloc (.cells #[.int .i64 0, .slice none 0 0] 30)) := by rw [← eW1]; exact HK1.out
  obtain ⟨k_0, k_1, k_2, k_3, k_4, k_5, k_6, k_7, k_8, k_9, k_10, k_11, k_12⟩ := hK1.all
  clear hK1 hbW1
  go_wp2_with fail
  rw [← eW1]
  clear eW1
  refine (take_any (fun _ => False) (.pointer none) 0 [] ac ar sq (.slice a1 ds.length c1) kd nc nr pc pr fc fr nm vl ds _ kn _ ⟨[], .inr ⟨rfl, rfl, rfl, fun k h => h.elim⟩, List.Perm.refl _, List.Pairwise.nil⟩ (by decide) (HIk.out.below HK1.out.2.2) (HId.out.below HK1.out.2.2) HS.out).mono ?_
  rintro e w2 ⟨v3, E3, F3, rfl, hA3, hE3, hL3, hF3, ht3⟩
  have hb2 : Below W1.heap.size W1 w2 := ht3.below (fun k h => h.elim) (Nat.le_refl _)
  have HK2 : Hid (KeptC w w.heap.size [.int .i64 ac, .int .i64 ar, .int .i64 sq, .slice a1 ds.length c1, .int .i64 kd, .int .i64 nc, .int .i64 nr, .int .i64 pc, .int .i64 pr, .int .i64 fc, .int .i64 fr, .string nm, .string vl] w2) := HK1.out.step hb2
  have HH2 : Hid (IsH w2 (.slice a2 n2 c2) (takeR 0 [] kn (⟨ac, ar, sq, ds, kd, nc, nr, pc, pr, fc, fr, nm, vl⟩ : Ch)).2.1) := HH1.out.below hb2
  have hEl : E3.length ≤ 281474976710656 := by
    have h1 := congrArg List.length hE3
    obtain ⟨_, _, _, _, h2, _⟩ := HH1.out
    simp at h1
    omega
  have HG2 : Hid (IsH w2 v3 (takeR 0 [] kn (⟨ac, ar, sq, ds, kd, nc, nr, pc, pr, fc, fr, nm, vl⟩ : Ch)).2.1) := by
    have := hA3.isH hEl
    rw [hE3] at this
    exact this
  obtain ⟨av, cv, ev⟩ := hA3.own.form
  subst ev
  clear hA3 hE3 hL3 hF3 ht3 hb2 HK1 HH1 k_0 k_1 k_2 k_3 k_4 k_5 k_6 k_7 k_8 k_9 k_10 k_11 k_12
  generalize takeR 0 [] kn (⟨ac, ar, sq, ds, kd, nc, nr, pc, pr, fc, fr, nm, vl⟩ : Ch) = R at *
  obtain ⟨R1, R2, f⟩ := R
  simp only at HH2 HG2 ⊢
  go_wp2_with fail
  refine (sameAll_eq _ _ R2 _ HG2.out HH2.out).mono ?_
  rintro e w3 ⟨rfl, hb3⟩
  have HK3 : Hid (KeptC w w.heap.size [.int .i64 ac, .int .i64 ar, .int .i64 sq, .slice a1 ds.length c1, .int .i64 kd, .int .i64 nc, .int .i64 nr, .int .i64 pc, .int .i64 pr, .int .i64 fc, .int .i64 fr, .string nm, .string vl] w3) := HK2.out.step hb3
  clear hb3 HK2 HG2 HH2
  go_wp2_with fail
  refine (told0 _).mono ?_
  rintro e w4 ⟨rfl, hb4⟩
  have HK4 : Hid (KeptC w w.heap.size [.int .i64 ac, .int .i64 ar, .int .i64 sq, .slice a1 ds.length c1, .int .i64 kd, .int .i64 nc, .int .i64 nr, .int .i64 pc, .int .i64 pr, .int .i64 fc, .int .i64 fr, .string nm, .string vl] w4) := HK3.out.step hb4
  clear hb4 HK3
  go_wp2_with fail
  refine (stale_nil _ kn _ (HIk.out.below HK4.out.2.2)).mono ?_
  rintro e w5 ⟨rfl, hb5⟩
  have HK5 : Hid (KeptC w w.heap.size [.int .i64 ac, .int .i64 ar, .int .i64 sq, .slice a1 ds.length c1, .int .i64 kd, .int .i64 nc, .int .i64 nr, .int .i64 pc, .int .i64 pr, .int .i64 fc, .int .i64 fr, .string nm, .string vl] w5) := HK4.out.step hb5
  clear hb5 HK4
  go_wp2_with fail
  refine (clone_nil _).mono ?_
  rintro e w6 ⟨rfl, hw6⟩
  replace hw6 := hw6.symm
  subst hw6
  go_wp2_with fail
  refine (awake_any _).mono ?_
  rintro e w7 ⟨rfl, hb7⟩
  have HB7 : Hid (Below w.heap.size w w7) := HK5.out.2.2.trans (hb7.mono HK5.out.2.2.size)
  clear hb7 HK5
  go_wp2
  go_ret
  exact ⟨rfl, HB7.out⟩

end Go.Proofs.Ytkppjlnhdmbaiab
