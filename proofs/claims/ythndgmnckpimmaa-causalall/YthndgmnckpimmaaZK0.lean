/- What Ready tells, and the document's Ripe and Ready. -/
import Derived.Test.YthndgmnckpimmaaCaZ
import Derived.Test.YthndgmnckpimmaaWdC
import Derived.Test.YthndgmnckpimmaaOlCk
import Derived.Test.YthndgmnckpimmaaOlA
import Derived.Test.YthndgmnckpimmaaCkA
import Derived.Test.YthndgmnckpimmaaTk
import Derived.Test.YthndgmnckpimmaaOlB
namespace Go.Proofs.Ythndgmnckpimmaa
open Go.RowKit
set_option linter.unusedVariables false
set_option linter.unusedSimpArgs false

/-- What Ready tells. -/
def isReadyB (kn : List Int) (c : Ch) : Bool := decide (checkL kn = 0) && (decide (checkCh c = 0) && readyB kn c)

set_option maxRecDepth 100000 in
set_option maxHeartbeats 4000000 in
theorem ripe_any (ac ar sq : Int) (dv : Value) (kd nc nr pc pr fc fr : Int) (nm vl : ByteArray) (ds : List Int) (kv : Value) (kn : List Int) (w : World) (hk : IsI w kv kn) (hd : IsI w dv ds) (hko : OkC kn) (hsq : 1 ≤ sq ∧ sq ≤ 1099511627776) :
    Calls Try.prog 29 #[kv, .agg #[.int .i64 ac, .int .i64 ar, .int .i64 sq, dv, .int .i64 kd, .int .i64 nc, .int .i64 nr, .int .i64 pc, .int .i64 pr, .int .i64 fc, .int .i64 fr, .string nm, .string vl]] w fun e w' => e = .returned (.bool (readyB kn (⟨ac, ar, sq, ds, kd, nc, nr, pc, pr, fc, fr, nm, vl⟩ : Ch))) ∧ Below w.heap.size w w' := by
  obtain ⟨a0, c0, e0⟩ := hk.form
  subst e0
  obtain ⟨a1, c1, e1⟩ := hd.form
  subst e1
  have HIk : Hid (IsI w (.slice a0 kn.length c0) kn) := hk
  have HId : Hid (IsI w (.slice a1 ds.length c1) ds) := hd
  obtain ⟨W0, eW⟩ : ∃ X, X = w.alloc (.cells #[.int .i64 ac, .int .i64 ar, .int .i64 sq, .slice a1 ds.length c1, .int .i64 kd, .int .i64 nc, .int .i64 nr, .int .i64 pc, .int .i64 pr, .int .i64 fc, .int .i64 fr, .string nm, .string vl] 35) := ⟨_, rfl⟩
  have HK : Hid (KeptC w w.heap.size [.int .i64 ac, .int .i64 ar, .int .i64 sq, .slice a1 ds.length c1, .int .i64 kd, .int .i64 nc, .int .i64 nr, .int .i64 pc, .int .i64 pr, .int .i64 fc, .int .i64 fr, .string nm, .string vl] W0) := by rw [eW]; exact KeptC.start w [.int .i64 ac, .int .i64 ar, .int .i64 sq, .slice a1 ds.length c1, .int .i64 kd, .int .i64 nc, .int .i64 nr, .int .i64 pc, .int .i64 pr, .int .i64 fc, .int .i64 fr, .string nm, .string vl] 35
  clear hk hd
  have HR : Hid (readyB kn (⟨ac, ar, sq, ds, kd, nc, nr, pc, pr, fc, fr, nm, vl⟩ : Ch) = (decide (sq = atL kn ar + 1) && underB ds kn)) := rfl
  obtain ⟨n0, en⟩ : ∃ x, x = atL kn ar := ⟨_, rfl⟩
  rw [← en] at HR
  have HN0 : Hid (atL kn ar = n0) := en.symm
  clear en
  by_cases hq : sq = n0 + 1
  · subst hq
    have hwr : IntKind.i64.wrap n0 = n0 := IntWalk.i64_in _ (by omega)
    go_enter Try.func29, Try.ntmps29
    go_wp2
    rw [← eW]
    clear eW
    refine wp_region_held_drew (S := fun W' => KeptC w w.heap.size [.int .i64 ac, .int .i64 ar, .int .i64 (n0 + 1), .slice a1 ds.length c1, .int .i64 kd, .int .i64 nc, .int .i64 nr, .int .i64 pc, .int .i64 pr, .int .i64 fc, .int .i64 fr, .string nm, .string vl] W') (by kernel_rfl) HK.out.drew (fun hHeld => ?_)
    obtain ⟨Uy3u0, eW⟩ : ∃ X, X = W0.drew := ⟨_, rfl⟩
    have hb : Below W0.heap.size W0 Uy3u0 := by rw [eW]; exact (Below.refl _ _).drew
    rw [← eW] at hHeld ⊢
    clear eW hb
    refine wpAnyH_take (i := 0) (oi := ⟨some 5, _, _, _, _, _⟩) (v := ?vy3ux0) rfl (by kernel_rfl) (by kernel_rfl) (by kernel_rfl) (fun _ _ _ h => h) (Or.inl ⟨by rfl, ?hyy3ux0⟩) hHeld ?resty3ux0
    case hyy3ux0 => (intro w _; go_simp; try with_reducible rfl)
    simp only [Act.put, List.setIfInBounds_toArray, List.set_cons_zero, List.set_cons_succ]
    refine wpAnyH_take (i := 1) (oi := ⟨some 6, _, _, _, _, _⟩) (v := ?vy3ux1) rfl (by kernel_rfl) (by kernel_rfl) (by kernel_rfl) (fun _ _ _ h => h) (Or.inl ⟨by rfl, ?hyy3ux1⟩) hHeld ?resty3ux1
    case hyy3ux1 => (intro w hSw; (try dsimp only at hSw); have hk := hSw; obtain ⟨k_0, k_1, k_2, k_3, k_4, k_5, k_6, k_7, k_8, k_9, k_10, k_11, k_12⟩ := KeptC.all hk; go_simp; try with_reducible rfl)
    simp only [Act.put, List.setIfInBounds_toArray, List.set_cons_zero, List.set_cons_succ]
    refine wpAnyH_take (i := 2) (oi := ⟨some 7, _, _, _, _, _⟩) (v := ?vy3ux2) rfl (by kernel_rfl) (by kernel_rfl) (by kernel_rfl) (fun _ _ _ h => h) (Or.inl ⟨by rfl, ?hyy3ux2⟩) hHeld ?resty3ux2
    case hyy3ux2 => (intro w hSw; (try dsimp only at hSw); have hk := hSw; obtain ⟨k_0, k_1, k_2, k_3, k_4, k_5, k_6, k_7, k_8, k_9, k_10, k_11, k_12⟩ := KeptC.all hk; go_simp; try with_reducible rfl)
    simp only [Act.put, List.setIfInBounds_toArray, List.set_cons_zero, List.set_cons_succ]
    refine wpAnyH_take (i := 3) (oi := ⟨some 8, _, _, _, _, _⟩) (v := ?vy3ux3) rfl (by kernel_rfl) (by kernel_rfl) (by kernel_rfl) (fun _ _ _ h => h) (Or.inl ⟨by rfl, ?hyy3ux3⟩) hHeld ?resty3ux3
    case hyy3ux3 => (intro w _; go_simp; try with_reducible rfl)
    simp only [Act.put, List.setIfInBounds_toArray, List.set_cons_zero, List.set_cons_succ]
    refine wpAnyH_take (i := 4) (oi := ⟨some 9, _, _, _, _, _⟩) (v := ?vy3ux4) rfl (by kernel_rfl) (by kernel_rfl) (by kernel_rfl) (fun _ _ _ h => h) (Or.inl ⟨by rfl, ?hyy3ux4⟩) hHeld ?resty3ux4
    case hyy3ux4 => (intro w _; go_simp; try with_reducible rfl)
    simp only [Act.put, List.setIfInBounds_toArray, List.set_cons_zero, List.set_cons_succ]
    refine wpAnyH_take (i := 5) (oi := ⟨some 10, _, _, _, _, _⟩) (v := ?vy3ux5) rfl (by kernel_rfl) (by kernel_rfl) (by kernel_rfl) (fun _ _ _ h => h) (Or.inl ⟨by rfl, ?hyy3ux5⟩) hHeld ?resty3ux5
    case hyy3ux5 => (intro w _; go_simp; try with_reducible rfl)
    simp only [Act.put, List.setIfInBounds_toArray, List.set_cons_zero, List.set_cons_succ]
    refine wpAnyH_take (i := 6) (oi := ⟨some 11, _, _, _, _, _⟩) (v := ?vy3ux6) rfl (by kernel_rfl) (by kernel_rfl) (by kernel_rfl) (fun _ _ _ h => h) (Or.inl ⟨by rfl, ?hyy3ux6⟩) hHeld ?resty3ux6
    case hyy3ux6 => (intro w hSw; (try dsimp only at hSw); have hk := hSw; obtain ⟨k_0, k_1, k_2, k_3, k_4, k_5, k_6, k_7, k_8, k_9, k_10, k_11, k_12⟩ := KeptC.all hk; go_simp; try with_reducible rfl)
    simp only [Act.put, List.setIfInBounds_toArray, List.set_cons_zero, List.set_cons_succ]
    refine wpAnyH_ready (rs := [7]) (by kernel_rfl) (by simp) ?_
    refine AllReadyH.cons (o := ⟨some 12, _, _, _, _, _⟩) rfl (fun K hK => ?_) AllReadyH.nil
    go_simp
    refine (refAt_any _ kn ar _ (HIk.out.below hHeld.2.2)).mono ?_
    rintro e Uy3u1 ⟨rfl, hw⟩
    replace hw := hw.symm
    subst hw
    rw [HN0.out]
    (try go_wp2_with fail)
    refine hK.out _ _ (hHeld) (fun hHeld2 => ?_)
    clear hK K hHeld
    have hHeld := hHeld2
    clear hHeld2
    (try simp only [Act.put, List.setIfInBounds_toArray, List.set_cons_zero, List.set_cons_succ])
    refine wpAnyH_take (i := 8) (oi := ⟨some 13, _, _, _, _, _⟩) (v := ?vy3u_7x8) rfl (by kernel_rfl) (by kernel_rfl) (by kernel_rfl) (fun _ _ _ h => h) (Or.inl ⟨by rfl, ?hyy3u_7x8⟩) hHeld ?resty3u_7x8
    case hyy3u_7x8 => (intro w hSw; (try dsimp only at hSw); have hk := hSw; obtain ⟨k_0, k_1, k_2, k_3, k_4, k_5, k_6, k_7, k_8, k_9, k_10, k_11, k_12⟩ := KeptC.all hk; go_simp; try with_reducible rfl)
    simp only [Act.put, List.setIfInBounds_toArray, List.set_cons_zero, List.set_cons_succ]
    refine wpAnyH_take (i := 9) (oi := ⟨some 14, _, _, _, _, _⟩) (v := ?vy3u_7x9) rfl (by kernel_rfl) (by kernel_rfl) (by kernel_rfl) (fun _ _ _ h => h) (Or.inl ⟨by rfl, ?hyy3u_7x9⟩) hHeld ?resty3u_7x9
    case hyy3u_7x9 => (intro w _; go_simp; try with_reducible rfl)
    simp only [Act.put, List.setIfInBounds_toArray, List.set_cons_zero, List.set_cons_succ]
    refine wpAnyH_take (i := 10) (oi := ⟨some 15, _, _, _, _, _⟩) (v := ?vy3u_7x10) rfl (by kernel_rfl) (by kernel_rfl) (by kernel_rfl) (fun _ _ _ h => h) (Or.inl ⟨by rfl, ?hyy3u_7x10⟩) hHeld ?resty3u_7x10
    case hyy3u_7x10 => (intro w _; go_simp; try with_reducible rfl)
    simp only [Act.put, List.setIfInBounds_toArray, List.set_cons_zero, List.set_cons_succ]
    refine wpAnyH_take (i := 11) (oi := ⟨some 16, _, _, _, _, _⟩) (v := ?vy3u_7x11) rfl (by kernel_rfl) (by kernel_rfl) (by kernel_rfl) (fun _ _ _ h => h) (Or.inl ⟨by rfl, ?hyy3u_7x11⟩) hHeld ?resty3u_7x11
    case hyy3u_7x11 => (intro w hSw; (try dsimp only at hSw); have hk := hSw; obtain ⟨k_0, k_1, k_2, k_3, k_4, k_5, k_6, k_7, k_8, k_9, k_10, k_11, k_12⟩ := KeptC.all hk; go_simp; try with_reducible rfl)
    simp only [Act.put, List.setIfInBounds_toArray, List.set_cons_zero, List.set_cons_succ]
    refine wpAnyH_take (i := 12) (oi := ⟨some 17, _, _, _, _, _⟩) (v := ?vy3u_7x12) rfl (by kernel_rfl) (by kernel_rfl) (by kernel_rfl) (fun _ _ _ h => h) (Or.inl ⟨by rfl, ?hyy3u_7x12⟩) hHeld ?resty3u_7x12
    case hyy3u_7x12 => (intro w _; go_simp; try with_reducible rfl)
    simp only [Act.put, List.setIfInBounds_toArray, List.set_cons_zero, List.set_cons_succ]
    refine wpAnyH_ready (rs := [13]) (by kernel_rfl) (by simp) ?_
    refine AllReadyH.cons (o := ⟨some 18, _, _, _, _, _⟩) rfl (fun K hK => ?_) AllReadyH.nil
    go_simp
    refine (under_any _ _ ds kn _ (HId.out.below hHeld.2.2) (HIk.out.below hHeld.2.2)).mono ?_
    rintro e Uy3u2 ⟨rfl, hb⟩
    (try go_wp2_with fail)
    refine hK.out _ _ (hHeld.step hb) (fun hHeld2 => ?_)
    clear hK K hHeld
    have hHeld := hHeld2
    clear hHeld2
    (try simp only [Act.put, List.setIfInBounds_toArray, List.set_cons_zero, List.set_cons_succ])
    clear hb
    refine wpAnyH_take (i := 14) (oi := ⟨some 19, _, _, _, _, _⟩) (v := ?vy3u_7_13x14) rfl (by kernel_rfl) (by kernel_rfl) (by kernel_rfl) (fun _ _ _ h => h) (Or.inl ⟨by rfl, ?hyy3u_7_13x14⟩) hHeld ?resty3u_7_13x14
    case hyy3u_7_13x14 => (intro w _; go_simp; try with_reducible rfl)
    simp only [Act.put, List.setIfInBounds_toArray, List.set_cons_zero, List.set_cons_succ]
    refine wpAnyH_take (i := 15) (oi := ⟨some 4, _, _, _, _, _⟩) (v := ?vy3u_7_13x15) rfl (by kernel_rfl) (by kernel_rfl) (by kernel_rfl) (fun _ _ _ h => h) (Or.inl ⟨by rfl, ?hyy3u_7_13x15⟩) hHeld ?resty3u_7_13x15
    case hyy3u_7_13x15 => (intro w _; go_simp; try with_reducible rfl)
    simp only [Act.put, List.setIfInBounds_toArray, List.set_cons_zero, List.set_cons_succ]
    refine wpAnyH_done (by kernel_rfl) ?_ _
    have HK2 : Hid (KeptC w w.heap.size [.int .i64 ac, .int .i64 ar, .int .i64 (n0 + 1), .slice a1 ds.length c1, .int .i64 kd, .int .i64 nc, .int .i64 nr, .int .i64 pc, .int .i64 pr, .int .i64 fc, .int .i64 fr, .string nm, .string vl] Uy3u2) := hHeld
    clear hHeld
    go_wp2
    go_ret
    exact ⟨ret_bool (by rw [HR.out]; simp), HK2.out.2.2⟩
  · have hwr : IntKind.i64.wrap (sq - 1) = sq - 1 := IntWalk.i64_in _ (by omega)
    have hq2 : (sq - 1 == n0) = false := by rw [beq_eq_false_iff_ne]; omega
    go_enter Try.func29, Try.ntmps29
    go_wp2
    rw [← eW]
    clear eW
    refine wp_region_held_drew (S := fun W' => KeptC w w.heap.size [.int .i64 ac, .int .i64 ar, .int .i64 sq, .slice a1 ds.length c1, .int .i64 kd, .int .i64 nc, .int .i64 nr, .int .i64 pc, .int .i64 pr, .int .i64 fc, .int .i64 fr, .string nm, .string vl] W') (by kernel_rfl) HK.out.drew (fun hHeld => ?_)
    obtain ⟨Un4u0, eW⟩ : ∃ X, X = W0.drew := ⟨_, rfl⟩
    have hb : Below W0.heap.size W0 Un4u0 := by rw [eW]; exact (Below.refl _ _).drew
    rw [← eW] at hHeld ⊢
    clear eW hb
    refine wpAnyH_take (i := 0) (oi := ⟨some 5, _, _, _, _, _⟩) (v := ?vn4ux0) rfl (by kernel_rfl) (by kernel_rfl) (by kernel_rfl) (fun _ _ _ h => h) (Or.inl ⟨by rfl, ?hyn4ux0⟩) hHeld ?restn4ux0
    case hyn4ux0 => (intro w _; go_simp; try with_reducible rfl)
    simp only [Act.put, List.setIfInBounds_toArray, List.set_cons_zero, List.set_cons_succ]
    refine wpAnyH_take (i := 1) (oi := ⟨some 6, _, _, _, _, _⟩) (v := ?vn4ux1) rfl (by kernel_rfl) (by kernel_rfl) (by kernel_rfl) (fun _ _ _ h => h) (Or.inl ⟨by rfl, ?hyn4ux1⟩) hHeld ?restn4ux1
    case hyn4ux1 => (intro w hSw; (try dsimp only at hSw); have hk := hSw; obtain ⟨k_0, k_1, k_2, k_3, k_4, k_5, k_6, k_7, k_8, k_9, k_10, k_11, k_12⟩ := KeptC.all hk; go_simp; try with_reducible rfl)
    simp only [Act.put, List.setIfInBounds_toArray, List.set_cons_zero, List.set_cons_succ]
    refine wpAnyH_take (i := 2) (oi := ⟨some 7, _, _, _, _, _⟩) (v := ?vn4ux2) rfl (by kernel_rfl) (by kernel_rfl) (by kernel_rfl) (fun _ _ _ h => h) (Or.inl ⟨by rfl, ?hyn4ux2⟩) hHeld ?restn4ux2
    case hyn4ux2 => (intro w hSw; (try dsimp only at hSw); have hk := hSw; obtain ⟨k_0, k_1, k_2, k_3, k_4, k_5, k_6, k_7, k_8, k_9, k_10, k_11, k_12⟩ := KeptC.all hk; go_simp; try with_reducible rfl)
    simp only [Act.put, List.setIfInBounds_toArray, List.set_cons_zero, List.set_cons_succ]
    refine wpAnyH_take (i := 3) (oi := ⟨some 8, _, _, _, _, _⟩) (v := ?vn4ux3) rfl (by kernel_rfl) (by kernel_rfl) (by kernel_rfl) (fun _ _ _ h => h) (Or.inl ⟨by rfl, ?hyn4ux3⟩) hHeld ?restn4ux3
    case hyn4ux3 => (intro w _; go_simp; try with_reducible rfl)
    simp only [Act.put, List.setIfInBounds_toArray, List.set_cons_zero, List.set_cons_succ]
    refine wpAnyH_take (i := 4) (oi := ⟨some 9, _, _, _, _, _⟩) (v := ?vn4ux4) rfl (by kernel_rfl) (by kernel_rfl) (by kernel_rfl) (fun _ _ _ h => h) (Or.inl ⟨by rfl, ?hyn4ux4⟩) hHeld ?restn4ux4
    case hyn4ux4 => (intro w _; go_simp; try with_reducible rfl)
    simp only [Act.put, List.setIfInBounds_toArray, List.set_cons_zero, List.set_cons_succ]
    refine wpAnyH_take (i := 5) (oi := ⟨some 10, _, _, _, _, _⟩) (v := ?vn4ux5) rfl (by kernel_rfl) (by kernel_rfl) (by kernel_rfl) (fun _ _ _ h => h) (Or.inl ⟨by rfl, ?hyn4ux5⟩) hHeld ?restn4ux5
    case hyn4ux5 => (intro w _; go_simp; try with_reducible rfl)
    simp only [Act.put, List.setIfInBounds_toArray, List.set_cons_zero, List.set_cons_succ]
    refine wpAnyH_take (i := 6) (oi := ⟨some 11, _, _, _, _, _⟩) (v := ?vn4ux6) rfl (by kernel_rfl) (by kernel_rfl) (by kernel_rfl) (fun _ _ _ h => h) (Or.inl ⟨by rfl, ?hyn4ux6⟩) hHeld ?restn4ux6
    case hyn4ux6 => (intro w hSw; (try dsimp only at hSw); have hk := hSw; obtain ⟨k_0, k_1, k_2, k_3, k_4, k_5, k_6, k_7, k_8, k_9, k_10, k_11, k_12⟩ := KeptC.all hk; go_simp; try with_reducible rfl)
    simp only [Act.put, List.setIfInBounds_toArray, List.set_cons_zero, List.set_cons_succ]
    refine wpAnyH_ready (rs := [7]) (by kernel_rfl) (by simp) ?_
    refine AllReadyH.cons (o := ⟨some 12, _, _, _, _, _⟩) rfl (fun K hK => ?_) AllReadyH.nil
    go_simp
    refine (refAt_any _ kn ar _ (HIk.out.below hHeld.2.2)).mono ?_
    rintro e Un4u1 ⟨rfl, hw⟩
    replace hw := hw.symm
    subst hw
    rw [HN0.out]
    (try go_wp2_with fail)
    refine hK.out _ _ (hHeld) (fun hHeld2 => ?_)
    clear hK K hHeld
    have hHeld := hHeld2
    clear hHeld2
    (try simp only [Act.put, List.setIfInBounds_toArray, List.set_cons_zero, List.set_cons_succ])
    refine wpAnyH_take (i := 8) (oi := ⟨some 13, _, _, _, _, _⟩) (v := ?vn4u_7x8) rfl (by kernel_rfl) (by kernel_rfl) (by kernel_rfl) (fun _ _ _ h => h) (Or.inl ⟨by rfl, ?hyn4u_7x8⟩) hHeld ?restn4u_7x8
    case hyn4u_7x8 => (intro w hSw; (try dsimp only at hSw); have hk := hSw; obtain ⟨k_0, k_1, k_2, k_3, k_4, k_5, k_6, k_7, k_8, k_9, k_10, k_11, k_12⟩ := KeptC.all hk; go_simp; try with_reducible rfl)
    simp only [Act.put, List.setIfInBounds_toArray, List.set_cons_zero, List.set_cons_succ]
    refine wpAnyH_take (i := 9) (oi := ⟨some 14, _, _, _, _, _⟩) (v := ?vn4u_7x9) rfl (by kernel_rfl) (by kernel_rfl) (by kernel_rfl) (fun _ _ _ h => h) (Or.inl ⟨by rfl, ?hyn4u_7x9⟩) hHeld ?restn4u_7x9
    case hyn4u_7x9 => (intro w _; go_simp; try with_reducible rfl)
    simp only [Act.put, List.setIfInBounds_toArray, List.set_cons_zero, List.set_cons_succ]
    refine wpAnyH_take (i := 10) (oi := ⟨some 15, _, _, _, _, _⟩) (v := undef) rfl (by kernel_rfl) (by kernel_rfl) (by kernel_rfl) (fun _ _ _ h => h) (Or.inr ⟨by rfl, rfl⟩) hHeld ?_
    simp only [Act.put, List.setIfInBounds_toArray, List.set_cons_zero, List.set_cons_succ]
    refine wpAnyH_take (i := 11) (oi := ⟨some 16, _, _, _, _, _⟩) (v := undef) rfl (by kernel_rfl) (by kernel_rfl) (by kernel_rfl) (fun _ _ _ h => h) (Or.inr ⟨by rfl, rfl⟩) hHeld ?_
    simp only [Act.put, List.setIfInBounds_toArray, List.set_cons_zero, List.set_cons_succ]
    refine wpAnyH_take (i := 12) (oi := ⟨some 17, _, _, _, _, _⟩) (v := undef) rfl (by kernel_rfl) (by kernel_rfl) (by kernel_rfl) (fun _ _ _ h => h) (Or.inr ⟨by rfl, rfl⟩) hHeld ?_
    simp only [Act.put, List.setIfInBounds_toArray, List.set_cons_zero, List.set_cons_succ]
    refine wpAnyH_take (i := 13) (oi := ⟨some 18, _, _, _, _, _⟩) (v := undef) rfl (by kernel_rfl) (by kernel_rfl) (by kernel_rfl) (fun _ _ _ h => h) (Or.inr ⟨by rfl, rfl⟩) hHeld ?_
    simp only [Act.put, List.setIfInBounds_toArray, List.set_cons_zero, List.set_cons_succ]
    refine wpAnyH_take (i := 14) (oi := ⟨some 19, _, _, _, _, _⟩) (v := ?vn4u_7x14) rfl (by kernel_rfl) (by kernel_rfl) (by kernel_rfl) (fun _ _ _ h => h) (Or.inl ⟨by rfl, ?hyn4u_7x14⟩) hHeld ?restn4u_7x14
    case hyn4u_7x14 => (intro w _; go_simp; try with_reducible rfl)
    simp only [Act.put, List.setIfInBounds_toArray, List.set_cons_zero, List.set_cons_succ]
    refine wpAnyH_take (i := 15) (oi := ⟨some 4, _, _, _, _, _⟩) (v := ?vn4u_7x15) rfl (by kernel_rfl) (by kernel_rfl) (by kernel_rfl) (fun _ _ _ h => h) (Or.inl ⟨by rfl, ?hyn4u_7x15⟩) hHeld ?restn4u_7x15
    case hyn4u_7x15 => (intro w _; go_simp; try with_reducible rfl)
    simp only [Act.put, List.setIfInBounds_toArray, List.set_cons_zero, List.set_cons_succ]
    refine wpAnyH_done (by kernel_rfl) ?_ _
    have HK2 : Hid (KeptC w w.heap.size [.int .i64 ac, .int .i64 ar, .int .i64 sq, .slice a1 ds.length c1, .int .i64 kd, .int .i64 nc, .int .i64 nr, .int .i64 pc, .int .i64 pr, .int .i64 fc, .int .i64 fr, .string nm, .string vl] Un4u0) := hHeld
    clear hHeld
    go_wp2
    go_ret
    exact ⟨ret_bool (by rw [HR.out]; simp [hq]), HK2.out.2.2⟩

end Go.Proofs.Ythndgmnckpimmaa

namespace Go.Proofs.Ythndgmnckpimmaa
open Go.RowKit
set_option linter.unusedVariables false
set_option linter.unusedSimpArgs false

set_option maxRecDepth 100000 in
set_option maxHeartbeats 8000000 in
theorem refSameCh_eq (ac ar sq : Int) (v1 v2 : Value) (kd nc nr pc pr fc fr : Int) (nm vl : ByteArray) (ds : List Int) (w : World) (h1 : IsI w v1 ds) (h2 : IsI w v2 ds) :
    Calls Try.prog 39 #[.agg #[.int .i64 ac, .int .i64 ar, .int .i64 sq, v1, .int .i64 kd, .int .i64 nc, .int .i64 nr, .int .i64 pc, .int .i64 pr, .int .i64 fc, .int .i64 fr, .string nm, .string vl], .agg #[.int .i64 ac, .int .i64 ar, .int .i64 sq, v2, .int .i64 kd, .int .i64 nc, .int .i64 nr, .int .i64 pc, .int .i64 pr, .int .i64 fc, .int .i64 fr, .string nm, .string vl]] w fun e w' => e = .returned (.bool true) ∧ Below w.heap.size w w' := by
  obtain ⟨a1, c1, e1⟩ := h1.form
  subst e1
  obtain ⟨a2, c2, e2⟩ := h2.form
  subst e2
  have K0 := KeptC.start w [.int .i64 ac, .int .i64 ar, .int .i64 sq, .slice a1 ds.length c1, .int .i64 kd, .int .i64 nc, .int .i64 nr, .int .i64 pc, .int .i64 pr, .int .i64 fc, .int .i64 fr, .string nm, .string vl] 35
  have M0 := KeptC.start (w.alloc (.cells #[.int .i64 ac, .int .i64 ar, .int .i64 sq, .slice a1 ds.length c1, .int .i64 kd, .int .i64 nc, .int .i64 nr, .int .i64 pc, .int .i64 pr, .int .i64 fc, .int .i64 fr, .string nm, .string vl] 35)) [.int .i64 ac, .int .i64 ar, .int .i64 sq, .slice a2 ds.length c2, .int .i64 kd, .int .i64 nc, .int .i64 nr, .int .i64 pc, .int .i64 pr, .int .i64 fc, .int .i64 fr, .string nm, .string vl] 35
  rw [show (w.alloc (.cells #[.int .i64 ac, .int .i64 ar, .int .i64 sq, .slice a1 ds.length c1, .int .i64 kd, .int .i64 nc, .int .i64 nr, .int .i64 pc, .int .i64 pr, .int .i64 fc, .int .i64 fr, .string nm, .string vl] 35)).heap.size = w.heap.size + 1 by simp] at M0
  have K1 := K0.step M0.2.2
  have H1 : Hid (IsI _ (.slice a1 ds.length c1) ds) := h1.below K1.2.2
  have H2 : Hid (IsI _ (.slice a2 ds.length c2) ds) := h2.below K1.2.2
  clear h1 h2
  go_enter Try.func39, Try.ntmps39
  go_wp2_with fail
  refine (sameI_any _ _ ds ds _ H1.out H2.out).mono ?_
  rintro e w1 ⟨rfl, hb1⟩
  have d0 : decide (ds = ds) = true := by simp
  rw [d0]
  have K2 := K1.step hb1
  have M2 := M0.step hb1
  obtain ⟨k_0, k_1, k_2, k_3, k_4, k_5, k_6, k_7, k_8, k_9, k_10, k_11, k_12⟩ := K2.all
  obtain ⟨m_0, m_1, m_2, m_3, m_4, m_5, m_6, m_7, m_8, m_9, m_10, m_11, m_12⟩ := M2.all
  have q1 : (nm.toList == nm.toList) = true := by simp
  have q2 : (vl.toList == vl.toList) = true := by simp
  go_wp2
  go_ret
  exact ⟨rfl, K2.2.2⟩

end Go.Proofs.Ythndgmnckpimmaa

namespace Go.Proofs.Ythndgmnckpimmaa
open Go.RowKit
set_option linter.unusedVariables false
set_option linter.unusedSimpArgs false

theorem rangeAt_below {w W : World} {b o : Nat} {c : Ch} {dv : Value} (h : w.rangeAt b o (chCells c dv)) (hb : Below w.heap.size w W) : W.rangeAt b o (chCells c dv) := fun j v hj => by
  have h0 := h 0 _ rfl
  have hlt : b < w.heap.size := by
    rcases Nat.lt_or_ge b w.heap.size with h' | h'
    · exact h'
    · simp [World.cell?, h'] at h0
  exact (hb.cell (p := ⟨b, o + j, none⟩) hlt).trans (h j v hj)

set_option maxRecDepth 100000 in
set_option maxHeartbeats 4000000 in
theorem sameAll_eq (v1 v2 : Value) (L : List Ch) (w : World) (h1 : IsH w v1 L) (h2 : IsH w v2 L) :
    Calls Try.prog 11 #[v1, v2] w fun e w' => e = .returned (.bool true) ∧ Below w.heap.size w w' := by
  obtain ⟨a1, c1, rfl, hc1, hl1, r1⟩ := h1
  obtain ⟨a2, c2, rfl, hc2, hl2, r2⟩ := h2
  have R1 : Hid (L = [] ∨ ∃ b o, a1 = some ⟨b, o, none⟩ ∧ ChsAt w b o L) := r1
  have R2 : Hid (L = [] ∨ ∃ b o, a2 = some ⟨b, o, none⟩ ∧ ChsAt w b o L) := r2
  have q : ((L.length : Int) != (L.length : Int)) = false := by simp
  clear r1 r2
  go_enter Try.func11, Try.ntmps11
  go_wp2
  go_loopw [5] (fun i wr => ∃ k : Nat, k ≤ L.length ∧ i = .int .i64 (k : Int) ∧ Below w.heap.size w wr) (fun i _ => L.length - (intOf i).toNat)
  case atStart => exact ⟨0, Nat.zero_le _, rfl, Below.refl _ _⟩
  case round =>
    obtain ⟨k, hk, rfl, hb⟩ := hrel
    by_cases hlt : k < L.length
    · obtain ⟨b1, o1, rfl, g1⟩ := R1.out.resolve_left (by intro e; subst e; simp at hlt)
      obtain ⟨b2, o2, rfl, g2⟩ := R2.out.resolve_left (by intro e; subst e; simp at hlt)
      obtain ⟨a3, c3, i3, hs3, x3⟩ := (g1 k hlt).open
      obtain ⟨a4, c4, i4, hs4, x4⟩ := (g2 k hlt).open
      have k1 : (k : Int) < (L.length : Int) := by omega
      have k0 : (0 : Int) ≤ (k : Int) := by omega
      generalize L[k] = c at *
      have X3 : Hid (w.rangeAt b1 (o1 + k * 13) (chCells c (.slice a3 c.deps.length c3))) := x3
      have X4 : Hid (w.rangeAt b2 (o2 + k * 13) (chCells c (.slice a4 c.deps.length c4))) := x4
      have I3 : Hid (IsI w (.slice a3 c.deps.length c3) c.deps) := i3
      have I4 : Hid (IsI w (.slice a4 c.deps.length c4) c.deps) := i4
      have HB : Hid (Below w.heap.size w wr) := hb
      have hsw := hb.size
      clear g1 g2 i3 i4 hs3 hs4 x3 x4 hb
      go_upto_region 6 with fail
      refine wp_region_held_drew (S := fun W' => Below w.heap.size w W') (by kernel_rfl) (below_drewN HB.out 1) (fun hHeld => ?_)
      obtain ⟨Ua0, eW⟩ : ∃ X, X = wr.drew := ⟨_, rfl⟩
      rw [← eW] at hHeld ⊢
      clear eW
      refine tkW 0 (some 17) (v := ?_) ?_ hHeld ?_
      rotate_left
      · (intro w hSw; (try dsimp only at hSw); go_simp; try with_reducible rfl)
      refine tkW 1 (some 18) (v := ?_) ?_ hHeld ?_
      rotate_left
      · (intro w hSw; (try dsimp only at hSw); go_simp; try with_reducible rfl)
      refine tkW 2 (some 19) (v := ?_) ?_ hHeld ?_
      rotate_left
      · (intro w hSw; (try dsimp only at hSw); go_simp; try with_reducible rfl)
      refine wpAnyH_take (i := 3) (oi := ⟨some 20, _, _, _, _, _⟩) (v := .agg (chCells c (.slice a3 c.deps.length c3)).toArray) rfl (by kernel_rfl) (by kernel_rfl) (by kernel_rfl) (fun _ _ _ h => h) (yieldsIf_load_mid (by rfl) 35 (.tmp 19) rfl b1 (o1 + k * 13) rfl (chCells c (.slice a3 c.deps.length c3)) _ (fun W hS => rangeAt_below X3.out hS) Try.underlying35 rfl sizeChange) hHeld ?_
      simp only [Act.put, List.setIfInBounds_toArray, List.set_cons_zero, List.set_cons_succ]
      refine tkW 4 (some 21) (v := ?_) ?_ hHeld ?_
      rotate_left
      · (intro w hSw; (try dsimp only at hSw); go_simp; try with_reducible rfl)
      refine tkW 5 (some 22) (v := ?_) ?_ hHeld ?_
      rotate_left
      · (intro w hSw; (try dsimp only at hSw); go_simp; try with_reducible rfl)
      refine tkW 6 (some 23) (v := ?_) ?_ hHeld ?_
      rotate_left
      · (intro w hSw; (try dsimp only at hSw); go_simp; try with_reducible rfl)
      refine wpAnyH_take (i := 7) (oi := ⟨some 24, _, _, _, _, _⟩) (v := .agg (chCells c (.slice a4 c.deps.length c4)).toArray) rfl (by kernel_rfl) (by kernel_rfl) (by kernel_rfl) (fun _ _ _ h => h) (yieldsIf_load_mid (by rfl) 35 (.tmp 23) rfl b2 (o2 + k * 13) rfl (chCells c (.slice a4 c.deps.length c4)) _ (fun W hS => rangeAt_below X4.out hS) Try.underlying35 rfl sizeChange) hHeld ?_
      simp only [Act.put, List.setIfInBounds_toArray, List.set_cons_zero, List.set_cons_succ]
      refine wpAnyH_ready (rs := [8]) (by kernel_rfl) (by simp) ?_
      refine AllReadyH.cons (o := ⟨some 25, _, _, _, _, _⟩) rfl (fun K hK => ?_) AllReadyH.nil
      go_simp
      refine (refSameCh_eq c.ac c.ar c.seq (.slice a3 c.deps.length c3) (.slice a4 c.deps.length c4) c.kind c.nc c.nr c.pc c.pr c.fc c.fr c.name c.value c.deps _ (I3.out.below hHeld) (I4.out.below hHeld)).mono ?_
      rintro e Va1 ⟨rfl, hb⟩
      (try go_wp2_with fail)
      refine hK.out _ _ (hHeld.trans (hb.mono hHeld.size)) (fun hHeld2 => ?_)
      clear hK K hHeld
      have hHeld := hHeld2
      clear hHeld2
      (try simp only [Act.put, List.setIfInBounds_toArray, List.set_cons_zero, List.set_cons_succ])
      clear hb
      refine tkW 9 (some 26) (v := ?_) ?_ hHeld ?_
      rotate_left
      · (intro w hSw; (try dsimp only at hSw); go_simp; try with_reducible rfl)
      refine wpAnyH_done (by kernel_rfl) ?_ _
      have HZ := hHeld
      clear hHeld
      go_wp2
      go_roundw
      case rel => exact ⟨k + 1, by omega, by go_num, HZ⟩
      case measure => simp [intOf]; omega
    · go_wp2
      go_ret
      exact ⟨rfl, hb⟩

end Go.Proofs.Ythndgmnckpimmaa

namespace Go.Proofs.Ythndgmnckpimmaa
open Go.RowKit
set_option linter.unusedVariables false
set_option linter.unusedSimpArgs false

theorem checkCh_six (c : Ch) : checkCh c ≠ 6 := by
  have h1 : depsE c ≠ 6 := by unfold depsE; (repeat' split) <;> first | decide | (have := checkL_cases c.deps; omega)
  have h2 : valueE c ≠ 6 := by unfold valueE; (repeat' split) <;> decide
  unfold checkCh
  (repeat' split) <;> first | decide | exact h1 | exact h2
theorem newH_six (H : List Ch) (kn : List Int) (c : Ch) : newH H kn c ≠ 6 := by
  unfold newH
  have := checkL_cases kn
  have := checkCh_six c
  (repeat' split) <;> omega
theorem takeR_full {room : Int} {H : List Ch} {kn : List Int} {c : Ch} (h : (takeR room H kn c).2.2 = 6) : takeR room H kn c = (H, [], 6) ∧ room ≤ (H.length : Int) := by
  unfold takeR at *
  split at h
  · exact absurd h (newH_six H kn c)
  · rename_i h1
    rw [if_neg h1]
    split at h
    · cases h
    · rename_i h2
      rw [if_neg h2]
      split at h
      · rename_i h3
        rw [if_pos h3]
        exact ⟨rfl, h3⟩
      · cases h
theorem takeR_len {room : Int} {H : List Ch} {kn : List Int} {c : Ch} (h : (H.length : Int) ≤ room) : ((takeR room H kn c).1.length : Int) ≤ room := by
  unfold takeR
  split
  · exact h
  · split
    · have := (runL_sub H.length (tickR kn c.ar) H).length_le
      simp only
      omega
    · split
      · exact h
      · have := (insC_perm c H).length_eq
        simp only [List.length_cons] at this
        simp only
        omega
theorem BufH.lt {F : Nat → Prop} {w : World} {v : Value} {room : Int} {H : List Ch} (h : BufH F w v room H) : ∀ k, F k → k < w.heap.size := by
  obtain ⟨D, h1, _⟩ := h
  rcases h1 with ⟨_, _, _, h⟩ | ⟨_, _, _, h⟩
  · exact h.lt
  · exact h
theorem heldH_any (F : Nat → Prop) (v : Value) (room : Int) (H : List Ch) (w : World) (h : BufH F w v room H) (hl : H.length ≤ 4096) :
    Calls Try.prog 23 #[v] w fun e w' => ∃ a c E, e = .returned (.slice a H.length c) ∧ AccH w.heap.size (.slice a H.length c) E w' ∧ E.map Prod.fst = H ∧ Below w.heap.size w w' := by
  obtain ⟨D, h1, hp, hs⟩ := h
  refine (held_any v room D F w h1 (by have := hp.length_eq; simp at this; omega)).mono ?_
  rintro e w' ⟨v', E, rfl, hA, hp2, hs2, hb⟩
  have he : E.map Prod.fst = H := srtC_ext hs2 hs (hp2.trans hp)
  obtain ⟨a, c, e⟩ := hA.own.form
  have hl2 : E.length = H.length := by have := congrArg List.length he; simpa using this
  rw [hl2] at e
  subst e
  exact ⟨a, c, E, rfl, hA, he, hb⟩
theorem lenH_any (F : Nat → Prop) (v : Value) (room : Int) (H : List Ch) (w : World) (h : BufH F w v room H) :
    Calls Try.prog 22 #[v] w fun e w' => e = .returned (.int .i64 (H.length : Int)) ∧ Below w.heap.size w w' := by
  obtain ⟨D, h1, hp, hs⟩ := h
  have hl : D.length = H.length := by have := hp.length_eq; simpa using this
  rw [← hl]
  exact len_any v room D F w h1

end Go.Proofs.Ythndgmnckpimmaa

namespace Go.Proofs.Ythndgmnckpimmaa
open Go.RowKit
set_option linter.unusedVariables false
set_option linter.unusedSimpArgs false

theorem results_cell_row3 {P : Program} {fn : Func} {p u q : Tmp} {ty : TypeId} (h : fn.results = #[.cell p ty, .tmp u, .tmp q]) (tmps : Array Value) (w : World) (g : Nat) (t : TypeId) (cs : Array Value) (fr : Nat × Nat) (d : TypeDesc)
    (hp : tmps.getD p undef = .pointer (some ⟨g, 0, none⟩)) (hg : w.heap[g]? = some (.cells cs t fr))
    (hu : P.underlying ty = some d) (hd : (match d with | .struct _ | .array _ _ => true | _ => false) = true) (hi : (P.info? ty).map (·.size) = some cs.size) {k m : Value} (hk : tmps.getD u undef = k) (hm : tmps.getD q undef = m) :
    (results fn tmps).run P w = .ok (.tuple #[.agg cs, k, m]) w := by
  have e : (results fn tmps).run P w = ((asAddr (tmps.getD p undef)).run P w).andThen fun a w₁ => ((loadVar ty a).run P w₁).andThen fun v w₂ => .ok (.tuple #[v, tmps.getD u undef, tmps.getD q undef]) w₂ := by
    simp only [results, h]
    simp [Sem.run_bind, Result.andThen]
  rw [e, hp, hk, hm]
  simp [asAddr, run_loadVar_row w g t ty cs fr d hg hu hd hi]

set_option maxHeartbeats 1000000 in
theorem clone_nil (w : World) : Calls Try.prog 15 #[.pointer none] w fun e w' => e = .returned (.pointer none) ∧ w' = w := by
  go_enter Try.func15, Try.ntmps15
  go_wp2
  go_ret
  exact ⟨rfl, rfl⟩

set_option maxRecDepth 100000 in
set_option maxHeartbeats 2000000 in
theorem stale_nil (kv : Value) (kn : List Int) (w : World) (hk : IsI w kv kn) : Calls Try.prog 14 #[.pointer none, kv] w fun e w' => e = .returned (.int .i64 0) ∧ Below w.heap.size w w' := by
  obtain ⟨a0, c0, e0⟩ := hk.form
  subst e0
  have HIk : Hid (IsI w (.slice a0 kn.length c0) kn) := hk
  clear hk
  go_enter Try.func14, Try.ntmps14
  go_wp2_with fail
  refine (check_any _ kn _ HIk.out).mono ?_
  rintro e w1 ⟨rfl, hw1⟩
  replace hw1 := hw1.symm
  subst hw1
  by_cases hc : checkL kn = 0
  · rw [hc]
    go_wp2_with fail
    refine (orEmpty_any (.pointer none) 0 [] (fun _ => False) _ (.inr ⟨rfl, rfl, rfl, fun k h => h.elim⟩)).mono ?_
    rintro e w2 ⟨bb, mb, F', rfl, h1, hb1, _, _⟩
    have HL : Hid (BufIs F' w2 bb 0 mb []) := h1
    have HB : Hid (Below w.heap.size w w2) := hb1
    have q1 := h1.cell1
    have hln := len_pl h1.hmap
    obtain ⟨o, hrg, hit⟩ := range_pl h1.hmap
    obtain ⟨W2, eW2⟩ : ∃ X, X = w2.alloc o := ⟨_, rfl⟩
    have hb2 : Below w2.heap.size w2 W2 := by rw [eW2]; exact (Below.refl _ _).alloc (Nat.le_refl _) _
    rw [← eW2] at hrg hit
    have HB2 : Hid (Below w.heap.size w W2) := HB.out.trans (hb2.mono HB.out.size)
    have HM2 : Hid (MapIs W2 mb []) := hit.map
    have hnx := (next_pl hit 0).resolve_right (by rintro ⟨R1, x, R2, w', e, _⟩; simp at e)
    have hnx2 := hnx.2
    have hln2 := len_pl HM2.out
    clear eW2 h1 hb1 hb2 hit hnx
    go_wp2
    refine wp_loop_rounds 1 ?_
    rw [rounds_succ]
    go_wp2
    go_ret
    exact ⟨rfl, HB2.out⟩
  · have hc2 : (checkL kn == 0) = false := by simp [hc]
    go_wp2
    go_ret
    exact ⟨rfl, Below.refl _ _⟩

set_option maxRecDepth 100000 in
set_option maxHeartbeats 2000000 in
/-- The document's Within. -/
theorem refWithin_any (ac ar sq : Int) (dv : Value) (kd nc nr pc pr fc fr : Int) (nm vl : ByteArray) (ds : List Int) (kv : Value) (kn : List Int) (w : World) (h : IsI w kv kn) :
    Calls Try.prog 27 #[.agg #[.int .i64 ac, .int .i64 ar, .int .i64 sq, dv, .int .i64 kd, .int .i64 nc, .int .i64 nr, .int .i64 pc, .int .i64 pr, .int .i64 fc, .int .i64 fr, .string nm, .string vl], kv] w fun e w' => e = .returned (.bool (withinB ⟨ac, ar, sq, ds, kd, nc, nr, pc, pr, fc, fr, nm, vl⟩ kn)) ∧ Below w.heap.size w w' := by
  have K0 := KeptC.start w #[.int .i64 ac, .int .i64 ar, .int .i64 sq, dv, .int .i64 kd, .int .i64 nc, .int .i64 nr, .int .i64 pc, .int .i64 pr, .int .i64 fc, .int .i64 fr, .string nm, .string vl].toList 35
  have HA : Hid (∀ W', Below w.heap.size w W' → Calls Try.prog 50 #[kv, .int .i64 ar] W' fun e w' => e = .returned (.int .i64 (atL kn ar)) ∧ w' = W') := fun W' hb => refAt_any kv kn ar W' (h.below hb)
  have HB : Hid (Below w.heap.size w (w.alloc (.cells #[.int .i64 ac, .int .i64 ar, .int .i64 sq, dv, .int .i64 kd, .int .i64 nc, .int .i64 nr, .int .i64 pc, .int .i64 pr, .int .i64 fc, .int .i64 fr, .string nm, .string vl] 35))) := K0.2.2
  have HW : Hid (withinB ⟨ac, ar, sq, ds, kd, nc, nr, pc, pr, fc, fr, nm, vl⟩ kn = decide (sq ≤ atL kn ar)) := rfl
  obtain ⟨a0, c0, e0⟩ := h.form
  subst e0
  clear h K0
  generalize atL kn ar = n0 at *
  go_enter Try.func27, Try.ntmps27
  go_wp2
  go_quiet ((go_at_call 50; exact Calls.quiet_of_same (HA.out _ (below_drewN HB.out _))))
  go_wp2
  go_ret
  exact ⟨ret_bool (by rw [HW.out]), below_drewN HB.out _⟩

set_option maxHeartbeats 1000000 in
theorem refOwn0 (a : Option Addr) (c : Nat) (r s : Int) (w : World) : Calls Try.prog 28 #[.slice a 0 c, .int .i64 r, .int .i64 s] w fun e w' => e = .returned (.int .i64 (-1)) ∧ w' = w := by
  go_enter Try.func28, Try.ntmps28
  go_wp2
  refine wp_loop_rounds 1 ?_
  rw [rounds_succ]
  go_wp2
  go_ret
  exact ⟨rfl, rfl⟩

set_option maxHeartbeats 1000000 in
theorem refNext0 (kv : Value) (a : Option Addr) (c : Nat) (w : World) : Calls Try.prog 32 #[kv, .slice a 0 c] w fun e w' => e = .returned (.int .i64 (-1)) ∧ w' = w := by
  go_enter Try.func32, Try.ntmps32
  go_wp2
  refine wp_loop_rounds 1 ?_
  rw [rounds_succ]
  go_wp2
  go_ret
  exact ⟨rfl, rfl⟩

set_option maxRecDepth 100000 in
set_option maxHeartbeats 2000000 in
theorem refTickC_any (ac ar sq : Int) (dv : Value) (kd nc nr pc pr fc fr : Int) (nm vl : ByteArray) (kv : Value) (kn : List Int) (w : World) (h : IsI w kv kn) :
    Calls Try.prog 31 #[kv, .agg #[.int .i64 ac, .int .i64 ar, .int .i64 sq, dv, .int .i64 kd, .int .i64 nc, .int .i64 nr, .int .i64 pc, .int .i64 pr, .int .i64 fc, .int .i64 fr, .string nm, .string vl]] w fun e w' => ∃ v', e = .returned v' ∧ OwnI w.heap.size w' v' (tickR kn ar) ∧ Below w.heap.size w w' := by
  have K0 := KeptC.start w #[.int .i64 ac, .int .i64 ar, .int .i64 sq, dv, .int .i64 kd, .int .i64 nc, .int .i64 nr, .int .i64 pc, .int .i64 pr, .int .i64 fc, .int .i64 fr, .string nm, .string vl].toList 35
  have HB : Hid (Below w.heap.size w (w.alloc (.cells #[.int .i64 ac, .int .i64 ar, .int .i64 sq, dv, .int .i64 kd, .int .i64 nc, .int .i64 nr, .int .i64 pc, .int .i64 pr, .int .i64 fc, .int .i64 fr, .string nm, .string vl] 35))) := K0.2.2
  have HI : Hid (IsI w kv kn) := h
  obtain ⟨a0, c0, e0⟩ := h.form
  subst e0
  clear h K0
  go_enter Try.func31, Try.ntmps31
  go_wp2_with fail
  refine (refTick_any _ kn ar _ (HI.out.below HB.out)).mono ?_
  rintro e w1 ⟨v', rfl, ho, hb⟩
  obtain ⟨a1, c1, e1⟩ := ho.form
  subst e1
  have HO : Hid (OwnI w.heap.size w1 (.slice a1 (tickR kn ar).length c1) (tickR kn ar)) := ho.cut HB.out.size
  have HB1 : Hid (Below w.heap.size w w1) := HB.out.trans (hb.mono HB.out.size)
  clear ho hb HB HI
  go_wp2
  go_ret
  exact ⟨_, rfl, HO.out, HB1.out⟩

end Go.Proofs.Ythndgmnckpimmaa

namespace Go.Proofs.Ythndgmnckpimmaa
open Go.RowKit
set_option linter.unusedVariables false
set_option linter.unusedSimpArgs false

def RowIn (S : Nat → Prop) (W : World) (a : Option Addr) (d : List Int) : Prop := d = [] ∨ ∃ b o, a = some ⟨b, o, none⟩ ∧ S b ∧ IntsAt W b o d
theorem RowIn.kept {S : Nat → Prop} {A B : World} {a : Option Addr} {d : List Int} (h : RowIn S A a d) (hb : KeepsS S A B) : RowIn S B a d :=
  h.imp id fun ⟨b, o, e, hs, hr⟩ => ⟨b, o, e, hs, fun i hi => (hb.cell (p := ⟨b, o + i, none⟩) hs).trans (hr i hi)⟩
theorem RowIn.isI {S : Nat → Prop} {W : World} {a : Option Addr} {d : List Int} {c : Nat} (h : RowIn S W a d) (hc : d.length ≤ c) (hl : d.length ≤ 17592186044416) : IsI W (.slice a d.length c) d :=
  ⟨a, c, rfl, hc, hl, h.imp id fun ⟨b, o, e, _, hr⟩ => ⟨b, o, e, hr⟩⟩
/-- A clock's value, whose row lies in a block of G. -/
def IsG (G : Nat → Prop) (w : World) (dv : Value) (ds : List Int) : Prop := ∃ (a : Option Addr) (cap : Nat), dv = .slice a ds.length cap ∧ ds.length ≤ cap ∧ ds.length ≤ 17592186044416 ∧ RowIn G w a ds
theorem IsG.isI {G : Nat → Prop} {w : World} {dv : Value} {ds : List Int} (h : IsG G w dv ds) : IsI w dv ds := by
  obtain ⟨a, cap, rfl, h1, h2, h3⟩ := h
  exact h3.isI h1 h2
theorem IsG.keep {G : Nat → Prop} {w w' : World} {dv : Value} {ds : List Int} (h : IsG G w dv ds) (hk : KeepsS G w w') : IsG G w' dv ds := by
  obtain ⟨a, cap, e, h1, h2, h3⟩ := h
  exact ⟨a, cap, e, h1, h2, h3.kept hk⟩
theorem IsG.mono {G G' : Nat → Prop} {w : World} {dv : Value} {ds : List Int} (h : IsG G w dv ds) (hG : ∀ k, G k → G' k) : IsG G' w dv ds := by
  obtain ⟨a, cap, e, h1, h2, h3⟩ := h
  exact ⟨a, cap, e, h1, h2, h3.imp id fun ⟨b, o, e, hs, hr⟩ => ⟨b, o, e, hG b hs, hr⟩⟩
theorem IsG.own {G : Nat → Prop} {B : Nat} {w : World} {dv : Value} {ds : List Int} (h : OwnI B w dv ds) (hl : ds.length ≤ 17592186044416) (hG : ∀ k, B ≤ k → k < w.heap.size → G k) : IsG G w dv ds := by
  have h0 := h
  rcases h.2 with ⟨rfl, hn⟩ | ⟨g, cap, cur, rfl, hg, hc, hcap, rest⟩
  · have e : ds = [] := List.eq_nil_of_length_eq_zero hn
    subst e
    exact ⟨none, 0, rfl, Nat.le_refl _, by simp, .inl rfl⟩
  · refine ⟨_, cap, rfl, hcap, hl, .inr ⟨g, 0, rfl, hG g hg (Array.getElem?_eq_some_iff.1 hc).1, fun i hi => ?_⟩⟩
    have := World.ownsRow.cellAt h0 i (by omega)
    rw [show 0 + i = i by omega, this]
    simp [cellsI, hi]
/-- Changes that lie in blocks of G. -/
def HFirm (G : Nat → Prop) (w : World) (v : Value) (L : List Ch) : Prop :=
  (∀ k, G k → k < w.heap.size) ∧ ∃ (a : Option Addr) (cap : Nat), v = .slice a L.length cap ∧ L.length ≤ cap ∧ L.length ≤ 281474976710656 ∧
    (L = [] ∨ ∃ b o, a = some ⟨b, o, none⟩ ∧ G b ∧ ∀ i (h : i < L.length), ∃ dv, (∀ j u, (chCells L[i] dv)[j]? = some u → w.cell? ⟨b, o + i * 13 + j, none⟩ = some u) ∧ IsG G w dv L[i].deps ∧ Sized L[i])
section
variable {G G' : Nat → Prop} {w w' : World} {v : Value} {L : List Ch}
theorem HFirm.isH (h : HFirm G w v L) : IsH w v L := by
  obtain ⟨_, a, cap, e, h1, h2, h3⟩ := h
  refine ⟨a, cap, e, h1, h2, h3.imp id fun ⟨b, o, e2, _, hr⟩ => ⟨b, o, e2, fun i hi => ?_⟩⟩
  obtain ⟨dv, h4, h5, h6⟩ := hr i hi
  exact ⟨dv, h4, h5.isI, h6⟩
theorem HFirm.keep (h : HFirm G w v L) (hk : KeepsS G w w') : HFirm G w' v L := by
  obtain ⟨h0, a, cap, e, h1, h2, h3⟩ := h
  refine ⟨fun k hG => Nat.lt_of_lt_of_le (h0 k hG) hk.1, a, cap, e, h1, h2, h3.imp id fun ⟨b, o, e2, hb, hr⟩ => ⟨b, o, e2, hb, fun i hi => ?_⟩⟩
  obtain ⟨dv, h4, h5, h6⟩ := hr i hi
  exact ⟨dv, fun j u hj => (hk.cell (p := ⟨b, o + i * 13 + j, none⟩) hb).trans (h4 j u hj), h5.keep hk, h6⟩
theorem HFirm.below (h : HFirm G w v L) (hb : Below w.heap.size w w') : HFirm G w' v L := h.keep (KeepsS.of_below hb h.1)
theorem HFirm.mono (h : HFirm G w v L) (hG : ∀ k, G k → G' k) (hl : ∀ k, G' k → k < w.heap.size) : HFirm G' w v L := by
  obtain ⟨h0, a, cap, e, h1, h2, h3⟩ := h
  refine ⟨hl, a, cap, e, h1, h2, h3.imp id fun ⟨b, o, e2, hb, hr⟩ => ⟨b, o, e2, hG b hb, fun i hi => ?_⟩⟩
  obtain ⟨dv, h4, h5, h6⟩ := hr i hi
  exact ⟨dv, h4, h5.mono hG, h6⟩
theorem HFirm.nil (w : World) : HFirm (fun _ => False) w (.slice none 0 0) [] := ⟨fun _ h => h.elim, none, 0, rfl, Nat.le_refl _, by simp, .inl rfl⟩
/-- One of them. -/
theorem HFirm.one (h : HFirm G w v L) : ∃ (a : Option Addr) (cap : Nat), v = .slice a L.length cap ∧ L.length ≤ cap ∧ ∀ i (hi : i < L.length), ∃ b o a2 e2, a = some ⟨b, o, none⟩ ∧ IsG G w (.slice a2 L[i].deps.length e2) L[i].deps ∧ Sized L[i] ∧ ∀ W', KeepsS G w W' → ∀ j u, (chCells L[i] (.slice a2 L[i].deps.length e2))[j]? = some u → W'.cell? ⟨b, o + i * 13 + j, none⟩ = some u := by
  obtain ⟨h0, a, cap, e, h1, h2, h3⟩ := h
  refine ⟨a, cap, e, h1, fun i hi => ?_⟩
  obtain ⟨b, o, rfl, hb, hr⟩ := h3.resolve_left (by intro e; subst e; simp at hi)
  obtain ⟨dv, h4, h5, h6⟩ := hr i hi
  obtain ⟨a2, e2, rfl, q⟩ := h5
  exact ⟨b, o, a2, e2, rfl, ⟨a2, e2, rfl, q⟩, h6, fun W' hk j u hj => (hk.cell (p := ⟨b, o + i * 13 + j, none⟩) hb).trans (h4 j u hj)⟩
end
/-- A row of changes that the call made behind its box, whose clocks are old ones of G, or own copies. -/
structure PutB (G : Nat → Prop) (w : World) (v : Value) (E : List (Ch × Value)) (U : World) : Prop where
  own : OwnH (w.heap.size + 1) U v E
  dep : ∀ x ∈ E, (IsG G U x.2 x.1.deps ∨ OwnI (w.heap.size + 1) U x.2 x.1.deps) ∧ Sized x.1 ∧ x.1.deps.length ≤ 17592186044416
  bel : Below w.heap.size w U
  gl : ∀ k, G k → k < w.heap.size
section
variable {G : Nat → Prop} {w : World} {v ov : Value} {E : List (Ch × Value)} {U U' : World}
theorem PutB.below (h : PutB G w v E U) (hb : Below U.heap.size U U') : PutB G w v E U' :=
  ⟨h.own.below hb, fun x hx => ⟨(h.dep x hx).1.imp (fun q => q.keep (KeepsS.of_below hb (fun k hk => Nat.lt_of_lt_of_le (h.gl k hk) h.bel.size))) (fun q => q.below hb), (h.dep x hx).2⟩, h.bel.trans (hb.mono h.bel.size), h.gl⟩
theorem PutB.push (h : PutB G w ov E U) {c : Ch} {dv v : Value} (hown : U'.ownsRow (w.heap.size + 1) 35 13 v (E.length + 1) (flatH E ++ chCells c dv)) (hg : U.grownBy U' ov.ownBlock) (hd : IsG G U dv c.deps ∨ OwnI (w.heap.size + 1) U dv c.deps) (hs : Sized c ∧ c.deps.length ≤ 17592186044416) :
    PutB G w v (E ++ [(c, dv)]) U' := by
  have hrow : ∀ j, ov.ownBlock = some j → w.heap.size + 1 ≤ j := fun j e => (World.ownsRow.lt h.own j e).1
  have dkeep : ∀ (d : Value) (l : List Int), (IsG G U d l ∨ OwnI (w.heap.size + 1) U d l) → (IsG G U' d l ∨ OwnI (w.heap.size + 1) U' d l) := fun d l hq => hq.imp
    (fun q => q.keep (KeepsS.of_grown hg (fun k hk => Nat.lt_of_lt_of_le (h.gl k hk) h.bel.size) (fun r e hS => by have := hrow r e; have := h.gl r hS; omega)))
    (fun q => OwnI.keepF q fun k e => hg.block k (World.ownsRow.lt q k e).2 (fun e2 => ownsRow_apart q h.own (by decide) k e e2.symm))
  refine ⟨OwnH.snoc hown, fun x hx => ?_, h.bel.grown hg h.bel.size (fun j e => by have := hrow j e; omega), h.gl⟩
  rcases List.mem_append.1 hx with hx | hx
  · exact ⟨dkeep _ _ (h.dep x hx).1, (h.dep x hx).2⟩
  · rw [List.mem_singleton] at hx
    subst hx
    exact ⟨dkeep _ _ hd, hs⟩
theorem PutB.firm (h : PutB G w v E U) (hl : E.length ≤ 281474976710656) : HFirm (fun k => G k ∨ (w.heap.size ≤ k ∧ k < U.heap.size)) U v (E.map Prod.fst) := by
  have h0 := h.own
  refine ⟨fun k hk => hk.elim (fun q => Nat.lt_of_lt_of_le (h.gl k q) h.bel.size) (fun q => q.2), ?_⟩
  rcases h.own.2 with ⟨rfl, hn⟩ | ⟨g, cap, cur, rfl, hg, hc, hcap, rest⟩
  · have e : E = [] := List.eq_nil_of_length_eq_zero hn
    subst e
    exact ⟨none, 0, rfl, Nat.le_refl _, by simp, .inl rfl⟩
  · refine ⟨_, cap, by simp, by simpa using hcap, by simpa using hl, .inr ⟨g, 0, rfl, .inr ⟨by omega, (Array.getElem?_eq_some_iff.1 hc).1⟩, fun i hi => ?_⟩⟩
    have hi' : i < E.length := by simpa using hi
    rw [show (E.map Prod.fst)[i] = E[i].1 by simp]
    have hd := h.dep _ (List.getElem_mem hi')
    refine ⟨E[i].2, fun j u hj => ?_, ?_, hd.2.1⟩
    · have hj2 : j < 13 := (List.getElem?_eq_some_iff.1 hj).1
      rw [show 0 + i * 13 + j = i * 13 + j by omega]
      exact (World.ownsRow.cellAt h0 (i * 13 + j) (by omega)).trans (flatH_get E i hi' j u hj)
    · rcases hd.1 with q | q
      · exact q.mono fun k hk => .inl hk
      · exact IsG.own q hd.2.2 fun k h1 h2 => .inr ⟨by omega, h2⟩
end
theorem KeptC.grownP {w W W' : World} {cs : List Value} {row : Option Nat} (h : KeptC w w.heap.size cs W) (hg : W.grownBy W' row) (hr : ∀ k, row = some k → w.heap.size + 1 ≤ k) : KeptC w w.heap.size cs W' := by
  have hb : W'.heap[w.heap.size]? = W.heap[w.heap.size]? := hg.block _ h.2.1 (fun e => by have := hr _ e.symm; omega)
  refine ⟨fun i u hu => ?_, Nat.lt_of_lt_of_le h.2.1 hg.size, h.2.2.grown hg h.2.2.size (fun j e => by have := hr j e; omega)⟩
  rw [← h.1 i u hu]
  exact World.cell?_of_block hb
/-- A row of changes that the call made itself, whose clocks are old ones of G, or own copies. -/
structure PutA (G : Nat → Prop) (w : World) (v : Value) (E : List (Ch × Value)) (U : World) : Prop where
  own : OwnH w.heap.size U v E
  dep : ∀ x ∈ E, (IsG G U x.2 x.1.deps ∨ OwnI w.heap.size U x.2 x.1.deps) ∧ Sized x.1 ∧ x.1.deps.length ≤ 17592186044416
  bel : Below w.heap.size w U
  gl : ∀ k, G k → k < w.heap.size
section
variable {G : Nat → Prop} {w : World} {v ov : Value} {E : List (Ch × Value)} {U U' : World}
theorem PutA.below (h : PutA G w v E U) (hb : Below U.heap.size U U') : PutA G w v E U' :=
  ⟨h.own.below hb, fun x hx => ⟨(h.dep x hx).1.imp (fun q => q.keep (KeepsS.of_below hb (fun k hk => Nat.lt_of_lt_of_le (h.gl k hk) h.bel.size))) (fun q => q.below hb), (h.dep x hx).2⟩, h.bel.trans (hb.mono h.bel.size), h.gl⟩
theorem PutA.push (h : PutA G w ov E U) {c : Ch} {dv v : Value} (hown : U'.ownsRow w.heap.size 35 13 v (E.length + 1) (flatH E ++ chCells c dv)) (hg : U.grownBy U' ov.ownBlock) (hd : IsG G U dv c.deps ∨ OwnI w.heap.size U dv c.deps) (hs : Sized c ∧ c.deps.length ≤ 17592186044416) :
    PutA G w v (E ++ [(c, dv)]) U' := by
  have hrow : ∀ j, ov.ownBlock = some j → w.heap.size ≤ j := fun j e => (World.ownsRow.lt h.own j e).1
  have dkeep : ∀ (d : Value) (l : List Int), (IsG G U d l ∨ OwnI w.heap.size U d l) → (IsG G U' d l ∨ OwnI w.heap.size U' d l) := fun d l hq => hq.imp
    (fun q => q.keep (KeepsS.of_grown hg (fun k hk => Nat.lt_of_lt_of_le (h.gl k hk) h.bel.size) (fun r e hS => by have := hrow r e; have := h.gl r hS; omega)))
    (fun q => OwnI.keepF q fun k e => hg.block k (World.ownsRow.lt q k e).2 (fun e2 => ownsRow_apart q h.own (by decide) k e e2.symm))
  refine ⟨OwnH.snoc hown, fun x hx => ?_, h.bel.grown hg h.bel.size (fun j e => by have := hrow j e; omega), h.gl⟩
  rcases List.mem_append.1 hx with hx | hx
  · exact ⟨dkeep _ _ (h.dep x hx).1, (h.dep x hx).2⟩
  · rw [List.mem_singleton] at hx
    subst hx
    exact ⟨dkeep _ _ hd, hs⟩
theorem PutA.firm (h : PutA G w v E U) (hl : E.length ≤ 281474976710656) : HFirm (fun k => G k ∨ (w.heap.size ≤ k ∧ k < U.heap.size)) U v (E.map Prod.fst) := by
  have h0 := h.own
  refine ⟨fun k hk => hk.elim (fun q => Nat.lt_of_lt_of_le (h.gl k q) h.bel.size) (fun q => q.2), ?_⟩
  rcases h.own.2 with ⟨rfl, hn⟩ | ⟨g, cap, cur, rfl, hg, hc, hcap, rest⟩
  · have e : E = [] := List.eq_nil_of_length_eq_zero hn
    subst e
    exact ⟨none, 0, rfl, Nat.le_refl _, by simp, .inl rfl⟩
  · refine ⟨_, cap, by simp, by simpa using hcap, by simpa using hl, .inr ⟨g, 0, rfl, .inr ⟨by omega, (Array.getElem?_eq_some_iff.1 hc).1⟩, fun i hi => ?_⟩⟩
    have hi' : i < E.length := by simpa using hi
    rw [show (E.map Prod.fst)[i] = E[i].1 by simp]
    have hd := h.dep _ (List.getElem_mem hi')
    refine ⟨E[i].2, fun j u hj => ?_, ?_, hd.2.1⟩
    · have hj2 : j < 13 := (List.getElem?_eq_some_iff.1 hj).1
      rw [show 0 + i * 13 + j = i * 13 + j by omega]
      exact (World.ownsRow.cellAt h0 (i * 13 + j) (by omega)).trans (flatH_get E i hi' j u hj)
    · rcases hd.1 with q | q
      · exact q.mono fun k hk => .inl hk
      · exact IsG.own q hd.2.2 fun k h1 h2 => .inr ⟨by omega, h2⟩
end

end Go.Proofs.Ythndgmnckpimmaa
