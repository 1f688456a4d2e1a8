/- slices.SortFunc at a row of changes of the call's own, by causal.compare. -/
import Derived.Test.YthndgmnckpimmaaCaK
import Derived.Test.YthndgmnckpimmaaCaM
import Derived.Test.YthndgmnckpimmaaWalksD
import Derived.Test.YthndgmnckpimmaaCkA
import Derived.Test.YthndgmnckpimmaaOlC
namespace Go.Proofs.Ythndgmnckpimmaa
open Go.RowKit
set_option linter.unusedVariables false
set_option linter.unusedSimpArgs false

/-- What compare answers. -/
def cmpC (x y : Ch) : Int := if cmpS x.ac x.ar y.ac y.ar = 0 then cmpI x.seq y.seq else cmpS x.ac x.ar y.ac y.ar
def ltC (x y : Ch) : Prop := x.ac < y.ac ∨ x.ac = y.ac ∧ (x.ar < y.ar ∨ x.ar = y.ar ∧ x.seq < y.seq)
theorem cmpC_lt (x y : Ch) : decide (cmpC x y < 0) = true ↔ ltC x y := by
  simp only [cmpC, cmpS, cmpI, ltC, decide_eq_true_eq]
  rcases Int.lt_trichotomy x.ac y.ac with h | h | h <;> rcases Int.lt_trichotomy x.ar y.ar with h2 | h2 | h2 <;> rcases Int.lt_trichotomy x.seq y.seq with h3 | h3 | h3 <;> simp_all <;> omega
/-- Memory grows, and draws. -/
def Grew (w w' : World) : Prop := Below w.heap.size w w' ∧ w.drawn ≤ w'.drawn
theorem Grew.refl (w : World) : Grew w w := ⟨Below.refl _ _, Nat.le_refl _⟩
theorem Grew.alloc {w w' : World} (h : Grew w w') (o : Obj) : Grew w (w'.alloc o) := ⟨h.1.alloc h.1.size o, h.2⟩
theorem Grew.drew {w w' : World} (h : Grew w w') : Grew w w'.drew := ⟨h.1.drew, Nat.le_succ_of_le h.2⟩
theorem Grew.drewN {w w' : World} (h : Grew w w') (n : Nat) : Grew w (w'.drewN n) := ⟨below_drewN h.1 n, Nat.le_trans h.2 (Nat.le_add_right _ _)⟩

theorem Grew.trans {a b c : World} (h : Grew a b) (k : Grew b c) : Grew a c := ⟨h.1.trans (k.1.mono h.1.size), Nat.le_trans h.2 k.2⟩

set_option maxHeartbeats 400000 in
theorem compare_ex (c r c2 r2 : Int) (w : World) :
    Calls Try.prog 66 #[.agg #[.int .i64 c, .int .i64 r], .agg #[.int .i64 c2, .int .i64 r2]] w fun e w' => e = .returned (.int .i64 (cmpS c r c2 r2)) ∧ w' = (w.alloc (.cells #[.int .i64 c, .int .i64 r] 33)).alloc (.cells #[.int .i64 c2, .int .i64 r2] 33) := by
  by_cases h0 : c < c2
  · have e0 : cmpI c c2 = -1 := cmpI_lt h0
    go_enter Try.func66, Try.ntmps66
    go_wp2_with (go_at_call 67; refine (cmp_any _ _ _).mono ?_; rintro e w' ⟨rfl, rfl⟩)
    go_ret
    exact ⟨ret_int (by simp [cmpS, h0]), rfl⟩
  · by_cases h1 : c2 < c
    · have e0 : cmpI c c2 = 1 := cmpI_gt h1
      go_enter Try.func66, Try.ntmps66
      go_wp2_with (go_at_call 67; refine (cmp_any _ _ _).mono ?_; rintro e w' ⟨rfl, rfl⟩)
      go_ret
      exact ⟨ret_int (by unfold cmpS; rw [if_neg (by omega), if_pos h1]), rfl⟩
    · obtain rfl : c = c2 := by omega
      have e0 : cmpI c c = 0 := cmpI_eq c
      go_enter Try.func66, Try.ntmps66
      go_wp2_with (go_at_call 67; refine (cmp_any _ _ _).mono ?_; rintro e w' ⟨rfl, rfl⟩)
      go_ret
      exact ⟨ret_int (by simp [cmpS, cmpI]), rfl⟩

set_option maxHeartbeats 1000000 in
theorem or_any (g : Nat) (a b : Int) (w : World) (h0 : w.cell? ⟨g, 0, none⟩ = some (.int .i64 a)) (h1 : w.cell? ⟨g, 1, none⟩ = some (.int .i64 b)) :
    Calls Try.prog 65 #[.slice (some ⟨g, 0, none⟩) 2 2] w fun e w' => e = .returned (.int .i64 (if a = 0 then b else a)) ∧ Grew w w' := by
  by_cases ha : a = 0
  · subst ha
    by_cases hb : b = 0
    · subst hb
      go_enter Try.func65, Try.ntmps65
      go_wp2
      refine wp_loop_rounds 3 ?_
      rw [rounds_succ]
      go_wp2
      rw [rounds_succ]
      go_wp2
      rw [rounds_succ]
      go_wp2
      go_ret
      exact ⟨rfl, Grew.refl _⟩
    · have hb2 : (b == 0) = false := by simp [hb]
      go_enter Try.func65, Try.ntmps65
      go_wp2
      refine wp_loop_rounds 2 ?_
      rw [rounds_succ]
      go_wp2
      rw [rounds_succ]
      go_wp2
      go_ret
      exact ⟨ret_int (by simp), Grew.refl _⟩
  · have ha2 : (a == 0) = false := by simp [ha]
    go_enter Try.func65, Try.ntmps65
    go_wp2
    refine wp_loop_rounds 1 ?_
    rw [rounds_succ]
    go_wp2
    go_ret
    exact ⟨ret_int (by simp [ha]), Grew.refl _⟩

-- COMPARE
def TwoB (W : World) (b : Nat) (c1 c2 : Array Value) : Prop := W.heap[b]? = some (.cells c1 35) ∧ W.heap[b + 1]? = some (.cells c2 35)
theorem TwoB.below {W W' : World} {b : Nat} {c1 c2 : Array Value} (h : TwoB W b c1 c2) (hb : Below W.heap.size W W') : TwoB W' b c1 c2 := ⟨(hb.block _ (Array.getElem?_eq_some_iff.1 h.1).1).trans h.1, (hb.block _ (Array.getElem?_eq_some_iff.1 h.2).1).trans h.2⟩

set_option maxRecDepth 100000 in
set_option maxHeartbeats 4000000 in
theorem compareC_any (ac ar sq : Int) (dv : Value) (kd nc nr pc pr fc fr : Int) (nm vl : ByteArray) (ac2 ar2 sq2 : Int) (dv2 : Value) (kd2 nc2 nr2 pc2 pr2 fc2 fr2 : Int) (nm2 vl2 : ByteArray) (w : World) :
    Calls Try.prog 48 #[.agg #[.int .i64 ac, .int .i64 ar, .int .i64 sq, dv, .int .i64 kd, .int .i64 nc, .int .i64 nr, .int .i64 pc, .int .i64 pr, .int .i64 fc, .int .i64 fr, .string nm, .string vl], .agg #[.int .i64 ac2, .int .i64 ar2, .int .i64 sq2, dv2, .int .i64 kd2, .int .i64 nc2, .int .i64 nr2, .int .i64 pc2, .int .i64 pr2, .int .i64 fc2, .int .i64 fr2, .string nm2, .string vl2]] w fun e w' => e = .returned (.int .i64 (if cmpS ac ar ac2 ar2 = 0 then cmpI sq sq2 else cmpS ac ar ac2 ar2)) ∧ Grew w w' := by
  obtain ⟨W0, eW⟩ : ∃ X, X = (w.alloc (.cells #[.int .i64 ac, .int .i64 ar, .int .i64 sq, dv, .int .i64 kd, .int .i64 nc, .int .i64 nr, .int .i64 pc, .int .i64 pr, .int .i64 fc, .int .i64 fr, .string nm, .string vl] 35)).alloc (.cells #[.int .i64 ac2, .int .i64 ar2, .int .i64 sq2, dv2, .int .i64 kd2, .int .i64 nc2, .int .i64 nr2, .int .i64 pc2, .int .i64 pr2, .int .i64 fc2, .int .i64 fr2, .string nm2, .string vl2] 35) := ⟨_, rfl⟩
  have HG0 : Hid (Grew w W0) := by rw [eW]; exact ((Grew.refl w).alloc _).alloc _
  have HT : Hid (TwoB W0 w.heap.size #[.int .i64 ac, .int .i64 ar, .int .i64 sq, dv, .int .i64 kd, .int .i64 nc, .int .i64 nr, .int .i64 pc, .int .i64 pr, .int .i64 fc, .int .i64 fr, .string nm, .string vl] #[.int .i64 ac2, .int .i64 ar2, .int .i64 sq2, dv2, .int .i64 kd2, .int .i64 nc2, .int .i64 nr2, .int .i64 pc2, .int .i64 pr2, .int .i64 fc2, .int .i64 fr2, .string nm2, .string vl2]) := by
    have h2 := heap_alloc_new (w.alloc (.cells #[.int .i64 ac, .int .i64 ar, .int .i64 sq, dv, .int .i64 kd, .int .i64 nc, .int .i64 nr, .int .i64 pc, .int .i64 pr, .int .i64 fc, .int .i64 fr, .string nm, .string vl] 35)) (.cells #[.int .i64 ac2, .int .i64 ar2, .int .i64 sq2, dv2, .int .i64 kd2, .int .i64 nc2, .int .i64 nr2, .int .i64 pc2, .int .i64 pr2, .int .i64 fc2, .int .i64 fr2, .string nm2, .string vl2] 35)
    rw [show (w.alloc (.cells #[.int .i64 ac, .int .i64 ar, .int .i64 sq, dv, .int .i64 kd, .int .i64 nc, .int .i64 nr, .int .i64 pc, .int .i64 pr, .int .i64 fc, .int .i64 fr, .string nm, .string vl] 35)).heap.size = w.heap.size + 1 by simp] at h2
    rw [eW]
    exact ⟨(Below.heap_alloc _ _ _ (by simp)).trans (heap_alloc_new w _), h2⟩
  obtain ⟨rr, er⟩ : ∃ x, x = if cmpS ac ar ac2 ar2 = 0 then cmpI sq sq2 else cmpS ac ar ac2 ar2 := ⟨_, rfl⟩
  rw [← er]
  have HR : Hid (rr = if cmpS ac ar ac2 ar2 = 0 then cmpI sq sq2 else cmpS ac ar ac2 ar2) := er
  clear er
  go_enter Try.func48, Try.ntmps48
  go_wp2
  rw [← eW]
  clear eW
  refine wp_region_held_drew (S := fun W => TwoB W w.heap.size #[.int .i64 ac, .int .i64 ar, .int .i64 sq, dv, .int .i64 kd, .int .i64 nc, .int .i64 nr, .int .i64 pc, .int .i64 pr, .int .i64 fc, .int .i64 fr, .string nm, .string vl] #[.int .i64 ac2, .int .i64 ar2, .int .i64 sq2, dv2, .int .i64 kd2, .int .i64 nc2, .int .i64 nr2, .int .i64 pc2, .int .i64 pr2, .int .i64 fc2, .int .i64 fr2, .string nm2, .string vl2]) (by kernel_rfl) HT.out (fun hHeld => ?_)
  obtain ⟨Uc3u0, eW⟩ : ∃ X, X = W0.drew := ⟨_, rfl⟩
  have HG : Hid (Grew w Uc3u0) := by rw [eW]; exact HG0.out.drew
  have hb : Below W0.heap.size W0 Uc3u0 := by rw [eW]; exact (Below.refl _ _).drew
  replace HT : Hid (TwoB Uc3u0 w.heap.size #[.int .i64 ac, .int .i64 ar, .int .i64 sq, dv, .int .i64 kd, .int .i64 nc, .int .i64 nr, .int .i64 pc, .int .i64 pr, .int .i64 fc, .int .i64 fr, .string nm, .string vl] #[.int .i64 ac2, .int .i64 ar2, .int .i64 sq2, dv2, .int .i64 kd2, .int .i64 nc2, .int .i64 nr2, .int .i64 pc2, .int .i64 pr2, .int .i64 fc2, .int .i64 fr2, .string nm2, .string vl2]) := HT.out.below hb
  rw [← eW] at hHeld ⊢
  clear eW hb
  refine wpAnyH_take (i := 0) (oi := ⟨some 5, _, _, _, _, _⟩) (v := ?vc3ux0) rfl (by kernel_rfl) (by kernel_rfl) (by kernel_rfl) (fun _ _ _ h => h) (Or.inl ⟨by rfl, ?hyc3ux0⟩) hHeld ?restc3ux0
  case hyc3ux0 => (intro w _; go_simp; try with_reducible rfl)
  simp only [Act.put, List.setIfInBounds_toArray, List.set_cons_zero, List.set_cons_succ]
  refine wpAnyH_take (i := 1) (oi := ⟨some 6, _, _, _, _, _⟩) (v := ?vc3ux1) rfl (by kernel_rfl) (by kernel_rfl) (by kernel_rfl) (fun _ _ _ h => h) (Or.inl ⟨by rfl, ?hyc3ux1⟩) hHeld ?restc3ux1
  case hyc3ux1 => (intro w hSw; (try dsimp only at hSw); obtain ⟨hx, hy⟩ := hSw; obtain ⟨k_0, k_1, k_2, k_3, k_4, k_5, k_6, k_7, k_8, k_9, k_10, k_11, k_12⟩ := row_cells hx; obtain ⟨m_0, m_1, m_2, m_3, m_4, m_5, m_6, m_7, m_8, m_9, m_10, m_11, m_12⟩ := row_cells hy; go_simp; try with_reducible rfl)
  simp only [Act.put, List.setIfInBounds_toArray, List.set_cons_zero, List.set_cons_succ]
  refine wpAnyH_take (i := 2) (oi := ⟨some 7, _, _, _, _, _⟩) (v := ?vc3ux2) rfl (by kernel_rfl) (by kernel_rfl) (by kernel_rfl) (fun _ _ _ h => h) (Or.inl ⟨by rfl, ?hyc3ux2⟩) hHeld ?restc3ux2
  case hyc3ux2 => (intro w _; go_simp; try with_reducible rfl)
  simp only [Act.put, List.setIfInBounds_toArray, List.set_cons_zero, List.set_cons_succ]
  refine wpAnyH_take (i := 3) (oi := ⟨some 8, _, _, _, _, _⟩) (v := ?vc3ux3) rfl (by kernel_rfl) (by kernel_rfl) (by kernel_rfl) (fun _ _ _ h => h) (Or.inl ⟨by rfl, ?hyc3ux3⟩) hHeld ?restc3ux3
  case hyc3ux3 => (intro w hSw; (try dsimp only at hSw); obtain ⟨hx, hy⟩ := hSw; obtain ⟨k_0, k_1, k_2, k_3, k_4, k_5, k_6, k_7, k_8, k_9, k_10, k_11, k_12⟩ := row_cells hx; obtain ⟨m_0, m_1, m_2, m_3, m_4, m_5, m_6, m_7, m_8, m_9, m_10, m_11, m_12⟩ := row_cells hy; go_simp; try with_reducible rfl)
  simp only [Act.put, List.setIfInBounds_toArray, List.set_cons_zero, List.set_cons_succ]
  refine wpAnyH_take (i := 5) (oi := ⟨some 10, _, _, _, _, _⟩) (v := ?vc3ux5) rfl (by kernel_rfl) (by kernel_rfl) (by kernel_rfl) (fun _ _ _ h => h) (Or.inl ⟨by rfl, ?hyc3ux5⟩) hHeld ?restc3ux5
  case hyc3ux5 => (intro w _; go_simp; try with_reducible rfl)
  simp only [Act.put, List.setIfInBounds_toArray, List.set_cons_zero, List.set_cons_succ]
  refine wpAnyH_take (i := 6) (oi := ⟨some 11, _, _, _, _, _⟩) (v := ?vc3ux6) rfl (by kernel_rfl) (by kernel_rfl) (by kernel_rfl) (fun _ _ _ h => h) (Or.inl ⟨by rfl, ?hyc3ux6⟩) hHeld ?restc3ux6
  case hyc3ux6 => (intro w hSw; (try dsimp only at hSw); obtain ⟨hx, hy⟩ := hSw; obtain ⟨k_0, k_1, k_2, k_3, k_4, k_5, k_6, k_7, k_8, k_9, k_10, k_11, k_12⟩ := row_cells hx; obtain ⟨m_0, m_1, m_2, m_3, m_4, m_5, m_6, m_7, m_8, m_9, m_10, m_11, m_12⟩ := row_cells hy; go_simp; try with_reducible rfl)
  simp only [Act.put, List.setIfInBounds_toArray, List.set_cons_zero, List.set_cons_succ]
  refine wpAnyH_take (i := 7) (oi := ⟨some 12, _, _, _, _, _⟩) (v := ?vc3ux7) rfl (by kernel_rfl) (by kernel_rfl) (by kernel_rfl) (fun _ _ _ h => h) (Or.inl ⟨by rfl, ?hyc3ux7⟩) hHeld ?restc3ux7
  case hyc3ux7 => (intro w _; go_simp; try with_reducible rfl)
  simp only [Act.put, List.setIfInBounds_toArray, List.set_cons_zero, List.set_cons_succ]
  refine wpAnyH_take (i := 8) (oi := ⟨some 13, _, _, _, _, _⟩) (v := ?vc3ux8) rfl (by kernel_rfl) (by kernel_rfl) (by kernel_rfl) (fun _ _ _ h => h) (Or.inl ⟨by rfl, ?hyc3ux8⟩) hHeld ?restc3ux8
  case hyc3ux8 => (intro w hSw; (try dsimp only at hSw); obtain ⟨hx, hy⟩ := hSw; obtain ⟨k_0, k_1, k_2, k_3, k_4, k_5, k_6, k_7, k_8, k_9, k_10, k_11, k_12⟩ := row_cells hx; obtain ⟨m_0, m_1, m_2, m_3, m_4, m_5, m_6, m_7, m_8, m_9, m_10, m_11, m_12⟩ := row_cells hy; go_simp; try with_reducible rfl)
  simp only [Act.put, List.setIfInBounds_toArray, List.set_cons_zero, List.set_cons_succ]
  refine wpAnyH_ready (rs := [4]) (by kernel_rfl) (by simp) ?_
  refine AllReadyH.cons (o := ⟨some 9, _, _, _, _, _⟩) rfl (fun K hK => ?_) AllReadyH.nil
  go_simp
  refine (compare_ex _ _ _ _ _).mono ?_
  rintro e Uc3u1 ⟨rfl, hw⟩
  have HG2 : Hid (Grew w Uc3u1) := by rw [hw]; exact (HG.out.alloc _).alloc _
  have HT2 : Hid (TwoB Uc3u1 w.heap.size #[.int .i64 ac, .int .i64 ar, .int .i64 sq, dv, .int .i64 kd, .int .i64 nc, .int .i64 nr, .int .i64 pc, .int .i64 pr, .int .i64 fc, .int .i64 fr, .string nm, .string vl] #[.int .i64 ac2, .int .i64 ar2, .int .i64 sq2, dv2, .int .i64 kd2, .int .i64 nc2, .int .i64 nr2, .int .i64 pc2, .int .i64 pr2, .int .i64 fc2, .int .i64 fr2, .string nm2, .string vl2]) := HT.out.below (by rw [hw]; exact ((Below.refl _ _).alloc (Nat.le_refl _) _).alloc (by simp) _)
  clear hw
  (try go_wp2_with fail)
  refine hK.out _ _ (HT2.out) (fun hHeld2 => ?_)
  clear hK K hHeld
  have hHeld := hHeld2
  clear hHeld2
  (try simp only [Act.put, List.setIfInBounds_toArray, List.set_cons_zero, List.set_cons_succ])
  clear HG HT
  have HG := HG2
  have HT := HT2
  clear HG2 HT2
  refine wpAnyH_ready (rs := [9]) (by kernel_rfl) (by simp) ?_
  refine AllReadyH.cons (o := ⟨some 14, _, _, _, _, _⟩) rfl (fun K hK => ?_) AllReadyH.nil
  go_simp
  refine (cmp_any _ _ _).mono ?_
  rintro e Uc3u2 ⟨rfl, hw⟩
  replace hw := hw.symm
  subst hw
  (try go_wp2_with fail)
  refine hK.out _ _ (HT.out) (fun hHeld2 => ?_)
  clear hK K hHeld
  have hHeld := hHeld2
  clear hHeld2
  (try simp only [Act.put, List.setIfInBounds_toArray, List.set_cons_zero, List.set_cons_succ])
  refine wpAnyH_ready (rs := [10]) (by kernel_rfl) (by simp) ?_
  refine AllReadyH.cons (o := ⟨some 15, _, _, _, _, _⟩) rfl (fun K hK => ?_) AllReadyH.nil
  go_simp
  obtain ⟨Uc3u3, eW⟩ : ∃ X, X = Uc3u1.alloc (.cells #[.int .i64 (cmpS ac ar ac2 ar2), .int .i64 (cmpI sq sq2)] 3) := ⟨_, rfl⟩
  have HG2 : Hid (Grew w Uc3u3) := by rw [eW]; exact HG.out.alloc _
  have HT2 : Hid (TwoB Uc3u3 w.heap.size #[.int .i64 ac, .int .i64 ar, .int .i64 sq, dv, .int .i64 kd, .int .i64 nc, .int .i64 nr, .int .i64 pc, .int .i64 pr, .int .i64 fc, .int .i64 fr, .string nm, .string vl] #[.int .i64 ac2, .int .i64 ar2, .int .i64 sq2, dv2, .int .i64 kd2, .int .i64 nc2, .int .i64 nr2, .int .i64 pc2, .int .i64 pr2, .int .i64 fc2, .int .i64 fr2, .string nm2, .string vl2]) := by rw [eW]; exact HT.out.below ((Below.refl _ _).alloc (Nat.le_refl _) _)
  have hO : Uc3u3.cell? ⟨Uc3u1.heap.size, 0, none⟩ = some (.int .i64 (cmpS ac ar ac2 ar2)) ∧ Uc3u3.cell? ⟨Uc3u1.heap.size, 1, none⟩ = some (.int .i64 (cmpI sq sq2)) := by rw [eW]; simp [go_sem]
  have HO : Hid _ := hO
  clear hO
  rw [← eW]
  refine hK.out _ _ (HT2.out) (fun hHeld2 => ?_)
  clear hK K hHeld
  have hHeld := hHeld2
  clear hHeld2
  (try simp only [Act.put, List.setIfInBounds_toArray, List.set_cons_zero, List.set_cons_succ])
  clear HG HT eW
  have HG := HG2
  have HT := HT2
  clear HG2 HT2
  refine wpAnyH_ready (rs := [11]) (by kernel_rfl) (by simp) ?_
  refine AllReadyH.cons (o := ⟨some 16, _, _, _, _, _⟩) rfl (fun K hK => ?_) AllReadyH.nil
  go_simp
  refine (or_any _ _ _ _ HO.out.1 HO.out.2).mono ?_
  rintro e Uc3u4 ⟨he, hw⟩
  rw [← HR.out] at he
  subst he
  (try go_wp2_with fail)
  have HG2 : Hid (Grew w Uc3u4) := HG.out.trans hw
  have HT2 : Hid (TwoB Uc3u4 w.heap.size #[.int .i64 ac, .int .i64 ar, .int .i64 sq, dv, .int .i64 kd, .int .i64 nc, .int .i64 nr, .int .i64 pc, .int .i64 pr, .int .i64 fc, .int .i64 fr, .string nm, .string vl] #[.int .i64 ac2, .int .i64 ar2, .int .i64 sq2, dv2, .int .i64 kd2, .int .i64 nc2, .int .i64 nr2, .int .i64 pc2, .int .i64 pr2, .int .i64 fc2, .int .i64 fr2, .string nm2, .string vl2]) := HT.out.below hw.1
  refine hK.out _ _ (HT2.out) (fun hHeld2 => ?_)
  clear hK K hHeld
  have hHeld := hHeld2
  clear hHeld2
  (try simp only [Act.put, List.setIfInBounds_toArray, List.set_cons_zero, List.set_cons_succ])
  clear HG HT HO hw
  have HG := HG2
  have HT := HT2
  clear HG2 HT2
  refine wpAnyH_take (i := 12) (oi := ⟨some 4, _, _, _, _, _⟩) (v := ?vc3u_4_9_10_11x12) rfl (by kernel_rfl) (by kernel_rfl) (by kernel_rfl) (fun _ _ _ h => h) (Or.inl ⟨by rfl, ?hyc3u_4_9_10_11x12⟩) hHeld ?restc3u_4_9_10_11x12
  case hyc3u_4_9_10_11x12 => (intro w _; go_simp; try with_reducible rfl)
  simp only [Act.put, List.setIfInBounds_toArray, List.set_cons_zero, List.set_cons_succ]
  refine wpAnyH_done (by kernel_rfl) ?_ _
  clear hHeld
  go_wp2
  go_ret
  exact ⟨rfl, HG.out⟩

end Go.Proofs.Ythndgmnckpimmaa
