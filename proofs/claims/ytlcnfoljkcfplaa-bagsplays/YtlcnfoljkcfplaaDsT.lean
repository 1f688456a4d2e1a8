/- told of a net that is no nil one. -/
import Derived.Test.YtlcnfoljkcfplaaDsS
namespace Go.Proofs.Ytlcnfoljkcfplaa
open Go.RowKit
set_option linter.unusedVariables false
set_option linter.unusedSimpArgs false

theorem wall_mem {n : Nat} {B : Nat → List Pc} {x : Nat × Nat × Nat} (h : x ∈ wall n B n) : x.1 < n ∧ x.2.1 < n ∧ x.2.2 = wt n B x.1 x.2.1 ∧ 0 < x.2.2 := by
  unfold wall wrow at h
  simp only [List.mem_flatMap, List.mem_range, List.mem_filterMap] at h
  obtain ⟨f, hf, t, ht, e⟩ := h
  unfold wone at e
  split at e
  · rename_i h0
    injection e with e
    subst e
    exact ⟨hf, ht, rfl, h0⟩
  · cases e
theorem wt_link {n : Nat} {B : Nat → List Pc} {f t : Nat} (hf : f < n) (ht : t < n) (h : 0 < wt n B f t) : linkE n (f : Int) (t : Int) = 0 := by
  have e : ¬ f = t := fun e => by unfold wt at h; rw [if_pos e] at h; omega
  unfold linkE
  rw [if_pos ⟨⟨by omega, by omega⟩, by omega, by omega⟩, if_neg (by omega)]
/-- What stands while a net is told. -/
structure TdS (w : World) (yb nb n : Nat) (F G : Nat → Prop) (B : Nat → List Pc) (v : Value) (L : List Sn) (wv : Value) (D : List (Nat × Nat × Nat)) (W : World) : Prop where
  net : NetOk F W nb n B
  doc : SFirm G W v L
  ybx : W.heap[yb]? = some (.cells #[.int .i64 (n : Int), v] 30)
  own : OwnV w.heap.size W wv D
  bel : Below w.heap.size w W
theorem TdS.below {w W W' : World} {yb nb n : Nat} {F G : Nat → Prop} {B : Nat → List Pc} {v wv : Value} {L : List Sn} {D : List (Nat × Nat × Nat)} (h : TdS w yb nb n F G B v L wv D W) (hb : Below W.heap.size W W') : TdS w yb nb n F G B v L wv D W' := ⟨h.net.below hb, h.doc.below hb, (hb.block _ (row_lt h.ybx)).trans h.ybx, h.own.below hb, h.bel.trans (hb.mono h.bel.size)⟩
theorem own_row {b : Nat} {w : World} {a : Option Addr} {c : Nat} {D : List (Nat × Nat × Nat)} (h : OwnV b w (.slice a D.length c) D) {i : Nat} (hi : i < D.length) : ∃ g, a = some ⟨g, 0, none⟩ ∧ w.cell? ⟨g, i * 3, none⟩ = some (.int .i64 (D[i].1 : Int)) ∧ w.cell? ⟨g, i * 3 + 1, none⟩ = some (.int .i64 (D[i].2.1 : Int)) ∧ w.cell? ⟨g, i * 3 + 2, none⟩ = some (.int .i64 (D[i].2.2 : Int)) := by
  obtain ⟨g, e, _, hr⟩ := (h.ways (fun _ => True) (fun _ _ _ => trivial)).resolve_left (by intro e; subst e; simp at hi)
  exact ⟨g, e, hr i hi⟩

set_option maxRecDepth 100000 in
set_option maxHeartbeats 8000000 in
theorem told_any (F G : Nat → Prop) (nb n : Nat) (v : Value) (L : List Sn) (B : Nat → List Pc) (w : World) (hN : NetOk F w nb n B) (h : SFirm G w v L) (hr : Rel n B L) (hL : L.length ≤ 400) :
    Calls Try.prog 10 #[.pointer (some ⟨nb, 0, none⟩), .agg #[.int .i64 (n : Int), v]] w fun e w' => e = .returned (.bool true) ∧ Below w.heap.size w w' := by
  obtain ⟨a1, c1, e1⟩ := h.isS.form
  subst e1
  have HR : Hid (Rel n B L) := hr
  have HL : Hid (L.length ≤ 400) := hL
  have HTo : Hid (sumW (wall n B n) = L.length) := hr.total
  have Hn : Hid (n ≤ 64) := hN.small
  obtain ⟨W0, eW⟩ : ∃ X, X = w.alloc (.cells #[.int .i64 (n : Int), .slice a1 L.length c1] 30) := ⟨_, rfl⟩
  have hb : Below w.heap.size w W0 := by rw [eW]; exact (Below.refl _ _).alloc (Nat.le_refl _) _
  have HN : Hid (NetOk F W0 nb n B ∧ SFirm G W0 (.slice a1 L.length c1) L ∧ W0.heap[w.heap.size]? = some (.cells #[.int .i64 (n : Int), .slice a1 L.length c1] 30) ∧ Below w.heap.size w W0) := ⟨hN.below hb, h.below hb, by rw [eW]; exact heap_alloc_new _ _, hb⟩
  have HE := hide9 eW
  clear hN h hr hL eW hb
  go_enter Try.func10, Try.ntmps10
  go_wp2_with fail
  rw [← HE.out]
  clear HE
  refine (refWays_any n _ L B _ HN.out.2.1.isS HR.out Hn.out).mono ?_
  rintro e w1 ⟨wv, rfl, ho, hb⟩
  obtain ⟨D, eD⟩ : ∃ D, D = wall n B n := ⟨_, rfl⟩
  have HDl : Hid (D.length ≤ 4096) := (by show _ ≤ _; rw [eD]; exact Nat.le_trans (wall_len n B n) (Nat.mul_le_mul Hn.out Hn.out))
  have HD : Hid (D = wall n B n) := eD
  rw [← eD] at ho
  obtain ⟨aw, cu, ewv⟩ := ho.form
  subst ewv
  have HT : Hid (TdS w w.heap.size nb n F G B (.slice a1 L.length c1) L (.slice aw D.length cu) D w1) := ⟨HN.out.1.below hb, HN.out.2.1.below hb, (hb.block _ (row_lt HN.out.2.2.1)).trans HN.out.2.2.1, ho.le HN.out.2.2.2.size, HN.out.2.2.2.trans (hb.mono HN.out.2.2.2.size)⟩
  clear ho hb HN eD
  go_upto_region 2 with fail
  refine wp_region_held_drew (S := fun W' => W'.heap[w.heap.size]? = some (.cells #[.int .i64 (n : Int), (.slice a1 L.length c1)] 30) ∧ True) (by kernel_rfl) ⟨HT.out.ybx, trivial⟩ (fun hHeld => ?_)
  obtain ⟨Ua5u0, eW⟩ : ∃ X, X = w1.drew := ⟨_, rfl⟩
  have hb : Below w1.heap.size w1 Ua5u0 := by rw [eW]; exact (Below.refl _ _).drew
  replace HT : Hid (TdS w w.heap.size nb n F G B (.slice a1 L.length c1) L (.slice aw D.length cu) D Ua5u0) := HT.out.below hb
  rw [← eW] at hHeld ⊢
  clear eW hb
  refine tkW 0 (some 15) (v := ?_) ?_ hHeld ?_
  rotate_left
  · (intro ww _; go_simp; try with_reducible rfl)
  refine tkW 2 (some 17) (v := ?_) ?_ hHeld ?_
  rotate_left
  · (intro ww _; go_simp; try with_reducible rfl)
  refine tkW 3 (some 18) (v := ?_) ?_ hHeld ?_
  rotate_left
  · (intro ww hSw; (try dsimp only at hSw); obtain ⟨y_0, y_1, _, _⟩ := row2_cells hSw.1; go_simp; try with_reducible rfl)
  refine wpAnyH_ready (rs := [1]) (by kernel_rfl) (by simp) ?_
  refine AllReadyH.cons (o := ⟨some 16, _, _, _, _, _⟩) rfl (fun K hK => ?_) AllReadyH.nil
  go_simp
  refine (size_any F nb n B _ HT.out.net).mono ?_
  rintro e Ua5u1 ⟨rfl, hw⟩
  have hb : Below Ua5u0.heap.size Ua5u0 Ua5u1 := by rw [hw]; exact Below.refl _ _
  clear hw
  (try go_wp2_with fail)
  refine hK.out _ _ (⟨(hb.block _ (row_lt hHeld.1)).trans hHeld.1, trivial⟩) (fun hHeld2 => ?_)
  clear hK K hHeld
  have hHeld := hHeld2
  clear hHeld2
  (try simp only [Act.put, List.setIfInBounds_toArray, List.set_cons_zero, List.set_cons_succ])
  replace HT : Hid (TdS w w.heap.size nb n F G B (.slice a1 L.length c1) L (.slice aw D.length cu) D Ua5u1) := HT.out.below hb
  clear hb
  refine tkW 4 (some 19) (v := .bool false) ?_ hHeld ?_
  · (intro ww hSw; (try dsimp only at hSw); obtain ⟨y_0, y_1, _, _⟩ := row2_cells hSw.1; go_simp; try simp)
  refine tkW 5 (some 20) (v := ?_) ?_ hHeld ?_
  rotate_left
  · (intro ww _; go_simp; try with_reducible rfl)
  refine tkW 6 (some 21) (v := ?_) ?_ hHeld ?_
  rotate_left
  · (intro ww _; go_simp; try with_reducible rfl)
  refine tkW 8 (some 23) (v := ?_) ?_ hHeld ?_
  rotate_left
  · (intro ww _; go_simp; try with_reducible rfl)
  refine tkW 9 (some 24) (v := ?_) ?_ hHeld ?_
  rotate_left
  · (intro ww hSw; (try dsimp only at hSw); obtain ⟨y_0, y_1, _, _⟩ := row2_cells hSw.1; go_simp; try with_reducible rfl)
  refine tkW 10 (some 25) (v := ?_) ?_ hHeld ?_
  rotate_left
  · (intro ww hSw; (try dsimp only at hSw); obtain ⟨y_0, y_1, _, _⟩ := row2_cells hSw.1; go_simp; try with_reducible rfl)
  refine wpAnyH_ready (rs := [7]) (by kernel_rfl) (by simp) ?_
  refine AllReadyH.cons (o := ⟨some 22, _, _, _, _, _⟩) rfl (fun K hK => ?_) AllReadyH.nil
  go_simp
  refine (len_any F nb n B _ HT.out.net).mono ?_
  rintro e Ua5u2 ⟨rfl, hb⟩
  rw [HTo.out]
  (try go_wp2_with fail)
  refine hK.out _ _ (⟨(hb.block _ (row_lt hHeld.1)).trans hHeld.1, trivial⟩) (fun hHeld2 => ?_)
  clear hK K hHeld
  have hHeld := hHeld2
  clear hHeld2
  (try simp only [Act.put, List.setIfInBounds_toArray, List.set_cons_zero, List.set_cons_succ])
  replace HT : Hid (TdS w w.heap.size nb n F G B (.slice a1 L.length c1) L (.slice aw D.length cu) D Ua5u2) := HT.out.below hb
  clear hb
  refine tkW 11 (some 26) (v := .bool false) ?_ hHeld ?_
  · (intro ww hSw; (try dsimp only at hSw); obtain ⟨y_0, y_1, _, _⟩ := row2_cells hSw.1; go_simp; try simp)
  refine tkW 12 (some 27) (v := ?_) ?_ hHeld ?_
  rotate_left
  · (intro ww _; go_simp; try with_reducible rfl)
  refine wpAnyH_done (by kernel_rfl) ?_ _
  clear hHeld
  go_wp2
  go_loopw [6] (fun iv wr => ∃ i : Nat, i ≤ D.length ∧ iv = .int .i64 (i : Int) ∧ Hid (TdS w w.heap.size nb n F G B (.slice a1 L.length c1) L (.slice aw D.length cu) D wr)) (fun iv _ => D.length - (intOf iv).toNat)
  case atStart => exact ⟨0, Nat.zero_le _, rfl, HT⟩
  case round =>
    clear HT
    obtain ⟨i, hi, rfl, HT⟩ := hrel
    have hDl := HDl.out
    by_cases hlt : i < D.length
    · obtain ⟨b, rfl, hcs⟩ := own_row HT.out.own hlt
      obtain ⟨x, ex⟩ : ∃ x, x = D[i] := ⟨_, rfl⟩
      rw [← ex] at hcs
      obtain ⟨q0, q1, q2⟩ := hcs
      obtain ⟨m1, m2, m3, m4⟩ := wall_mem (show x ∈ wall n B n by rw [← HD.out, ex]; exact List.getElem_mem hlt)
      have HLk : Hid (linkE n (x.1 : Int) (x.2.1 : Int) = 0) := wt_link m1 m2 (by rw [← m3]; exact m4)
      have HWe : Hid (waitL L (x.1 : Int) (x.2.1 : Int) = x.2.2) := (HR.out.wt m1 m2).trans m3.symm
      have HWt : Hid ((if linkE n (x.1 : Int) (x.2.1 : Int) = 0 then ((B (plc n (x.1 : Int) (x.2.1 : Int))).length : Int) else 0) = (x.2.2 : Int)) := (wt_is B m1 m2).trans (by rw [m3])
      have HWl : Hid (x.2.2 ≤ 400) := (by show _ ≤ _; rw [← HWe.out]; exact Nat.le_trans (wait_le _ _ _) HL.out)
      clear ex m1 m2 m3 m4
      obtain ⟨w5, ew5⟩ : ∃ X, X = wr.alloc (.cells #[.int .i64 (x.1 : Int), .int .i64 (x.2.1 : Int), .int .i64 (x.2.2 : Int)] 71) := ⟨_, rfl⟩
      have hb5 : Below wr.heap.size wr w5 := by rw [ew5]; exact (Below.refl _ _).alloc (Nat.le_refl _) _
      obtain ⟨xb, exb⟩ : ∃ y, y = wr.heap.size := ⟨_, rfl⟩
      have HX : Hid (w5.heap[xb]? = some (.cells #[.int .i64 (x.1 : Int), .int .i64 (x.2.1 : Int), .int .i64 (x.2.2 : Int)] 71)) := (by rw [ew5, exb]; exact heap_alloc_new _ _)
      replace HT := hide9 (HT.out.below hb5)
      have k1 : (i : Int) < (D.length : Int) := by omega
      have k0 : (0 : Int) ≤ (i : Int) := by omega
      have HE5 := hide9 (And.intro ew5 exb)
      clear hb5 ew5 exb
      go_upto_region 8 with fail
      rw [← HE5.out.1, ← HE5.out.2]
      clear HE5 q0 q1 q2
      refine wp_region_held_drew (S := fun W' => W'.heap[xb]? = some (.cells #[.int .i64 (x.1 : Int), .int .i64 (x.2.1 : Int), .int .i64 (x.2.2 : Int)] 71) ∧ True) (by kernel_rfl) ⟨HX.out, trivial⟩ (fun hHeld => ?_)
      obtain ⟨Ub6u0, eW⟩ : ∃ X, X = w5.drew := ⟨_, rfl⟩
      have hb : Below w5.heap.size w5 Ub6u0 := by rw [eW]; exact (Below.refl _ _).drew
      replace HT : Hid (TdS w w.heap.size nb n F G B (.slice a1 L.length c1) L (.slice (some ⟨b, 0, none⟩) D.length cu) D Ub6u0) := HT.out.below hb
      replace HX : Hid (Ub6u0.heap[xb]? = some (.cells #[.int .i64 (x.1 : Int), .int .i64 (x.2.1 : Int), .int .i64 (x.2.2 : Int)] 71)) := (hb.block _ (row_lt HX.out)).trans HX.out
      rw [← eW] at hHeld ⊢
      clear eW hb
      refine tkW 0 (some 38) (v := ?_) ?_ hHeld ?_
      rotate_left
      · (intro ww _; go_simp; try with_reducible rfl)
      refine tkW 1 (some 39) (v := ?_) ?_ hHeld ?_
      rotate_left
      · (intro ww _; go_simp; try with_reducible rfl)
      refine tkW 2 (some 40) (v := ?_) ?_ hHeld ?_
      rotate_left
      · (intro ww hSw; (try dsimp only at hSw); have s_0 : ww.cell? ⟨xb, 0, none⟩ = some (.int .i64 (x.1 : Int)) := (by rw [cell_of_row _ _ _ _ _ _ hSw.1]; rfl); have s_1 : ww.cell? ⟨xb, 1, none⟩ = some (.int .i64 (x.2.1 : Int)) := (by rw [cell_of_row _ _ _ _ _ _ hSw.1]; rfl); have s_2 : ww.cell? ⟨xb, 2, none⟩ = some (.int .i64 (x.2.2 : Int)) := (by rw [cell_of_row _ _ _ _ _ _ hSw.1]; rfl); go_simp; try with_reducible rfl)
      refine tkW 3 (some 41) (v := ?_) ?_ hHeld ?_
      rotate_left
      · (intro ww _; go_simp; try with_reducible rfl)
      refine tkW 4 (some 42) (v := ?_) ?_ hHeld ?_
      rotate_left
      · (intro ww hSw; (try dsimp only at hSw); have s_0 : ww.cell? ⟨xb, 0, none⟩ = some (.int .i64 (x.1 : Int)) := (by rw [cell_of_row _ _ _ _ _ _ hSw.1]; rfl); have s_1 : ww.cell? ⟨xb, 1, none⟩ = some (.int .i64 (x.2.1 : Int)) := (by rw [cell_of_row _ _ _ _ _ _ hSw.1]; rfl); have s_2 : ww.cell? ⟨xb, 2, none⟩ = some (.int .i64 (x.2.2 : Int)) := (by rw [cell_of_row _ _ _ _ _ _ hSw.1]; rfl); go_simp; try with_reducible rfl)
      refine tkW 6 (some 44) (v := ?_) ?_ hHeld ?_
      rotate_left
      · (intro ww _; go_simp; try with_reducible rfl)
      refine tkW 7 (some 45) (v := ?_) ?_ hHeld ?_
      rotate_left
      · (intro ww hSw; (try dsimp only at hSw); have s_0 : ww.cell? ⟨xb, 0, none⟩ = some (.int .i64 (x.1 : Int)) := (by rw [cell_of_row _ _ _ _ _ _ hSw.1]; rfl); have s_1 : ww.cell? ⟨xb, 1, none⟩ = some (.int .i64 (x.2.1 : Int)) := (by rw [cell_of_row _ _ _ _ _ _ hSw.1]; rfl); have s_2 : ww.cell? ⟨xb, 2, none⟩ = some (.int .i64 (x.2.2 : Int)) := (by rw [cell_of_row _ _ _ _ _ _ hSw.1]; rfl); go_simp; try with_reducible rfl)
      refine wpAnyH_ready (rs := [5]) (by kernel_rfl) (by simp) ?_
      refine AllReadyH.cons (o := ⟨some 43, _, _, _, _, _⟩) rfl (fun K hK => ?_) AllReadyH.nil
      go_simp
      refine (waiting_any F nb n B _ _ _ HT.out.net).mono ?_
      rintro e Ub6u1 ⟨rfl, hb⟩
      rw [HWt.out]
      (try go_wp2_with fail)
      refine hK.out _ _ (⟨(hb.block _ (row_lt hHeld.1)).trans hHeld.1, trivial⟩) (fun hHeld2 => ?_)
      clear hK K hHeld
      have hHeld := hHeld2
      clear hHeld2
      (try simp only [Act.put, List.setIfInBounds_toArray, List.set_cons_zero, List.set_cons_succ])
      replace HT : Hid (TdS w w.heap.size nb n F G B (.slice a1 L.length c1) L (.slice (some ⟨b, 0, none⟩) D.length cu) D Ub6u1) := HT.out.below hb
      replace HX : Hid (Ub6u1.heap[xb]? = some (.cells #[.int .i64 (x.1 : Int), .int .i64 (x.2.1 : Int), .int .i64 (x.2.2 : Int)] 71)) := (hb.block _ (row_lt HX.out)).trans HX.out
      clear hb
      refine tkW 8 (some 46) (v := .bool false) ?_ hHeld ?_
      · (intro ww hSw; (try dsimp only at hSw); have s_0 : ww.cell? ⟨xb, 0, none⟩ = some (.int .i64 (x.1 : Int)) := (by rw [cell_of_row _ _ _ _ _ _ hSw.1]; rfl); have s_1 : ww.cell? ⟨xb, 1, none⟩ = some (.int .i64 (x.2.1 : Int)) := (by rw [cell_of_row _ _ _ _ _ _ hSw.1]; rfl); have s_2 : ww.cell? ⟨xb, 2, none⟩ = some (.int .i64 (x.2.2 : Int)) := (by rw [cell_of_row _ _ _ _ _ _ hSw.1]; rfl); go_simp; try simp)
      refine wpAnyH_done (by kernel_rfl) ?_ _
      clear hHeld
      go_wp2
      go_loopw [8] (fun kv wr => ∃ k : Nat, k ≤ x.2.2 ∧ kv = .int .i64 (k : Int) ∧ Hid (TdS w w.heap.size nb n F G B (.slice a1 L.length c1) L (.slice (some ⟨b, 0, none⟩) D.length cu) D wr) ∧ Hid (wr.heap[xb]? = some (.cells #[.int .i64 (x.1 : Int), .int .i64 (x.2.1 : Int), .int .i64 (x.2.2 : Int)] 71))) (fun kv _ => x.2.2 - (intOf kv).toNat)
      case atStart => exact ⟨0, Nat.zero_le _, rfl, HT, HX⟩
      case round =>
        clear HT HX
        obtain ⟨k, hk, rfl, HT, HX⟩ := hrel
        by_cases hlt : k < x.2.2
        · have k1 : (k : Int) < (x.2.2 : Int) := by omega
          obtain ⟨hw0, hp0, hpc⟩ := link_pc (k := k) HR.out rfl HLk.out (by rw [HWe.out]; exact hlt)
          obtain ⟨y_0, y_1, _, _⟩ := row2_cells HT.out.ybx
          have s_0 : wr.cell? ⟨xb, 0, none⟩ = some (.int .i64 (x.1 : Int)) := (by rw [cell_of_row _ _ _ _ _ _ HX.out]; rfl)
          have s_1 : wr.cell? ⟨xb, 1, none⟩ = some (.int .i64 (x.2.1 : Int)) := (by rw [cell_of_row _ _ _ _ _ _ HX.out]; rfl)
          have s_2 : wr.cell? ⟨xb, 2, none⟩ = some (.int .i64 (x.2.2 : Int)) := (by rw [cell_of_row _ _ _ _ _ _ HX.out]; rfl)
          go_wp2_with fail
          clear y_0 y_1 s_0 s_1 s_2
          refine (peek_any F nb n B (x.1 : Int) (x.2.1 : Int) (k : Int) _ HT.out.net).mono ?_
          rintro e w8 ⟨pv8, rfl, hfr, hb⟩
          rw [hw0]
          have HFr : Hid (FreshB wr.heap.size w8 pv8 (pcAt n B (x.1 : Int) (x.2.1 : Int) (k : Int)).1) := hfr
          clear hfr hw0
          replace HT : Hid (TdS w w.heap.size nb n F G B (.slice a1 L.length c1) L (.slice (some ⟨b, 0, none⟩) D.length cu) D w8) := HT.out.below hb
          replace HX : Hid (w8.heap[xb]? = some (.cells #[.int .i64 (x.1 : Int), .int .i64 (x.2.1 : Int), .int .i64 (x.2.2 : Int)] 71)) := (hb.block _ (row_lt HX.out)).trans HX.out
          clear hb
          obtain ⟨y_0, y_1, _, _⟩ := row2_cells HT.out.ybx
          have s_0 : w8.cell? ⟨xb, 0, none⟩ = some (.int .i64 (x.1 : Int)) := (by rw [cell_of_row _ _ _ _ _ _ HX.out]; rfl)
          have s_1 : w8.cell? ⟨xb, 1, none⟩ = some (.int .i64 (x.2.1 : Int)) := (by rw [cell_of_row _ _ _ _ _ _ HX.out]; rfl)
          have s_2 : w8.cell? ⟨xb, 2, none⟩ = some (.int .i64 (x.2.2 : Int)) := (by rw [cell_of_row _ _ _ _ _ _ HX.out]; rfl)
          obtain ⟨a8, c8, e8⟩ := HFr.out.form
          subst e8
          go_wp2_with fail
          clear y_0 y_1 s_0 s_1 s_2
          refine (refPeek_any G n _ L (x.1 : Int) (x.2.1 : Int) (k : Int) _ HT.out.doc).mono ?_
          rintro e w9 ⟨qv, rfl, hpk, hb⟩
          rw [hp0]
          obtain ⟨j9, hj9, epl⟩ := place_of hp0
          have hq9 := hpk.2 j9 hj9 hp0 epl
          have hp9 := hpc j9 hj9 epl
          have hfr9 := HFr.out.below hb
          rw [hp9] at hfr9
          obtain ⟨p9, ep9⟩ : ∃ p, p = L[j9].p := ⟨_, rfl⟩
          rw [hp9] at ⊢
          rw [← ep9] at hq9 hfr9 ⊢
          obtain ⟨aq, cq, eq, _, hql, _⟩ := id hq9
          subst eq
          have kc1 := conv_txt (hfr9.isB hql)
          have kc2 := conv_txt hq9.isB
          clear hpc hp9 hpk hq9 hfr9 HFr epl hp0 ep9
          replace HT : Hid (TdS w w.heap.size nb n F G B (.slice a1 L.length c1) L (.slice (some ⟨b, 0, none⟩) D.length cu) D w9) := HT.out.below hb
          replace HX : Hid (w9.heap[xb]? = some (.cells #[.int .i64 (x.1 : Int), .int .i64 (x.2.1 : Int), .int .i64 (x.2.2 : Int)] 71)) := (hb.block _ (row_lt HX.out)).trans HX.out
          clear hb
          have n1 : IntKind.i64.wrap ((k : Int) + 1) = (k : Int) + 1 := by rw [IntKind.wrap_i64]; have := HWl.out; omega
          go_wp2
          go_roundw
          case rel => exact ⟨k + 1, by omega, by go_num, HT, HX⟩
          case measure => simp [intOf]; omega
        · have k1 : ¬ (k : Int) < (x.2.2 : Int) := by omega
          have k2 : decide ((k : Int) < (x.2.2 : Int)) = false := decide_eq_false k1
          obtain ⟨y_0, y_1, _, _⟩ := row2_cells HT.out.ybx
          have s_0 : wr.cell? ⟨xb, 0, none⟩ = some (.int .i64 (x.1 : Int)) := (by rw [cell_of_row _ _ _ _ _ _ HX.out]; rfl)
          have s_1 : wr.cell? ⟨xb, 1, none⟩ = some (.int .i64 (x.2.1 : Int)) := (by rw [cell_of_row _ _ _ _ _ _ HX.out]; rfl)
          have s_2 : wr.cell? ⟨xb, 2, none⟩ = some (.int .i64 (x.2.2 : Int)) := (by rw [cell_of_row _ _ _ _ _ _ HX.out]; rfl)
          have n1 : IntKind.i64.wrap ((i : Int) + 1) = (i : Int) + 1 := by rw [IntKind.wrap_i64]; have := HDl.out; omega
          go_wp2
          go_roundw
          case rel => exact ⟨i + 1, by omega, by go_num, HT⟩
          case measure => simp [intOf]; omega
    · have k1 : ¬ (i : Int) < (D.length : Int) := by omega
      have k2 : decide ((i : Int) < (D.length : Int)) = false := decide_eq_false k1
      go_wp2
      go_ret
      exact ⟨rfl, HT.out.bel⟩

end Go.Proofs.Ytlcnfoljkcfplaa
