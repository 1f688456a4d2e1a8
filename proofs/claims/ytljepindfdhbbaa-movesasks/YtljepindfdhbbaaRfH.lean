/- The document's Kids. -/
import Derived.Test.YtljepindfdhbbaaRfF
import Derived.Test.YtljepindfdhbbaaTrP
namespace Go.Proofs.Ytljepindfdhbbaa
open Go.RowKit
set_option linter.unusedVariables false
set_option linter.unusedSimpArgs false

theorem kidsL_in {T : List Pl} {s : St} {i : Nat} {D : List St} {x : Pl} (h : D = kidsL (T.take i) s) (hi : i < T.length) (e : x = T[i]) (hx : x.pr = s) : D ++ [x.nd] = kidsL (T.take (i + 1)) s := by
  rw [List.take_succ_eq_append_getElem hi, ← e, h]
  unfold kidsL
  rw [List.filter_append, List.map_append]
  simp [hx]
theorem kidsL_out {T : List Pl} {s : St} {i : Nat} {D : List St} {x : Pl} (h : D = kidsL (T.take i) s) (hi : i < T.length) (e : x = T[i]) (hx : x.pr ≠ s) : D = kidsL (T.take (i + 1)) s := by
  rw [List.take_succ_eq_append_getElem hi, ← e, h]
  unfold kidsL
  rw [List.filter_append, List.map_append]
  simp [hx]
theorem kidsL_le (T : List Pl) (s : St) : (kidsL T s).length ≤ T.length := by
  unfold kidsL
  rw [List.length_map]
  exact List.length_filter_le _ _

set_option maxRecDepth 100000 in
set_option maxHeartbeats 4000000 in
theorem refKids_any (G : Nat → Prop) (v : Value) (T : List Pl) (s : St) (w : World) (h : LsE plCells 6 G w v T) (hl : T.length ≤ 4096) :
    Calls Try.prog 23 #[v, .agg #[.int .i64 s.1, .int .i64 s.2]] w fun e w' => ∃ v', e = .returned v' ∧ OwnE stCells 2 27 w.heap.size w' v' (kidsL T s) ∧ Below w.heap.size w w' := by
  obtain ⟨ist, hist, hz0st, hz1st, hz2st⟩ := info_parts S.infoStamp
  obtain ⟨W0, eW0⟩ : ∃ X, X = w.alloc (.cells (stCells s).toArray 27) := ⟨_, rfl⟩
  have hb0 : Below w.heap.size w W0 := by rw [eW0]; exact (Below.refl _ _).alloc (Nat.le_refl _) _
  obtain ⟨W2, eW2⟩ : ∃ X, X = W0.alloc (.cells #[] 27) := ⟨_, rfl⟩
  have hb2 : Below W0.heap.size W0 W2 := by rw [eW2]; exact (Below.refl _ _).alloc (Nat.le_refl _) _
  obtain ⟨bx, ebx⟩ : ∃ b, b = w.heap.size := ⟨_, rfl⟩
  have hr0 : W0.heap[bx]? = some (.cells (stCells s).toArray 27) := by (rw [ebx, eW0]; exact heap_alloc_new _ _)
  have HBl : Hid (bx < W0.heap.size) := row_lt hr0
  have HB0 : Hid (W0.cell? ⟨bx, 0, none⟩ = some (.int .i64 s.1)) := by (show _ = _; rw [cell_of_row W0 _ 0 _ _ _ hr0]; rfl)
  have HB1 : Hid (W0.cell? ⟨bx, 1, none⟩ = some (.int .i64 s.2)) := by (show _ = _; rw [cell_of_row W0 _ 1 _ _ _ hr0]; rfl)
  have HBe : Hid (Below w.heap.size w W0) := hb0
  have HLs0 : Hid (LsE plCells 6 G W0 v T) := h.below hb0
  obtain ⟨a1, c1, e1⟩ := h.form
  subst e1
  have HeW : Hid (W2 = (w.alloc (.cells #[.int .i64 s.1, .int .i64 s.2] 27)).alloc (.cells #[] 27)) := by (rw [eW2, eW0]; exact rfl)
  have HeS : Hid (W0.heap.size = w.heap.size + 1) := by (show _ = _; rw [eW0]; simp)
  have HeB : Hid (bx = w.heap.size) := ebx
  have HOw : Hid (BuS stCells 2 27 W0 (.slice (some ⟨W0.heap.size, 0, none⟩) 0 0) [] W2) := ⟨hb2, by (rw [eW2]; exact ownE_empty W0 _ (Nat.le_refl _))⟩
  clear h hb0 hb2 hr0 eW0 eW2 ebx
  go_enter Try.func23, Try.ntmps23
  go_wp2
  rw [← HeW.out, ← HeB.out]
  rw [HeS.out, ← HeB.out] at HOw
  clear HeW HeS
  go_loopw [5, 6] (fun ov iv wr => ∃ (i : Nat) (D : List St), iv = .int .i64 (i : Int) ∧ i ≤ T.length ∧ Hid (D = kidsL (T.take i) s) ∧ Hid (BuS stCells 2 27 W0 ov D wr)) (fun _ iv _ => T.length - (intOf iv).toNat)
  case atStart => exact ⟨0, [], rfl, Nat.zero_le _, rfl, HOw⟩
  case round =>
    clear HOw
    obtain ⟨i, D, rfl, hi, HDn, HBu⟩ := hrel
    obtain ⟨a0, c0, e0⟩ := HBu.out.own.form
    subst e0
    have hDl : D.length ≤ 4096 := by
      rw [HDn.out]
      have h1 := kidsL_le (T.take i) s
      have h2 := List.length_take_le i T
      omega
    by_cases hil : i < T.length
    · obtain ⟨b, o, cap, ev, hcap, hgb, hlt, hrow⟩ := HLs0.out.at (i := i) hil
      injection ev with ev1 ev2 ev3
      subst ev1
      subst ev3
      obtain ⟨x, ex⟩ : ∃ x, x = T[i] := ⟨_, rfl⟩
      rw [← ex] at hrow
      have HXe : Hid (x = T[i]) := ex
      have HGl : Hid (b < W0.heap.size) := hlt
      have HX0 : Hid (W0.cell? ⟨b, o + i * 6, none⟩ = some (.int .i64 x.nd.1)) := hrow 0 _ rfl
      have HX1 : Hid (W0.cell? ⟨b, o + i * 6 + 1, none⟩ = some (.int .i64 x.nd.2)) := hrow 1 _ rfl
      have HX2 : Hid (W0.cell? ⟨b, o + i * 6 + 2, none⟩ = some (.int .i64 x.pr.1)) := hrow 2 _ rfl
      have HX3 : Hid (W0.cell? ⟨b, o + i * 6 + 3, none⟩ = some (.int .i64 x.pr.2)) := hrow 3 _ rfl
      have k1 : (i : Int) < (T.length : Int) := by omega
      have k0 : (0 : Int) ≤ (i : Int) := by omega
      clear ex hrow hlt hgb HLs0 ev2
      go_wp2_with fail
      refine wp_region_held_drew (S := fun W' => Below W0.heap.size W0 W') (by kernel_rfl) HBu.out.bel.drew (fun hHeld => ?_)
      obtain ⟨Ua1u0, eW⟩ : ∃ X, X = wr.drew := ⟨_, rfl⟩
      have hb : Below wr.heap.size wr Ua1u0 := by rw [eW]; exact (Below.refl _ _).drew
      replace HBu : Hid (BuS stCells 2 27 W0 (.slice a0 D.length c0) D Ua1u0) := HBu.out.below hb
      rw [← eW] at hHeld ⊢
      clear eW hb
      refine tkW 0 (some 14) (v := ?_) ?_ hHeld ?_
      rotate_left
      · (intro ww _; go_simp; try with_reducible rfl)
      refine tkW 1 (some 15) (v := ?_) ?_ hHeld ?_
      rotate_left
      · (intro ww _; go_simp; try with_reducible rfl)
      refine tkW 2 (some 16) (v := ?_) ?_ hHeld ?_
      rotate_left
      · (intro ww hSw; (try dsimp only at hSw); have hbw := hSw; have b0 := (hbw.cell (p := ⟨bx, 0, none⟩) HBl.out).trans HB0.out; have b1 := (hbw.cell (p := ⟨bx, 1, none⟩) HBl.out).trans HB1.out; have r2 := (hbw.cell (p := ⟨b, o + i * 6 + 2, none⟩) HGl.out).trans HX2.out; have r3 := (hbw.cell (p := ⟨b, o + i * 6 + 3, none⟩) HGl.out).trans HX3.out; go_simp; try with_reducible rfl)
      refine tkW 3 (some 17) (v := ?_) ?_ hHeld ?_
      rotate_left
      · (intro ww _; go_simp; try with_reducible rfl)
      refine tkW 4 (some 18) (v := ?_) ?_ hHeld ?_
      rotate_left
      · (intro ww hSw; (try dsimp only at hSw); have hbw := hSw; have b0 := (hbw.cell (p := ⟨bx, 0, none⟩) HBl.out).trans HB0.out; have b1 := (hbw.cell (p := ⟨bx, 1, none⟩) HBl.out).trans HB1.out; have r2 := (hbw.cell (p := ⟨b, o + i * 6 + 2, none⟩) HGl.out).trans HX2.out; have r3 := (hbw.cell (p := ⟨b, o + i * 6 + 3, none⟩) HGl.out).trans HX3.out; go_simp; try with_reducible rfl)
      refine tkW 5 (some 19) (v := ?_) ?_ hHeld ?_
      rotate_left
      · (intro ww hSw; (try dsimp only at hSw); have hbw := hSw; have b0 := (hbw.cell (p := ⟨bx, 0, none⟩) HBl.out).trans HB0.out; have b1 := (hbw.cell (p := ⟨bx, 1, none⟩) HBl.out).trans HB1.out; have r2 := (hbw.cell (p := ⟨b, o + i * 6 + 2, none⟩) HGl.out).trans HX2.out; have r3 := (hbw.cell (p := ⟨b, o + i * 6 + 3, none⟩) HGl.out).trans HX3.out; go_simp; try with_reducible rfl)
      refine tkW 6 (some 20) (v := .bool (decide ((x.pr.1, x.pr.2) = (s.1, s.2)))) ?_ hHeld ?_
      · (intro ww hSw; (try dsimp only at hSw); have hbw := hSw; have b0 := (hbw.cell (p := ⟨bx, 0, none⟩) HBl.out).trans HB0.out; have b1 := (hbw.cell (p := ⟨bx, 1, none⟩) HBl.out).trans HB1.out; have r2 := (hbw.cell (p := ⟨b, o + i * 6 + 2, none⟩) HGl.out).trans HX2.out; have r3 := (hbw.cell (p := ⟨b, o + i * 6 + 3, none⟩) HGl.out).trans HX3.out; go_simp; by_cases e1 : x.pr.1 = s.1 <;> by_cases e2 : x.pr.2 = s.2 <;> simp [e1, e2])
      refine wpAnyH_done (by kernel_rfl) ?_ _
      by_cases hxm : x.pr = s
      · have hxd : decide ((x.pr.1, x.pr.2) = (s.1, s.2)) = true := decide_eq_true hxm
        have HDn2 : Hid (D ++ [x.nd] = kidsL (T.take (i + 1)) s) := kidsL_in HDn.out hil HXe.out hxm
        have HB7 : Hid (BuS stCells 2 27 W0 (.slice a0 D.length c0) D Ua1u0) := HBu.out
        clear hHeld HBu hxm
        rw [hxd]
        clear hxd
        have x0 : Ua1u0.cell? ⟨b, o + i * 6, none⟩ = some (.int .i64 x.nd.1) := (HB7.out.bel.cell (p := ⟨b, o + i * 6, none⟩) HGl.out).trans HX0.out
        have x1 : Ua1u0.cell? ⟨b, o + i * 6 + 1, none⟩ = some (.int .i64 x.nd.2) := (HB7.out.bel.cell (p := ⟨b, o + i * 6 + 1, none⟩) HGl.out).trans HX1.out
        have halq : Below Ua1u0.heap.size Ua1u0 (Ua1u0.alloc (.cells #[.int .i64 x.nd.1, .int .i64 x.nd.2] 27)) := (Below.refl _ _).alloc (Nat.le_refl _) _
        have HBaq : Hid (BuS stCells 2 27 W0 (.slice a0 D.length c0) (D) (Ua1u0.alloc (.cells #[.int .i64 x.nd.1, .int .i64 x.nd.2] 27))) := HB7.out.below halq
        have HNwq : Hid (∀ j u, ([.int .i64 x.nd.1, .int .i64 x.nd.2] : List Value)[j]? = some u → (Ua1u0.alloc (.cells #[.int .i64 x.nd.1, .int .i64 x.nd.2] 27)).cell? ((⟨Ua1u0.heap.size, 0, none⟩ : Addr).add j) = some u) := fun j u hj => (by rw [Addr.add_lit, cell_of_row _ _ _ _ _ _ (heap_alloc_new Ua1u0 _)]; simpa using hj)
        have hszq : W0.heap.size ≤ (Ua1u0.alloc (.cells #[.int .i64 x.nd.1, .int .i64 x.nd.2] 27)).heap.size := HBaq.out.bel.size
        clear halq
        go_wp2_with (at_builtin; refine wpList_append_own_at _ rfl _ _ 48 rfl W0.heap.size 27 ist (.agg #[.int .i64 0, .int .i64 0]) 2 16 Try.underlying48 hist hz0st hz1st hz2st rfl (by decide) _ _ _ rfl HBaq.out.own ⟨Ua1u0.heap.size, 0, none⟩ 1 1 [.int .i64 x.nd.1, .int .i64 x.nd.2] rfl rfl HNwq.out (stCells_one x.nd) (by unfold maxLen; omega) (by omega) hszq ?_; intro v3 w9 hown3 hgrow3 hnil3 hat3; obtain ⟨gq, cq, e3⟩ := own_succ hown3; subst e3; have HB9 : Hid (BuS stCells 2 27 W0 (.slice (some ⟨gq, 0, none⟩) (D.length + 1) cq) (D ++ [x.nd]) w9) := HBaq.out.push hown3 hgrow3; clear hown3 hgrow3 hnil3 hat3 HBaq HNwq hszq; clear x0 x1)
        go_roundw
        case rel => exact ⟨i + 1, D ++ [x.nd], by go_num, by omega, HDn2, HB9⟩
        case measure => simp [intOf]; omega
      · have hxd : decide ((x.pr.1, x.pr.2) = (s.1, s.2)) = false := decide_eq_false hxm
        have HDn2 : Hid (D = kidsL (T.take (i + 1)) s) := kidsL_out HDn.out hil HXe.out hxm
        have HB7 : Hid (BuS stCells 2 27 W0 (.slice a0 D.length c0) D Ua1u0) := HBu.out
        clear hHeld HBu hxm
        rw [hxd]
        clear hxd
        go_wp2
        go_roundw
        case rel => exact ⟨i + 1, D, by go_num, by omega, HDn2, HB7⟩
        case measure => simp [intOf]; omega
    · obtain rfl : i = T.length := by omega
      have HIn : Hid (D = kidsL T s) := by (have h9 := HDn.out; rw [List.take_length] at h9; exact h9)
      clear HDn
      go_wp2
      go_ret
      exact ⟨_, rfl, by (rw [← HIn.out]; exact HBu.out.own.low HBe.out.size), HBe.out.trans (HBu.out.bel.mono HBe.out.size)⟩

end Go.Proofs.Ytljepindfdhbbaa
