/- PatchChecks of package topiarylaw17 is proved at this commit: for every input (a step, any) the call returns true and the arguments read as they did. No condition. -/
import Derived.Test.YtfaikakmojpjiaaPaQa
import Derived.Test.YtfaikakmojpjiaaPaQb
import Derived.Test.YtfaikakmojpjiaaBasePp
namespace Go.Proofs.Ytfaikakmojpjiaa
open Go.RowKit
set_option linter.unusedVariables false
set_option linter.unusedSimpArgs false

set_option maxRecDepth 100000 in
set_option maxHeartbeats 4000000 in
theorem refCheckP_any (p : Pa) (w : World) (hs : p.nm.size ≤ 281474976710656) : Calls Try.prog 9 #[paV p] w fun e w' => e = .returned (.int .i64 (chkP p)) ∧ Below w.heap.size w w' := by
  by_cases h1 : p.kd < 1
  · have hv : chkP p = 1 := by unfold chkP; rw [if_pos (by omega)]
    rw [hv]
    clear hv hs
    show Calls Try.prog 9 #[.agg #[.int .i64 p.kd, .int .i64 p.k.1, .int .i64 p.k.2, .int .i64 p.pa.1, .int .i64 p.pa.2, .int .i64 p.af.1, .int .i64 p.af.2, .string p.nm, .string p.vl]] w _
    have HB : Hid (Below w.heap.size w (w.alloc (.cells #[.int .i64 p.kd, .int .i64 p.k.1, .int .i64 p.k.2, .int .i64 p.pa.1, .int .i64 p.pa.2, .int .i64 p.af.1, .int .i64 p.af.2, .string p.nm, .string p.vl] 25))) := (Below.refl _ _).alloc (Nat.le_refl _) _
    have b0 : (w.alloc (.cells #[.int .i64 p.kd, .int .i64 p.k.1, .int .i64 p.k.2, .int .i64 p.pa.1, .int .i64 p.pa.2, .int .i64 p.af.1, .int .i64 p.af.2, .string p.nm, .string p.vl] 25)).cell? ⟨w.heap.size, 0, none⟩ = some (.int .i64 p.kd) := (by rw [cell_of_row (w.alloc (.cells #[.int .i64 p.kd, .int .i64 p.k.1, .int .i64 p.k.2, .int .i64 p.pa.1, .int .i64 p.pa.2, .int .i64 p.af.1, .int .i64 p.af.2, .string p.nm, .string p.vl] 25)) w.heap.size 0 _ _ _ (heap_alloc_new _ _)]; rfl)
    go_enter Try.func9, Try.ntmps9
    go_wp2
    (try rw [Exit.noGoto_ret])
    go_ret
    exact ⟨rfl, HB.out⟩
  · by_cases h2 : 9 < p.kd
    · have hv : chkP p = 1 := by unfold chkP; rw [if_pos (by omega)]
      rw [hv]
      clear hv hs
      show Calls Try.prog 9 #[.agg #[.int .i64 p.kd, .int .i64 p.k.1, .int .i64 p.k.2, .int .i64 p.pa.1, .int .i64 p.pa.2, .int .i64 p.af.1, .int .i64 p.af.2, .string p.nm, .string p.vl]] w _
      have HB : Hid (Below w.heap.size w (w.alloc (.cells #[.int .i64 p.kd, .int .i64 p.k.1, .int .i64 p.k.2, .int .i64 p.pa.1, .int .i64 p.pa.2, .int .i64 p.af.1, .int .i64 p.af.2, .string p.nm, .string p.vl] 25))) := (Below.refl _ _).alloc (Nat.le_refl _) _
      have b0 : (w.alloc (.cells #[.int .i64 p.kd, .int .i64 p.k.1, .int .i64 p.k.2, .int .i64 p.pa.1, .int .i64 p.pa.2, .int .i64 p.af.1, .int .i64 p.af.2, .string p.nm, .string p.vl] 25)).cell? ⟨w.heap.size, 0, none⟩ = some (.int .i64 p.kd) := (by rw [cell_of_row (w.alloc (.cells #[.int .i64 p.kd, .int .i64 p.k.1, .int .i64 p.k.2, .int .i64 p.pa.1, .int .i64 p.pa.2, .int .i64 p.af.1, .int .i64 p.af.2, .string p.nm, .string p.vl] 25)) w.heap.size 0 _ _ _ (heap_alloc_new _ _)]; rfl)
      go_enter Try.func9, Try.ntmps9
      go_wp2
      (try rw [Exit.noGoto_ret])
      go_ret
      exact ⟨rfl, HB.out⟩
    · obtain ⟨kd, k, pa, af, nm, vl⟩ := p
      dsimp only at h1 h2
      rcases (by omega : kd = 1 ∨ kd = 2 ∨ kd = 3 ∨ kd = 4 ∨ kd = 5 ∨ kd = 6 ∨ kd = 7 ∨ kd = 8 ∨ kd = 9) with rfl | rfl | rfl | rfl | rfl | rfl | rfl | rfl | rfl
      · exact refCheck_k1 k pa af nm vl w hs
      · exact refCheck_k2 k pa af nm vl w hs
      · exact refCheck_k3 k pa af nm vl w hs
      · exact refCheck_k4 k pa af nm vl w hs
      · exact refCheck_k5 k pa af nm vl w hs
      · exact refCheck_k6 k pa af nm vl w hs
      · exact refCheck_k7 k pa af nm vl w hs
      · exact refCheck_k8 k pa af nm vl w hs
      · exact refCheck_k9 k pa af nm vl w hs

end Go.Proofs.Ytfaikakmojpjiaa

namespace Go.Proofs.Ytfaikakmojpjiaa
open Go.RowKit
set_option linter.unusedVariables false
set_option linter.unusedSimpArgs false

set_option maxRecDepth 100000 in
set_option maxHeartbeats 4000000 in
theorem patchChecks_any (p : Pa) (w : World) (hs : p.nm.size ≤ 281474976710656) : Calls Try.prog 3 #[paV p] w fun e w' => e = .returned (.bool true) ∧ Below w.heap.size w w' := by
  have HK : Hid ((w.alloc (.cells #[.int .i64 p.kd, .int .i64 p.k.1, .int .i64 p.k.2, .int .i64 p.pa.1, .int .i64 p.pa.2, .int .i64 p.af.1, .int .i64 p.af.2, .string p.nm, .string p.vl] 25)).heap[w.heap.size]? = some (.cells #[.int .i64 p.kd, .int .i64 p.k.1, .int .i64 p.k.2, .int .i64 p.pa.1, .int .i64 p.pa.2, .int .i64 p.af.1, .int .i64 p.af.2, .string p.nm, .string p.vl] 25)) := heap_alloc_new _ _
  have HB : Hid (Below w.heap.size w (w.alloc (.cells #[.int .i64 p.kd, .int .i64 p.k.1, .int .i64 p.k.2, .int .i64 p.pa.1, .int .i64 p.pa.2, .int .i64 p.af.1, .int .i64 p.af.2, .string p.nm, .string p.vl] 25))) := (Below.refl _ _).alloc (Nat.le_refl _) _
  have Hs := hide9 hs
  clear hs
  show Calls Try.prog 3 #[.agg #[.int .i64 p.kd, .int .i64 p.k.1, .int .i64 p.k.2, .int .i64 p.pa.1, .int .i64 p.pa.2, .int .i64 p.af.1, .int .i64 p.af.2, .string p.nm, .string p.vl]] w _
  go_enter Try.func3, Try.ntmps3
  go_wp2_with fail
  obtain ⟨W0, eW0⟩ : ∃ X, X = (w.alloc (.cells #[.int .i64 p.kd, .int .i64 p.k.1, .int .i64 p.k.2, .int .i64 p.pa.1, .int .i64 p.pa.2, .int .i64 p.af.1, .int .i64 p.af.2, .string p.nm, .string p.vl] 25)) := ⟨_, rfl⟩
  rw [← eW0] at HB HK ⊢
  clear eW0
  refine wp_region_held_drew (S := fun W' => W'.heap[w.heap.size]? = some (.cells #[.int .i64 p.kd, .int .i64 p.k.1, .int .i64 p.k.2, .int .i64 p.pa.1, .int .i64 p.pa.2, .int .i64 p.af.1, .int .i64 p.af.2, .string p.nm, .string p.vl] 25)) (by kernel_rfl) ((Below.refl _ _).drew.block _ (row_lt HK.out) |>.trans HK.out) (fun hHeld => ?_)
  obtain ⟨Uw1u0, eW⟩ : ∃ X, X = W0.drew := ⟨_, rfl⟩
  have hb : Below W0.heap.size W0 Uw1u0 := by rw [eW]; exact (Below.refl _ _).drew
  replace HB : Hid (Below w.heap.size w Uw1u0) := HB.out.trans (hb.mono HB.out.size)
  replace HK : Hid (Uw1u0.heap[w.heap.size]? = some (.cells #[.int .i64 p.kd, .int .i64 p.k.1, .int .i64 p.k.2, .int .i64 p.pa.1, .int .i64 p.pa.2, .int .i64 p.af.1, .int .i64 p.af.2, .string p.nm, .string p.vl] 25)) := (hb.block _ (row_lt HK.out)).trans HK.out
  rw [← eW] at hHeld ⊢
  clear eW hb
  refine tkW 0 (some 3) (v := ?_) ?_ hHeld ?_
  rotate_left
  · (intro ww hSw; (try dsimp only at hSw); have b0 : ww.cell? ⟨w.heap.size, 0, none⟩ = some (.int .i64 p.kd) := (by rw [cell_of_row ww w.heap.size 0 _ _ _ hSw]; rfl); have b1 : ww.cell? ⟨w.heap.size, 1, none⟩ = some (.int .i64 p.k.1) := (by rw [cell_of_row ww w.heap.size 1 _ _ _ hSw]; rfl); have b2 : ww.cell? ⟨w.heap.size, 2, none⟩ = some (.int .i64 p.k.2) := (by rw [cell_of_row ww w.heap.size 2 _ _ _ hSw]; rfl); have b3 : ww.cell? ⟨w.heap.size, 3, none⟩ = some (.int .i64 p.pa.1) := (by rw [cell_of_row ww w.heap.size 3 _ _ _ hSw]; rfl); have b4 : ww.cell? ⟨w.heap.size, 4, none⟩ = some (.int .i64 p.pa.2) := (by rw [cell_of_row ww w.heap.size 4 _ _ _ hSw]; rfl); have b5 : ww.cell? ⟨w.heap.size, 5, none⟩ = some (.int .i64 p.af.1) := (by rw [cell_of_row ww w.heap.size 5 _ _ _ hSw]; rfl); have b6 : ww.cell? ⟨w.heap.size, 6, none⟩ = some (.int .i64 p.af.2) := (by rw [cell_of_row ww w.heap.size 6 _ _ _ hSw]; rfl); have b7 : ww.cell? ⟨w.heap.size, 7, none⟩ = some (.string p.nm) := (by rw [cell_of_row ww w.heap.size 7 _ _ _ hSw]; rfl); have b8 : ww.cell? ⟨w.heap.size, 8, none⟩ = some (.string p.vl) := (by rw [cell_of_row ww w.heap.size 8 _ _ _ hSw]; rfl); go_simp; try with_reducible rfl)
  refine tkW 2 (some 5) (v := ?_) ?_ hHeld ?_
  rotate_left
  · (intro ww hSw; (try dsimp only at hSw); have b0 : ww.cell? ⟨w.heap.size, 0, none⟩ = some (.int .i64 p.kd) := (by rw [cell_of_row ww w.heap.size 0 _ _ _ hSw]; rfl); have b1 : ww.cell? ⟨w.heap.size, 1, none⟩ = some (.int .i64 p.k.1) := (by rw [cell_of_row ww w.heap.size 1 _ _ _ hSw]; rfl); have b2 : ww.cell? ⟨w.heap.size, 2, none⟩ = some (.int .i64 p.k.2) := (by rw [cell_of_row ww w.heap.size 2 _ _ _ hSw]; rfl); have b3 : ww.cell? ⟨w.heap.size, 3, none⟩ = some (.int .i64 p.pa.1) := (by rw [cell_of_row ww w.heap.size 3 _ _ _ hSw]; rfl); have b4 : ww.cell? ⟨w.heap.size, 4, none⟩ = some (.int .i64 p.pa.2) := (by rw [cell_of_row ww w.heap.size 4 _ _ _ hSw]; rfl); have b5 : ww.cell? ⟨w.heap.size, 5, none⟩ = some (.int .i64 p.af.1) := (by rw [cell_of_row ww w.heap.size 5 _ _ _ hSw]; rfl); have b6 : ww.cell? ⟨w.heap.size, 6, none⟩ = some (.int .i64 p.af.2) := (by rw [cell_of_row ww w.heap.size 6 _ _ _ hSw]; rfl); have b7 : ww.cell? ⟨w.heap.size, 7, none⟩ = some (.string p.nm) := (by rw [cell_of_row ww w.heap.size 7 _ _ _ hSw]; rfl); have b8 : ww.cell? ⟨w.heap.size, 8, none⟩ = some (.string p.vl) := (by rw [cell_of_row ww w.heap.size 8 _ _ _ hSw]; rfl); go_simp; try with_reducible rfl)
  refine wpAnyH_ready (rs := [1]) (by kernel_rfl) (by simp) ?_
  refine AllReadyH.cons (o := ⟨some 4, _, _, _, _, _⟩) rfl (fun K hK => ?_) AllReadyH.nil
  go_simp
  refine (checkP_any p _ Hs.out).mono ?_
  rintro e Uw1u1 ⟨rfl, hb⟩
  (try go_wp2_with fail)
  refine hK.out _ _ ((hb.block _ (row_lt hHeld)).trans hHeld) (fun hHeld2 => ?_)
  clear hK K hHeld
  have hHeld := hHeld2
  clear hHeld2
  (try simp only [Act.put, List.setIfInBounds_toArray, List.set_cons_zero, List.set_cons_succ])
  replace HB : Hid (Below w.heap.size w Uw1u1) := HB.out.trans (hb.mono HB.out.size)
  replace HK : Hid (Uw1u1.heap[w.heap.size]? = some (.cells #[.int .i64 p.kd, .int .i64 p.k.1, .int .i64 p.k.2, .int .i64 p.pa.1, .int .i64 p.pa.2, .int .i64 p.af.1, .int .i64 p.af.2, .string p.nm, .string p.vl] 25)) := (hb.block _ (row_lt HK.out)).trans HK.out
  clear hb
  refine wpAnyH_ready (rs := [3]) (by kernel_rfl) (by simp) ?_
  refine AllReadyH.cons (o := ⟨some 6, _, _, _, _, _⟩) rfl (fun K hK => ?_) AllReadyH.nil
  go_simp
  refine (refCheckP_any p _ Hs.out).mono ?_
  rintro e Uw1u2 ⟨rfl, hb⟩
  (try go_wp2_with fail)
  refine hK.out _ _ ((hb.block _ (row_lt hHeld)).trans hHeld) (fun hHeld2 => ?_)
  clear hK K hHeld
  have hHeld := hHeld2
  clear hHeld2
  (try simp only [Act.put, List.setIfInBounds_toArray, List.set_cons_zero, List.set_cons_succ])
  replace HB : Hid (Below w.heap.size w Uw1u2) := HB.out.trans (hb.mono HB.out.size)
  replace HK : Hid (Uw1u2.heap[w.heap.size]? = some (.cells #[.int .i64 p.kd, .int .i64 p.k.1, .int .i64 p.k.2, .int .i64 p.pa.1, .int .i64 p.pa.2, .int .i64 p.af.1, .int .i64 p.af.2, .string p.nm, .string p.vl] 25)) := (hb.block _ (row_lt HK.out)).trans HK.out
  clear hb
  refine tkW 4 (some 7) (v := ?_) ?_ hHeld ?_
  rotate_left
  · (intro ww hSw; (try dsimp only at hSw); have b0 : ww.cell? ⟨w.heap.size, 0, none⟩ = some (.int .i64 p.kd) := (by rw [cell_of_row ww w.heap.size 0 _ _ _ hSw]; rfl); have b1 : ww.cell? ⟨w.heap.size, 1, none⟩ = some (.int .i64 p.k.1) := (by rw [cell_of_row ww w.heap.size 1 _ _ _ hSw]; rfl); have b2 : ww.cell? ⟨w.heap.size, 2, none⟩ = some (.int .i64 p.k.2) := (by rw [cell_of_row ww w.heap.size 2 _ _ _ hSw]; rfl); have b3 : ww.cell? ⟨w.heap.size, 3, none⟩ = some (.int .i64 p.pa.1) := (by rw [cell_of_row ww w.heap.size 3 _ _ _ hSw]; rfl); have b4 : ww.cell? ⟨w.heap.size, 4, none⟩ = some (.int .i64 p.pa.2) := (by rw [cell_of_row ww w.heap.size 4 _ _ _ hSw]; rfl); have b5 : ww.cell? ⟨w.heap.size, 5, none⟩ = some (.int .i64 p.af.1) := (by rw [cell_of_row ww w.heap.size 5 _ _ _ hSw]; rfl); have b6 : ww.cell? ⟨w.heap.size, 6, none⟩ = some (.int .i64 p.af.2) := (by rw [cell_of_row ww w.heap.size 6 _ _ _ hSw]; rfl); have b7 : ww.cell? ⟨w.heap.size, 7, none⟩ = some (.string p.nm) := (by rw [cell_of_row ww w.heap.size 7 _ _ _ hSw]; rfl); have b8 : ww.cell? ⟨w.heap.size, 8, none⟩ = some (.string p.vl) := (by rw [cell_of_row ww w.heap.size 8 _ _ _ hSw]; rfl); go_simp; try with_reducible rfl)
  refine tkW 5 (some 8) (v := ?_) ?_ hHeld ?_
  rotate_left
  · (intro ww _; go_simp; try with_reducible rfl)
  refine wpAnyH_ready (rs := [6]) (by kernel_rfl) (by simp) ?_
  refine AllReadyH.cons (o := ⟨some 9, _, _, _, _, _⟩) rfl (fun K hK => ?_) AllReadyH.nil
  go_simp
  refine (awake_pa _).mono ?_
  rintro e Uw1u3 ⟨rfl, hb⟩
  (try go_wp2_with fail)
  refine hK.out _ _ ((hb.block _ (row_lt hHeld)).trans hHeld) (fun hHeld2 => ?_)
  clear hK K hHeld
  have hHeld := hHeld2
  clear hHeld2
  (try simp only [Act.put, List.setIfInBounds_toArray, List.set_cons_zero, List.set_cons_succ])
  replace HB : Hid (Below w.heap.size w Uw1u3) := HB.out.trans (hb.mono HB.out.size)
  replace HK : Hid (Uw1u3.heap[w.heap.size]? = some (.cells #[.int .i64 p.kd, .int .i64 p.k.1, .int .i64 p.k.2, .int .i64 p.pa.1, .int .i64 p.pa.2, .int .i64 p.af.1, .int .i64 p.af.2, .string p.nm, .string p.vl] 25)) := (hb.block _ (row_lt HK.out)).trans HK.out
  clear hb
  refine tkW 7 (some 10) (v := ?_) ?_ hHeld ?_
  rotate_left
  · (intro ww _; go_simp; try with_reducible rfl)
  refine tkW 8 (some 2) (v := ?_) ?_ hHeld ?_
  rotate_left
  · (intro ww _; go_simp; try with_reducible rfl)
  refine wpAnyH_done (by kernel_rfl) ?_ _
  clear hHeld
  go_wp2
  go_ret
  exact ⟨rfl, HB.out⟩
theorem patchChecks_sm (p : Pa) (w : World) (hs : smP p) : Calls Try.prog 3 #[paV p] w fun e w' => e = .returned (.bool true) ∧ Below w.heap.size w w' := patchChecks_any p w (Nat.le_trans hs.1 (by decide))

end Go.Proofs.Ytfaikakmojpjiaa

namespace Go.Proofs.Ytfaikakmojpjiaa
open Go.ChangeShapes Go.WideShapes Go.ChangeAt Go.RowKit
open Go.ChangeMaps (open_string shut_string)
set_option linter.unusedVariables false

set_option maxRecDepth 100000 in
theorem patchChecks_lifted (os : Os) (started : os.Started) (H : Type) (enc : TypeId × Value → H) :
    ReturnsInHanded {} Try.checked os 3 .any (Rows.patchChecksSpec.pre6 enc Try.prog Try.f3 Rows.patchChecksRow.domain false) (Rows.patchChecksSpec.post enc Try.prog Try.f3 false true false false) := by
  refine returnsInHanded_of_change_sized (C := Try.checked) ownI started (by kernel_rfl) Try.func3
    (ChangeSpec.witness6 (enc := enc) (C := Try.checked) false ⟨#[], #[.agg #[.int .i64 0, .int .i64 0, .int .i64 0, .int .i64 0, .int .i64 0, .int .i64 0, .int .i64 0, .string ByteArray.empty, .string ByteArray.empty]], []⟩ 8 (by kernel_rfl) (by kernel_rfl) (by kernel_rfl) (by kernel_rfl)) ?_
  intro W base args ds gs before hval0 hW _ hsz0 _
  have hval : ∀ (j : Nat) t v, Try.f3.params[j]? = some t → args[j]? = some v → Value.okWide Try.prog W .any base t v := hval0
  have hW' := hW
  obtain ⟨p, q, hA0, hV, rfl, hfz, hnd⟩ := hW
  have hA : DataW.TrodAll enc Try.prog W 0 (fun _ => true) true Try.f3.params.toList args.toList ds p := hA0
  rw [Try.params3] at hA hval
  obtain ⟨v0, d0, rfl, rfl, h0⟩ := trodAll_one hA
  obtain ⟨rfl, rfl⟩ := trodVars_none hV
  have hk0 := h0
  have hsz : (DataW.weightsEach Try.prog (Try.f3.params.toList ++ Rows.patchChecksSpec.plain.varTypes Try.prog) (_ ++ _)).all (· ≤ reachBytes) = true := hsz0
  rw [Try.params3] at hsz
  have hw0 : ∀ n ∈ d0.weights Try.prog 25, n ≤ reachBytes := fun n hn => by
    have h1 := List.all_eq_true.1 hsz n (DataW.weights_mem_each (j := 0) rfl rfl n hn)
    simpa using h1
  obtain ⟨a0, ev0, sm0⟩ := open_patchV (hval 0 25 v0 rfl rfl) h0 hw0
  subst ev0
  have hlt0 : ∀ x ∈ p, x.block < W.heap.size := fun x hx => by simpa using hW'.lt x (by simp [hx])
  clear hA0 hval0
  refine (patchChecks_sm a0 W sm0).mono fun e W' ⟨he, bel⟩ => ?_
  subst he
  exact ⟨_, rfl, _, _, _, [], _, [], hW', trodAll_mk1 (shut_bool Try.underlying4 _), trodAll_mk1 (Below.trod laidOutI (by kernel_rfl) (of_decide_eq_true (by kernel_rfl)) hk0 bel hlt0), rfl, bel.frame _, fun h => by cases h⟩

theorem patchChecks_holds : Rows.PatchChecksSaid :=
  OpenClaim.holds_of_wide 3 Try.f3 rfl rfl rfl rfl rfl rfl rfl ⟨rfl, rfl, rfl, rfl, rfl⟩ rfl rfl rfl rfl rfl (by kernel_rfl) Try.func3 (by kernel_rfl)
    (of_decide_eq_true (by kernel_rfl)) (by unfold Func.isWrapper; first | (rw [if_pos (by decide +kernel)]; kernel_rfl) | (rw [if_neg (by decide +kernel)]; exact ⟨rfl, rfl⟩))
    (fun os started H enc _ => patchChecks_lifted os started H enc)
#print axioms patchChecks_holds
end Go.Proofs.Ytfaikakmojpjiaa
