/- What count and put do. -/
import Derived.Test.YtljepindfdhbbaaFlB
import Derived.Deep.RegionHeld
import Derived.Deep.RegionHeld3
namespace Go.Proofs.Ytljepindfdhbbaa
open Go.RowKit
set_option linter.unusedVariables false
set_option linter.unusedSimpArgs false

/-- What stands while count counts. -/
def CntS (w : World) (tb kb : Nat) (c r : Int) (W : World) : Prop := W.cell? ⟨tb, 3, none⟩ = some (.map (some kb)) ∧ W.cell? ⟨w.heap.size, 0, none⟩ = some (.int .i64 c) ∧ W.cell? ⟨w.heap.size, 1, none⟩ = some (.int .i64 r) ∧ Touch (fun k => k = kb) w W ∧ w.heap.size < W.heap.size ∧ tb ≠ kb ∧ kb < w.heap.size ∧ tb < w.heap.size
theorem CntS.step {w : World} {tb kb : Nat} {c r : Int} {W W' : World} (h : CntS w tb kb c r W) (hg : W.grownBy W' (some kb)) : CntS w tb kb c r W' := by
  obtain ⟨h1, h2, h3, h4, h5, h6, h7, h8⟩ := h
  have hc : ∀ b i, b < W.heap.size → b ≠ kb → W'.cell? ⟨b, i, none⟩ = W.cell? ⟨b, i, none⟩ := fun b i hb hn => World.cell?_of_block (w := W) (hg.block b hb (fun e => hn (by cases e; rfl)))
  have hz := h4.size
  exact ⟨(hc tb 3 (by omega) h6).trans h1, (hc _ 0 h5 (by omega)).trans h2, (hc _ 1 h5 (by omega)).trans h3, h4.trans (Touch.of_grown hg fun k e _ => by cases e; rfl) (fun j hj => .inl hj), Nat.lt_of_lt_of_le h5 hg.size, h6, h7, h8⟩
theorem CntS.drew {w : World} {tb kb : Nat} {c r : Int} {W : World} (h : CntS w tb kb c r W) : CntS w tb kb c r W.drew := by
  obtain ⟨h1, h2, h3, h4, h5, h6⟩ := h
  exact ⟨h1, h2, h3, h4.drew, h5, h6⟩

theorem KMap.look_upd {w : World} {b : Nat} {f : St → Int} {c r m : Int} (h : KMap w b (updK f (c, r) m)) : (Instr.lookup 63 (.map (some b)) (.agg #[.int .i64 c, .int .i64 r]) false).run Try.prog w = .ok (.int .i64 m) w := by
  have h1 := h.look (c, r)
  have h2 : updK f (c, r) m (c, r) = m := if_pos rfl
  rw [h2] at h1
  exact h1
theorem updK_zero {f : St → Int} {s : St} {n : Int} (h : n = 0) : updK (updK f s n) s 0 = updK f s n := by
  funext t
  unfold updK
  split <;> simp_all

set_option maxRecDepth 100000 in
set_option maxHeartbeats 4000000 in
theorem count_any (tb kb : Nat) (lv kv sv : Value) (c r n : Int) (f : St → Int) (w : World) (h : w.heap[tb]? = some (.cells #[lv, kv, sv, .map (some kb)] 66)) (hk : KMap w kb f) (hr : -1000000 ≤ f (c, r) + n ∧ f (c, r) + n ≤ 1000000) :
    Calls Try.prog 66 #[.pointer (some ⟨tb, 0, none⟩), .agg #[.int .i64 c, .int .i64 r], .int .i64 n] w fun e w' => (∃ v, e = .returned v) ∧ KMap w' kb (updK f (c, r) (f (c, r) + n)) ∧ Touch (fun k => k = kb) w w' := by
  have hkt : tb ≠ kb := by
    intro e
    obtain ⟨D, ⟨es, cl, h1, _⟩, _⟩ := hk
    rw [e, h1] at h
    cases h
  obtain ⟨W0, eW⟩ : ∃ X, X = w.alloc (.cells #[.int .i64 c, .int .i64 r] 27) := ⟨_, rfl⟩
  have hb0 : Below w.heap.size w W0 := by rw [eW]; exact (Below.refl _ _).alloc (Nat.le_refl _) _
  have HM : Hid (KMap W0 kb f) := hk.keep (hb0.block _ hk.lt)
  have hnew : W0.heap[w.heap.size]? = some (.cells #[.int .i64 c, .int .i64 r] 27) := by rw [eW]; exact heap_alloc_new _ _
  have HS0 : Hid (CntS w tb kb c r W0) := ⟨by rw [cell_of_row W0 tb 3 _ _ _ ((hb0.block _ (row_lt h)).trans h)]; rfl, by rw [cell_of_row W0 _ 0 _ _ _ hnew]; rfl, by rw [cell_of_row W0 _ 1 _ _ _ hnew]; rfl, Touch.of_below hb0, row_lt hnew, hkt, hk.lt, row_lt h⟩
  have hw1 : IntKind.i64.wrap (f (c, r) + n) = f (c, r) + n := by rw [IntKind.wrap_i64]; omega
  clear h hk hb0 hnew hkt
  go_enter Try.func66, Try.ntmps66
  go_wp2
  rw [← eW]
  clear eW
  refine wp_region_held_drew (S := fun W' => CntS w tb kb c r W') (by kernel_rfl) HS0.out.drew (fun hHeld => ?_)
  obtain ⟨Ua1u0, eW⟩ : ∃ X, X = W0.drew := ⟨_, rfl⟩
  have hb : Below W0.heap.size W0 Ua1u0 := by rw [eW]; exact (Below.refl _ _).drew
  replace HM : Hid (KMap Ua1u0 kb f) := HM.out.keep (hb.block _ HM.out.lt)
  rw [← eW] at hHeld ⊢
  clear eW hb
  refine wpAnyH_take (i := 0) (oi := ⟨some 6, _, _, _, _, _⟩) (v := ?va1ux0) rfl (by kernel_rfl) (by kernel_rfl) (by kernel_rfl) (fun _ _ _ h => h) (Or.inl ⟨by rfl, ?hya1ux0⟩) hHeld ?resta1ux0
  case hya1ux0 => (intro w _; go_simp; try with_reducible rfl)
  simp only [Act.put, List.setIfInBounds_toArray, List.set_cons_zero, List.set_cons_succ]
  refine wpAnyH_take (i := 1) (oi := ⟨some 7, _, _, _, _, _⟩) (v := ?va1ux1) rfl (by kernel_rfl) (by kernel_rfl) (by kernel_rfl) (fun _ _ _ h => h) (Or.inl ⟨by rfl, ?hya1ux1⟩) hHeld ?resta1ux1
  case hya1ux1 => (intro w hSw; (try dsimp only at hSw); obtain ⟨c3, k0, k1, hrest⟩ := hSw; go_simp; try with_reducible rfl)
  simp only [Act.put, List.setIfInBounds_toArray, List.set_cons_zero, List.set_cons_succ]
  refine wpAnyH_take (i := 2) (oi := ⟨some 8, _, _, _, _, _⟩) (v := ?va1ux2) rfl (by kernel_rfl) (by kernel_rfl) (by kernel_rfl) (fun _ _ _ h => h) (Or.inl ⟨by rfl, ?hya1ux2⟩) hHeld ?resta1ux2
  case hya1ux2 => (intro w _; go_simp; try with_reducible rfl)
  simp only [Act.put, List.setIfInBounds_toArray, List.set_cons_zero, List.set_cons_succ]
  refine wpAnyH_take (i := 3) (oi := ⟨some 9, _, _, _, _, _⟩) (v := ?va1ux3) rfl (by kernel_rfl) (by kernel_rfl) (by kernel_rfl) (fun _ _ _ h => h) (Or.inl ⟨by rfl, ?hya1ux3⟩) hHeld ?resta1ux3
  case hya1ux3 => (intro w hSw; (try dsimp only at hSw); obtain ⟨c3, k0, k1, hrest⟩ := hSw; go_simp; try with_reducible rfl)
  simp only [Act.put, List.setIfInBounds_toArray, List.set_cons_zero, List.set_cons_succ]
  refine wpAnyH_take (i := 4) (oi := ⟨some 10, _, _, _, _, _⟩) (v := ?va1ux4) rfl (by kernel_rfl) (by kernel_rfl) (by kernel_rfl) (fun _ _ _ h => h) (Or.inl ⟨by rfl, ?hya1ux4⟩) hHeld ?resta1ux4
  case hya1ux4 => (intro w hSw; (try dsimp only at hSw); obtain ⟨c3, k0, k1, hrest⟩ := hSw; go_simp; try with_reducible rfl)
  simp only [Act.put, List.setIfInBounds_toArray, List.set_cons_zero, List.set_cons_succ]
  refine wpAnyH_take (i := 6) (oi := ⟨some 12, _, _, _, _, _⟩) (v := ?va1ux6) rfl (by kernel_rfl) (by kernel_rfl) (by kernel_rfl) (fun _ _ _ h => h) (Or.inl ⟨by rfl, ?hya1ux6⟩) hHeld ?resta1ux6
  case hya1ux6 => (intro w _; go_simp; try with_reducible rfl)
  simp only [Act.put, List.setIfInBounds_toArray, List.set_cons_zero, List.set_cons_succ]
  refine wpAnyH_ready (rs := [5, 8]) (by kernel_rfl) (by simp) ?_
  refine AllReadyH.cons (o := ⟨some 11, _, _, _, _, _⟩) rfl (fun K hK => ?_) (AllReadyH.cons (o := ⟨some 14, _, _, _, _, _⟩) rfl (fun K hK => ?_) AllReadyH.nil)
  · have hlk : (Instr.lookup 63 (.map (some kb)) (.agg #[.int .i64 c, .int .i64 r]) false).run Try.prog Ua1u0 = .ok (.int .i64 (f (c, r))) Ua1u0 := HM.out.look (c, r)
    go_simp
    refine hK.out _ _ (hHeld) (fun hHeld2 => ?_)
    clear hK K hHeld
    have hHeld := hHeld2
    clear hHeld2
    (try simp only [Act.put, List.setIfInBounds_toArray, List.set_cons_zero, List.set_cons_succ])
    clear hlk
    refine wpAnyH_take (i := 7) (oi := ⟨some 13, _, _, _, _, _⟩) (v := ?va1u_5x7) rfl (by kernel_rfl) (by kernel_rfl) (by kernel_rfl) (fun _ _ _ h => h) (Or.inl ⟨by rfl, ?hya1u_5x7⟩) hHeld ?resta1u_5x7
    case hya1u_5x7 => (intro w hSw; (try dsimp only at hSw); obtain ⟨c3, k0, k1, hrest⟩ := hSw; go_simp; try with_reducible rfl)
    simp only [Act.put, List.setIfInBounds_toArray, List.set_cons_zero, List.set_cons_succ]
    refine wpAnyH_ready (rs := [8]) (by kernel_rfl) (by simp) ?_
    refine AllReadyH.cons (o := ⟨some 14, _, _, _, _, _⟩) rfl (fun K hK => ?_) AllReadyH.nil
    obtain ⟨t, Ua1u2, hen, hg, hz, hE⟩ := KMap.entry HM.out (c, r)
    have hen2 : (Instr.mapEntry 63 (.map (some kb)) (.agg #[.int .i64 c, .int .i64 r])).run Try.prog Ua1u0 = .ok (.tuple #[.int .i64 (f (c, r)), .int .i64 (t : Int)]) Ua1u2 := hen
    have hS1 : CntS w tb kb c r Ua1u2 := hHeld.step hg
    have HE : Hid (KEnt Ua1u2 kb f (c, r) t) := hE
    clear hen hE
    go_simp
    refine hK.out _ _ (hS1) (fun hHeld2 => ?_)
    clear hK K hHeld
    have hHeld := hHeld2
    clear hHeld2
    (try simp only [Act.put, List.setIfInBounds_toArray, List.set_cons_zero, List.set_cons_succ])
    clear hen2 hg hz hS1 HM
    refine wpAnyH_take (i := 9) (oi := ⟨some 15, _, _, _, _, _⟩) (v := ?va1u_5_8x9) rfl (by kernel_rfl) (by kernel_rfl) (by kernel_rfl) (fun _ _ _ h => h) (Or.inl ⟨by rfl, ?hya1u_5_8x9⟩) hHeld ?resta1u_5_8x9
    case hya1u_5_8x9 => (intro w _; go_simp; try with_reducible rfl)
    simp only [Act.put, List.setIfInBounds_toArray, List.set_cons_zero, List.set_cons_succ]
    refine wpAnyH_ready (rs := [10]) (by kernel_rfl) (by simp) ?_
    refine AllReadyH.cons (o := ⟨none, _, _, _, _, _⟩) rfl (fun K hK => ?_) AllReadyH.nil
    obtain ⟨Ua1u3, hst, hg, hz, hM⟩ := HE.out.store (f (c, r) + n)
    have hst2 : (Instr.entryStore 63 (.map (some kb)) (.int .i64 (t : Int)) (.int .i64 (f (c, r) + n))).run Try.prog Ua1u2 = .ok () Ua1u3 := hst
    have HM : Hid (KMap Ua1u3 kb (updK f (c, r) (f (c, r) + n))) := hM
    have hS1 : CntS w tb kb c r Ua1u3 := hHeld.step hg
    clear hst hM
    go_simp
    refine hK.out _ _ (hS1) (fun hHeld2 => ?_)
    clear hK K hHeld
    have hHeld := hHeld2
    clear hHeld2
    (try simp only [Act.put, List.setIfInBounds_toArray, List.set_cons_zero, List.set_cons_succ])
    clear hst2 hg hz hS1
    refine wpAnyH_done (by kernel_rfl) ?_ _
    have HS : Hid (CntS w tb kb c r Ua1u3) := hHeld
    clear hHeld HE
    go_wp2
    refine wp_region_held_drew (S := fun W' => CntS w tb kb c r W' ∧ KMap W' kb (updK f (c, r) (f (c, r) + n))) (by kernel_rfl) ⟨HS.out.drew, HM.out.keep rfl⟩ (fun hHeld => ?_)
    obtain ⟨Ub2u0, eW⟩ : ∃ X, X = Ua1u3.drew := ⟨_, rfl⟩
    have hb : Below Ua1u3.heap.size Ua1u3 Ub2u0 := by rw [eW]; exact (Below.refl _ _).drew
    replace HM : Hid (KMap Ub2u0 kb (updK f (c, r) (f (c, r) + n))) := HM.out.keep (hb.block _ HM.out.lt)
    rw [← eW] at hHeld ⊢
    clear eW hb
    refine wpAnyH_take (i := 0) (oi := ⟨some 16, _, _, _, _, _⟩) (v := ?vb2ux0) rfl (by kernel_rfl) (by kernel_rfl) (by kernel_rfl) (fun _ _ _ h => h) (Or.inl ⟨by rfl, ?hyb2ux0⟩) hHeld ?restb2ux0
    case hyb2ux0 => (intro w _; go_simp; try with_reducible rfl)
    simp only [Act.put, List.setIfInBounds_toArray, List.set_cons_zero, List.set_cons_succ]
    refine wpAnyH_take (i := 1) (oi := ⟨some 17, _, _, _, _, _⟩) (v := ?vb2ux1) rfl (by kernel_rfl) (by kernel_rfl) (by kernel_rfl) (fun _ _ _ h => h) (Or.inl ⟨by rfl, ?hyb2ux1⟩) hHeld ?restb2ux1
    case hyb2ux1 => (intro w hSw; (try dsimp only at hSw); obtain ⟨⟨c3, k0, k1, hrest⟩, hM⟩ := hSw; have hlk : (Instr.lookup 63 (.map (some kb)) (.agg #[.int .i64 c, .int .i64 r]) false).run Try.prog w = .ok (.int .i64 (f (c, r) + n)) w := hM.look_upd; go_simp; try with_reducible rfl)
    simp only [Act.put, List.setIfInBounds_toArray, List.set_cons_zero, List.set_cons_succ]
    refine wpAnyH_take (i := 2) (oi := ⟨some 18, _, _, _, _, _⟩) (v := ?vb2ux2) rfl (by kernel_rfl) (by kernel_rfl) (by kernel_rfl) (fun _ _ _ h => h) (Or.inl ⟨by rfl, ?hyb2ux2⟩) hHeld ?restb2ux2
    case hyb2ux2 => (intro w _; go_simp; try with_reducible rfl)
    simp only [Act.put, List.setIfInBounds_toArray, List.set_cons_zero, List.set_cons_succ]
    refine wpAnyH_take (i := 3) (oi := ⟨some 19, _, _, _, _, _⟩) (v := ?vb2ux3) rfl (by kernel_rfl) (by kernel_rfl) (by kernel_rfl) (fun _ _ _ h => h) (Or.inl ⟨by rfl, ?hyb2ux3⟩) hHeld ?restb2ux3
    case hyb2ux3 => (intro w hSw; (try dsimp only at hSw); obtain ⟨⟨c3, k0, k1, hrest⟩, hM⟩ := hSw; have hlk : (Instr.lookup 63 (.map (some kb)) (.agg #[.int .i64 c, .int .i64 r]) false).run Try.prog w = .ok (.int .i64 (f (c, r) + n)) w := hM.look_upd; go_simp; try with_reducible rfl)
    simp only [Act.put, List.setIfInBounds_toArray, List.set_cons_zero, List.set_cons_succ]
    refine wpAnyH_take (i := 4) (oi := ⟨some 20, _, _, _, _, _⟩) (v := ?vb2ux4) rfl (by kernel_rfl) (by kernel_rfl) (by kernel_rfl) (fun _ _ _ h => h) (Or.inl ⟨by rfl, ?hyb2ux4⟩) hHeld ?restb2ux4
    case hyb2ux4 => (intro w hSw; (try dsimp only at hSw); obtain ⟨⟨c3, k0, k1, hrest⟩, hM⟩ := hSw; have hlk : (Instr.lookup 63 (.map (some kb)) (.agg #[.int .i64 c, .int .i64 r]) false).run Try.prog w = .ok (.int .i64 (f (c, r) + n)) w := hM.look_upd; go_simp; try with_reducible rfl)
    simp only [Act.put, List.setIfInBounds_toArray, List.set_cons_zero, List.set_cons_succ]
    refine wpAnyH_take (i := 5) (oi := ⟨some 21, _, _, _, _, _⟩) (v := ?vb2ux5) rfl (by kernel_rfl) (by kernel_rfl) (by kernel_rfl) (fun _ _ _ h => h) (Or.inl ⟨by rfl, ?hyb2ux5⟩) hHeld ?restb2ux5
    case hyb2ux5 => (intro w hSw; (try dsimp only at hSw); obtain ⟨⟨c3, k0, k1, hrest⟩, hM⟩ := hSw; have hlk : (Instr.lookup 63 (.map (some kb)) (.agg #[.int .i64 c, .int .i64 r]) false).run Try.prog w = .ok (.int .i64 (f (c, r) + n)) w := hM.look_upd; go_simp; try with_reducible rfl)
    simp only [Act.put, List.setIfInBounds_toArray, List.set_cons_zero, List.set_cons_succ]
    refine wpAnyH_take (i := 6) (oi := ⟨some 22, _, _, _, _, _⟩) (v := ?vb2ux6) rfl (by kernel_rfl) (by kernel_rfl) (by kernel_rfl) (fun _ _ _ h => h) (Or.inl ⟨by rfl, ?hyb2ux6⟩) hHeld ?restb2ux6
    case hyb2ux6 => (intro w hSw; (try dsimp only at hSw); obtain ⟨⟨c3, k0, k1, hrest⟩, hM⟩ := hSw; have hlk : (Instr.lookup 63 (.map (some kb)) (.agg #[.int .i64 c, .int .i64 r]) false).run Try.prog w = .ok (.int .i64 (f (c, r) + n)) w := hM.look_upd; go_simp; try with_reducible rfl)
    simp only [Act.put, List.setIfInBounds_toArray, List.set_cons_zero, List.set_cons_succ]
    refine wpAnyH_done (by kernel_rfl) ?_ _
    have HS : Hid (CntS w tb kb c r Ub2u0) := hHeld.1
    clear hHeld
    by_cases hz : f (c, r) + n = 0
    · have HZ : Hid (f (c, r) + n = 0) := hz
      have hz2 : (f (c, r) + n == 0) = true := by rw [hz]; rfl
      rw [hz2]
      clear hz hz2 hr hw1
      go_wp2
      refine wp_region_held_drew (S := fun W' => CntS w tb kb c r W') (by kernel_rfl) HS.out.drew (fun hHeld => ?_)
      obtain ⟨Uc3u0, eW⟩ : ∃ X, X = Ub2u0.drew := ⟨_, rfl⟩
      have hb : Below Ub2u0.heap.size Ub2u0 Uc3u0 := by rw [eW]; exact (Below.refl _ _).drew
      replace HM : Hid (KMap Uc3u0 kb (updK f (c, r) (f (c, r) + n))) := HM.out.keep (hb.block _ HM.out.lt)
      rw [← eW] at hHeld ⊢
      clear eW hb
      refine wpAnyH_take (i := 0) (oi := ⟨some 23, _, _, _, _, _⟩) (v := ?vc3ux0) rfl (by kernel_rfl) (by kernel_rfl) (by kernel_rfl) (fun _ _ _ h => h) (Or.inl ⟨by rfl, ?hyc3ux0⟩) hHeld ?restc3ux0
      case hyc3ux0 => (intro w _; go_simp; try with_reducible rfl)
      simp only [Act.put, List.setIfInBounds_toArray, List.set_cons_zero, List.set_cons_succ]
      refine wpAnyH_take (i := 1) (oi := ⟨some 24, _, _, _, _, _⟩) (v := ?vc3ux1) rfl (by kernel_rfl) (by kernel_rfl) (by kernel_rfl) (fun _ _ _ h => h) (Or.inl ⟨by rfl, ?hyc3ux1⟩) hHeld ?restc3ux1
      case hyc3ux1 => (intro w hSw; (try dsimp only at hSw); obtain ⟨c3, k0, k1, hrest⟩ := hSw; go_simp; try with_reducible rfl)
      simp only [Act.put, List.setIfInBounds_toArray, List.set_cons_zero, List.set_cons_succ]
      refine wpAnyH_take (i := 2) (oi := ⟨some 25, _, _, _, _, _⟩) (v := ?vc3ux2) rfl (by kernel_rfl) (by kernel_rfl) (by kernel_rfl) (fun _ _ _ h => h) (Or.inl ⟨by rfl, ?hyc3ux2⟩) hHeld ?restc3ux2
      case hyc3ux2 => (intro w _; go_simp; try with_reducible rfl)
      simp only [Act.put, List.setIfInBounds_toArray, List.set_cons_zero, List.set_cons_succ]
      refine wpAnyH_take (i := 3) (oi := ⟨some 26, _, _, _, _, _⟩) (v := ?vc3ux3) rfl (by kernel_rfl) (by kernel_rfl) (by kernel_rfl) (fun _ _ _ h => h) (Or.inl ⟨by rfl, ?hyc3ux3⟩) hHeld ?restc3ux3
      case hyc3ux3 => (intro w hSw; (try dsimp only at hSw); obtain ⟨c3, k0, k1, hrest⟩ := hSw; go_simp; try with_reducible rfl)
      simp only [Act.put, List.setIfInBounds_toArray, List.set_cons_zero, List.set_cons_succ]
      refine wpAnyH_take (i := 4) (oi := ⟨some 27, _, _, _, _, _⟩) (v := ?vc3ux4) rfl (by kernel_rfl) (by kernel_rfl) (by kernel_rfl) (fun _ _ _ h => h) (Or.inl ⟨by rfl, ?hyc3ux4⟩) hHeld ?restc3ux4
      case hyc3ux4 => (intro w hSw; (try dsimp only at hSw); obtain ⟨c3, k0, k1, hrest⟩ := hSw; go_simp; try with_reducible rfl)
      simp only [Act.put, List.setIfInBounds_toArray, List.set_cons_zero, List.set_cons_succ]
      refine wpAnyH_ready (rs := [5]) (by kernel_rfl) (by simp) ?_
      refine AllReadyH.cons (o := ⟨none, _, _, _, _, _⟩) rfl (fun K hK => ?_) AllReadyH.nil
      obtain ⟨Uc3u1, hst, hg, hz, hM⟩ := HM.out.drop (c, r) 0 27
      have hst2 : (Builtin.delete_ #[63, 27] 0 #[.map (some kb), (.agg #[.int .i64 c, .int .i64 r])]).run Try.prog Uc3u0 = .ok (.tuple #[]) Uc3u1 := hst
      have HM2 : Hid (KMap Uc3u1 kb (updK (updK f (c, r) (f (c, r) + n)) (c, r) 0)) := hM
      have hS1 : CntS w tb kb c r Uc3u1 := hHeld.step hg
      clear hst hM
      go_simp
      refine hK.out _ _ (hS1) (fun hHeld2 => ?_)
      clear hK K hHeld
      have hHeld := hHeld2
      clear hHeld2
      (try simp only [Act.put, List.setIfInBounds_toArray, List.set_cons_zero, List.set_cons_succ])
      clear hst2 hg hz hS1
      refine wpAnyH_done (by kernel_rfl) ?_ _
      go_wp2
      go_end0
      refine ⟨⟨_, rfl⟩, ?_, hHeld.2.2.2.1⟩
      have h9 := HM2.out
      rw [updK_zero HZ.out] at h9
      exact h9
    · have hz2 : (f (c, r) + n == 0) = false := by simpa using hz
      rw [hz2]
      clear hz hz2
      go_wp2
      go_end0
      exact ⟨⟨_, rfl⟩, HM.out, HS.out.2.2.2.1⟩
  · obtain ⟨t, Ua1u4, hen, hg, hz, hE⟩ := KMap.entry HM.out (c, r)
    have hen2 : (Instr.mapEntry 63 (.map (some kb)) (.agg #[.int .i64 c, .int .i64 r])).run Try.prog Ua1u0 = .ok (.tuple #[.int .i64 (f (c, r)), .int .i64 (t : Int)]) Ua1u4 := hen
    have hS1 : CntS w tb kb c r Ua1u4 := hHeld.step hg
    have HE : Hid (KEnt Ua1u4 kb f (c, r) t) := hE
    clear hen hE
    go_simp
    refine hK.out _ _ (hS1) (fun hHeld2 => ?_)
    clear hK K hHeld
    have hHeld := hHeld2
    clear hHeld2
    (try simp only [Act.put, List.setIfInBounds_toArray, List.set_cons_zero, List.set_cons_succ])
    clear hen2 hg hz hS1 HM
    refine wpAnyH_take (i := 9) (oi := ⟨some 15, _, _, _, _, _⟩) (v := ?va1u_8x9) rfl (by kernel_rfl) (by kernel_rfl) (by kernel_rfl) (fun _ _ _ h => h) (Or.inl ⟨by rfl, ?hya1u_8x9⟩) hHeld ?resta1u_8x9
    case hya1u_8x9 => (intro w _; go_simp; try with_reducible rfl)
    simp only [Act.put, List.setIfInBounds_toArray, List.set_cons_zero, List.set_cons_succ]
    refine wpAnyH_ready (rs := [5]) (by kernel_rfl) (by simp) ?_
    refine AllReadyH.cons (o := ⟨some 11, _, _, _, _, _⟩) rfl (fun K hK => ?_) AllReadyH.nil
    have hlk : (Instr.lookup 63 (.map (some kb)) (.agg #[.int .i64 c, .int .i64 r]) false).run Try.prog Ua1u4 = .ok (.int .i64 (f (c, r))) Ua1u4 := HE.out.map.look (c, r)
    go_simp
    refine hK.out _ _ (hHeld) (fun hHeld2 => ?_)
    clear hK K hHeld
    have hHeld := hHeld2
    clear hHeld2
    (try simp only [Act.put, List.setIfInBounds_toArray, List.set_cons_zero, List.set_cons_succ])
    clear hlk
    refine wpAnyH_take (i := 7) (oi := ⟨some 13, _, _, _, _, _⟩) (v := ?va1u_8_5x7) rfl (by kernel_rfl) (by kernel_rfl) (by kernel_rfl) (fun _ _ _ h => h) (Or.inl ⟨by rfl, ?hya1u_8_5x7⟩) hHeld ?resta1u_8_5x7
    case hya1u_8_5x7 => (intro w hSw; (try dsimp only at hSw); obtain ⟨c3, k0, k1, hrest⟩ := hSw; go_simp; try with_reducible rfl)
    simp only [Act.put, List.setIfInBounds_toArray, List.set_cons_zero, List.set_cons_succ]
    refine wpAnyH_ready (rs := [10]) (by kernel_rfl) (by simp) ?_
    refine AllReadyH.cons (o := ⟨none, _, _, _, _, _⟩) rfl (fun K hK => ?_) AllReadyH.nil
    obtain ⟨Ua1u6, hst, hg, hz, hM⟩ := HE.out.store (f (c, r) + n)
    have hst2 : (Instr.entryStore 63 (.map (some kb)) (.int .i64 (t : Int)) (.int .i64 (f (c, r) + n))).run Try.prog Ua1u4 = .ok () Ua1u6 := hst
    have HM : Hid (KMap Ua1u6 kb (updK f (c, r) (f (c, r) + n))) := hM
    have hS1 : CntS w tb kb c r Ua1u6 := hHeld.step hg
    clear hst hM
    go_simp
    refine hK.out _ _ (hS1) (fun hHeld2 => ?_)
    clear hK K hHeld
    have hHeld := hHeld2
    clear hHeld2
    (try simp only [Act.put, List.setIfInBounds_toArray, List.set_cons_zero, List.set_cons_succ])
    clear hst2 hg hz hS1
    refine wpAnyH_done (by kernel_rfl) ?_ _
    have HS : Hid (CntS w tb kb c r Ua1u6) := hHeld
    clear hHeld HE
    go_wp2
    refine wp_region_held_drew (S := fun W' => CntS w tb kb c r W' ∧ KMap W' kb (updK f (c, r) (f (c, r) + n))) (by kernel_rfl) ⟨HS.out.drew, HM.out.keep rfl⟩ (fun hHeld => ?_)
    obtain ⟨Ub4u0, eW⟩ : ∃ X, X = Ua1u6.drew := ⟨_, rfl⟩
    have hb : Below Ua1u6.heap.size Ua1u6 Ub4u0 := by rw [eW]; exact (Below.refl _ _).drew
    replace HM : Hid (KMap Ub4u0 kb (updK f (c, r) (f (c, r) + n))) := HM.out.keep (hb.block _ HM.out.lt)
    rw [← eW] at hHeld ⊢
    clear eW hb
    refine wpAnyH_take (i := 0) (oi := ⟨some 16, _, _, _, _, _⟩) (v := ?vb4ux0) rfl (by kernel_rfl) (by kernel_rfl) (by kernel_rfl) (fun _ _ _ h => h) (Or.inl ⟨by rfl, ?hyb4ux0⟩) hHeld ?restb4ux0
    case hyb4ux0 => (intro w _; go_simp; try with_reducible rfl)
    simp only [Act.put, List.setIfInBounds_toArray, List.set_cons_zero, List.set_cons_succ]
    refine wpAnyH_take (i := 1) (oi := ⟨some 17, _, _, _, _, _⟩) (v := ?vb4ux1) rfl (by kernel_rfl) (by kernel_rfl) (by kernel_rfl) (fun _ _ _ h => h) (Or.inl ⟨by rfl, ?hyb4ux1⟩) hHeld ?restb4ux1
    case hyb4ux1 => (intro w hSw; (try dsimp only at hSw); obtain ⟨⟨c3, k0, k1, hrest⟩, hM⟩ := hSw; have hlk : (Instr.lookup 63 (.map (some kb)) (.agg #[.int .i64 c, .int .i64 r]) false).run Try.prog w = .ok (.int .i64 (f (c, r) + n)) w := hM.look_upd; go_simp; try with_reducible rfl)
    simp only [Act.put, List.setIfInBounds_toArray, List.set_cons_zero, List.set_cons_succ]
    refine wpAnyH_take (i := 2) (oi := ⟨some 18, _, _, _, _, _⟩) (v := ?vb4ux2) rfl (by kernel_rfl) (by kernel_rfl) (by kernel_rfl) (fun _ _ _ h => h) (Or.inl ⟨by rfl, ?hyb4ux2⟩) hHeld ?restb4ux2
    case hyb4ux2 => (intro w _; go_simp; try with_reducible rfl)
    simp only [Act.put, List.setIfInBounds_toArray, List.set_cons_zero, List.set_cons_succ]
    refine wpAnyH_take (i := 3) (oi := ⟨some 19, _, _, _, _, _⟩) (v := ?vb4ux3) rfl (by kernel_rfl) (by kernel_rfl) (by kernel_rfl) (fun _ _ _ h => h) (Or.inl ⟨by rfl, ?hyb4ux3⟩) hHeld ?restb4ux3
    case hyb4ux3 => (intro w hSw; (try dsimp only at hSw); obtain ⟨⟨c3, k0, k1, hrest⟩, hM⟩ := hSw; have hlk : (Instr.lookup 63 (.map (some kb)) (.agg #[.int .i64 c, .int .i64 r]) false).run Try.prog w = .ok (.int .i64 (f (c, r) + n)) w := hM.look_upd; go_simp; try with_reducible rfl)
    simp only [Act.put, List.setIfInBounds_toArray, List.set_cons_zero, List.set_cons_succ]
    refine wpAnyH_take (i := 4) (oi := ⟨some 20, _, _, _, _, _⟩) (v := ?vb4ux4) rfl (by kernel_rfl) (by kernel_rfl) (by kernel_rfl) (fun _ _ _ h => h) (Or.inl ⟨by rfl, ?hyb4ux4⟩) hHeld ?restb4ux4
    case hyb4ux4 => (intro w hSw; (try dsimp only at hSw); obtain ⟨⟨c3, k0, k1, hrest⟩, hM⟩ := hSw; have hlk : (Instr.lookup 63 (.map (some kb)) (.agg #[.int .i64 c, .int .i64 r]) false).run Try.prog w = .ok (.int .i64 (f (c, r) + n)) w := hM.look_upd; go_simp; try with_reducible rfl)
    simp only [Act.put, List.setIfInBounds_toArray, List.set_cons_zero, List.set_cons_succ]
    refine wpAnyH_take (i := 5) (oi := ⟨some 21, _, _, _, _, _⟩) (v := ?vb4ux5) rfl (by kernel_rfl) (by kernel_rfl) (by kernel_rfl) (fun _ _ _ h => h) (Or.inl ⟨by rfl, ?hyb4ux5⟩) hHeld ?restb4ux5
    case hyb4ux5 => (intro w hSw; (try dsimp only at hSw); obtain ⟨⟨c3, k0, k1, hrest⟩, hM⟩ := hSw; have hlk : (Instr.lookup 63 (.map (some kb)) (.agg #[.int .i64 c, .int .i64 r]) false).run Try.prog w = .ok (.int .i64 (f (c, r) + n)) w := hM.look_upd; go_simp; try with_reducible rfl)
    simp only [Act.put, List.setIfInBounds_toArray, List.set_cons_zero, List.set_cons_succ]
    refine wpAnyH_take (i := 6) (oi := ⟨some 22, _, _, _, _, _⟩) (v := ?vb4ux6) rfl (by kernel_rfl) (by kernel_rfl) (by kernel_rfl) (fun _ _ _ h => h) (Or.inl ⟨by rfl, ?hyb4ux6⟩) hHeld ?restb4ux6
    case hyb4ux6 => (intro w hSw; (try dsimp only at hSw); obtain ⟨⟨c3, k0, k1, hrest⟩, hM⟩ := hSw; have hlk : (Instr.lookup 63 (.map (some kb)) (.agg #[.int .i64 c, .int .i64 r]) false).run Try.prog w = .ok (.int .i64 (f (c, r) + n)) w := hM.look_upd; go_simp; try with_reducible rfl)
    simp only [Act.put, List.setIfInBounds_toArray, List.set_cons_zero, List.set_cons_succ]
    refine wpAnyH_done (by kernel_rfl) ?_ _
    have HS : Hid (CntS w tb kb c r Ub4u0) := hHeld.1
    clear hHeld
    by_cases hz : f (c, r) + n = 0
    · have HZ : Hid (f (c, r) + n = 0) := hz
      have hz2 : (f (c, r) + n == 0) = true := by rw [hz]; rfl
      rw [hz2]
      clear hz hz2 hr hw1
      go_wp2
      refine wp_region_held_drew (S := fun W' => CntS w tb kb c r W') (by kernel_rfl) HS.out.drew (fun hHeld => ?_)
      obtain ⟨Uc5u0, eW⟩ : ∃ X, X = Ub4u0.drew := ⟨_, rfl⟩
      have hb : Below Ub4u0.heap.size Ub4u0 Uc5u0 := by rw [eW]; exact (Below.refl _ _).drew
      replace HM : Hid (KMap Uc5u0 kb (updK f (c, r) (f (c, r) + n))) := HM.out.keep (hb.block _ HM.out.lt)
      rw [← eW] at hHeld ⊢
      clear eW hb
      refine wpAnyH_take (i := 0) (oi := ⟨some 23, _, _, _, _, _⟩) (v := ?vc5ux0) rfl (by kernel_rfl) (by kernel_rfl) (by kernel_rfl) (fun _ _ _ h => h) (Or.inl ⟨by rfl, ?hyc5ux0⟩) hHeld ?restc5ux0
      case hyc5ux0 => (intro w _; go_simp; try with_reducible rfl)
      simp only [Act.put, List.setIfInBounds_toArray, List.set_cons_zero, List.set_cons_succ]
      refine wpAnyH_take (i := 1) (oi := ⟨some 24, _, _, _, _, _⟩) (v := ?vc5ux1) rfl (by kernel_rfl) (by kernel_rfl) (by kernel_rfl) (fun _ _ _ h => h) (Or.inl ⟨by rfl, ?hyc5ux1⟩) hHeld ?restc5ux1
      case hyc5ux1 => (intro w hSw; (try dsimp only at hSw); obtain ⟨c3, k0, k1, hrest⟩ := hSw; go_simp; try with_reducible rfl)
      simp only [Act.put, List.setIfInBounds_toArray, List.set_cons_zero, List.set_cons_succ]
      refine wpAnyH_take (i := 2) (oi := ⟨some 25, _, _, _, _, _⟩) (v := ?vc5ux2) rfl (by kernel_rfl) (by kernel_rfl) (by kernel_rfl) (fun _ _ _ h => h) (Or.inl ⟨by rfl, ?hyc5ux2⟩) hHeld ?restc5ux2
      case hyc5ux2 => (intro w _; go_simp; try with_reducible rfl)
      simp only [Act.put, List.setIfInBounds_toArray, List.set_cons_zero, List.set_cons_succ]
      refine wpAnyH_take (i := 3) (oi := ⟨some 26, _, _, _, _, _⟩) (v := ?vc5ux3) rfl (by kernel_rfl) (by kernel_rfl) (by kernel_rfl) (fun _ _ _ h => h) (Or.inl ⟨by rfl, ?hyc5ux3⟩) hHeld ?restc5ux3
      case hyc5ux3 => (intro w hSw; (try dsimp only at hSw); obtain ⟨c3, k0, k1, hrest⟩ := hSw; go_simp; try with_reducible rfl)
      simp only [Act.put, List.setIfInBounds_toArray, List.set_cons_zero, List.set_cons_succ]
      refine wpAnyH_take (i := 4) (oi := ⟨some 27, _, _, _, _, _⟩) (v := ?vc5ux4) rfl (by kernel_rfl) (by kernel_rfl) (by kernel_rfl) (fun _ _ _ h => h) (Or.inl ⟨by rfl, ?hyc5ux4⟩) hHeld ?restc5ux4
      case hyc5ux4 => (intro w hSw; (try dsimp only at hSw); obtain ⟨c3, k0, k1, hrest⟩ := hSw; go_simp; try with_reducible rfl)
      simp only [Act.put, List.setIfInBounds_toArray, List.set_cons_zero, List.set_cons_succ]
      refine wpAnyH_ready (rs := [5]) (by kernel_rfl) (by simp) ?_
      refine AllReadyH.cons (o := ⟨none, _, _, _, _, _⟩) rfl (fun K hK => ?_) AllReadyH.nil
      obtain ⟨Uc5u1, hst, hg, hz, hM⟩ := HM.out.drop (c, r) 0 27
      have hst2 : (Builtin.delete_ #[63, 27] 0 #[.map (some kb), (.agg #[.int .i64 c, .int .i64 r])]).run Try.prog Uc5u0 = .ok (.tuple #[]) Uc5u1 := hst
      have HM2 : Hid (KMap Uc5u1 kb (updK (updK f (c, r) (f (c, r) + n)) (c, r) 0)) := hM
      have hS1 : CntS w tb kb c r Uc5u1 := hHeld.step hg
      clear hst hM
      go_simp
      refine hK.out _ _ (hS1) (fun hHeld2 => ?_)
      clear hK K hHeld
      have hHeld := hHeld2
      clear hHeld2
      (try simp only [Act.put, List.setIfInBounds_toArray, List.set_cons_zero, List.set_cons_succ])
      clear hst2 hg hz hS1
      refine wpAnyH_done (by kernel_rfl) ?_ _
      go_wp2
      go_end0
      refine ⟨⟨_, rfl⟩, ?_, hHeld.2.2.2.1⟩
      have h9 := HM2.out
      rw [updK_zero HZ.out] at h9
      exact h9
    · have hz2 : (f (c, r) + n == 0) = false := by simpa using hz
      rw [hz2]
      clear hz hz2
      go_wp2
      go_end0
      exact ⟨⟨_, rfl⟩, HM.out, HS.out.2.2.2.1⟩

end Go.Proofs.Ytljepindfdhbbaa
