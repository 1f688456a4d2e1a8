/- What put does. -/
import Derived.Test.YtljepindfdhbbaaTrA
import Derived.Deep.RegionHeld
namespace Go.Proofs.Ytljepindfdhbbaa
open Go.RowKit
set_option linter.unusedVariables false
set_option linter.unusedSimpArgs false

/-- What stands while put puts. -/
structure PutS (w : World) (tb sb kb : Nat) (lv kv : Value) (c r : Int) (p : Pl) (W : World) : Prop where
  row : W.heap[tb]? = some (.cells #[lv, kv, .map (some sb), .map (some kb)] 66)
  nd : W.heap[w.heap.size]? = some (.cells #[.int .i64 c, .int .i64 r] 27)
  wh : W.heap[w.heap.size + 1]? = some (.cells (plCells p).toArray 43)
  tch : Touch (fun k => k = sb ∨ k = kb) w W
  sz : w.heap.size + 2 ≤ W.heap.size
  sbl : sb < w.heap.size
  kbl : kb < w.heap.size
  tbl : tb < w.heap.size
  ts : tb ≠ sb
  tk : tb ≠ kb
section
variable {w : World} {tb sb kb : Nat} {lv kv : Value} {c r : Int} {p : Pl} {W W' : World}
theorem PutS.touch (h : PutS w tb sb kb lv kv c r p W) {F : Nat → Prop} (ht : Touch F W W') (hF : ∀ k, F k → k = sb ∨ k = kb ∨ w.heap.size + 2 ≤ k) : PutS w tb sb kb lv kv c r p W' := by
  have ha : ∀ b, b < W.heap.size → b ≠ sb → b ≠ kb → ¬ w.heap.size + 2 ≤ b → W'.heap[b]? = W.heap[b]? := fun b h1 h2 h3 h4 => ht.block b h1 fun h5 => by rcases hF b h5 with h6 | h6 | h6 <;> omega
  have hz := h.sz
  have h1 := h.sbl
  have h2 := h.kbl
  have h3 := h.tbl
  exact ⟨(ha tb (by omega) h.ts h.tk (by omega)).trans h.row, (ha _ (by omega) (by omega) (by omega) (by omega)).trans h.nd, (ha _ (by omega) (by omega) (by omega) (by omega)).trans h.wh, h.tch.trans ht (fun j hj => by rcases hF j hj with h6 | h6 | h6; exact .inl (.inl h6); exact .inl (.inr h6); exact .inr (by omega)), Nat.le_trans h.sz ht.size, h.sbl, h.kbl, h.tbl, h.ts, h.tk⟩
theorem PutS.step (h : PutS w tb sb kb lv kv c r p W) {b : Nat} (hg : W.grownBy W' (some b)) (hb : b = sb ∨ b = kb ∨ w.heap.size + 2 ≤ b) : PutS w tb sb kb lv kv c r p W' :=
  h.touch (F := fun k => k = b) (Touch.of_grown hg fun k e _ => by cases e; rfl) fun k e => by rw [e]; exact hb
theorem PutS.below (h : PutS w tb sb kb lv kv c r p W) (hb : Below W.heap.size W W') : PutS w tb sb kb lv kv c r p W' := h.touch (F := fun _ => False) (Touch.of_below hb) fun k e => e.elim
theorem PutS.drew (h : PutS w tb sb kb lv kv c r p W) : PutS w tb sb kb lv kv c r p W.drew := h.below (Below.refl _ _).drew
theorem PutS.t2 (h : PutS w tb sb kb lv kv c r p W) : W.cell? ⟨tb, 2, none⟩ = some (.map (some sb)) := by rw [cell_of_row W tb 2 _ _ _ h.row]; rfl
theorem PutS.n0 (h : PutS w tb sb kb lv kv c r p W) : W.cell? ⟨w.heap.size, 0, none⟩ = some (.int .i64 c) := by rw [cell_of_row W _ 0 _ _ _ h.nd]; rfl
theorem PutS.n1 (h : PutS w tb sb kb lv kv c r p W) : W.cell? ⟨w.heap.size, 1, none⟩ = some (.int .i64 r) := by rw [cell_of_row W _ 1 _ _ _ h.nd]; rfl
theorem PutS.p0 (h : PutS w tb sb kb lv kv c r p W) : W.cell? ⟨w.heap.size + 1, 0, none⟩ = some (.int .i64 p.nd.1) := by rw [cell_of_row W _ 0 _ _ _ h.wh]; rfl
theorem PutS.p1 (h : PutS w tb sb kb lv kv c r p W) : W.cell? ⟨w.heap.size + 1, 1, none⟩ = some (.int .i64 p.nd.2) := by rw [cell_of_row W _ 1 _ _ _ h.wh]; rfl
theorem PutS.p2 (h : PutS w tb sb kb lv kv c r p W) : W.cell? ⟨w.heap.size + 1, 2, none⟩ = some (.int .i64 p.pr.1) := by rw [cell_of_row W _ 2 _ _ _ h.wh]; rfl
theorem PutS.p3 (h : PutS w tb sb kb lv kv c r p W) : W.cell? ⟨w.heap.size + 1, 3, none⟩ = some (.int .i64 p.pr.2) := by rw [cell_of_row W _ 3 _ _ _ h.wh]; rfl
theorem PutS.p4 (h : PutS w tb sb kb lv kv c r p W) : W.cell? ⟨w.heap.size + 1, 4, none⟩ = some (.int .i64 p.sl.1) := by rw [cell_of_row W _ 4 _ _ _ h.wh]; rfl
theorem PutS.p5 (h : PutS w tb sb kb lv kv c r p W) : W.cell? ⟨w.heap.size + 1, 5, none⟩ = some (.int .i64 p.sl.2) := by rw [cell_of_row W _ 5 _ _ _ h.wh]; rfl
end

set_option maxRecDepth 100000 in
set_option maxHeartbeats 4000000 in
theorem put_sz (tb sb kb : Nat) (lv kv : Value) (c r : Int) (p : Pl) (q : Pl) (T : List Pl) (w : World) (h : w.heap[tb]? = some (.cells #[lv, kv, .map (some sb), .map (some kb)] 66)) (hd : SMap w sb T) (hk : KMap w kb (kidsN T)) (hne : sb ≠ kb) (hs : SrtT T) (hl : T.length ≤ 8192) (hq : whT T (c, r) = some q) (hp : p = zeroPl) :
    Calls Try.prog 53 #[.pointer (some ⟨tb, 0, none⟩), .agg #[.int .i64 c, .int .i64 r], .agg (plCells p).toArray] w fun e w' => (∃ v, e = .returned v) ∧ SMap w' sb (delT T (c, r)) ∧ KMap w' kb (kidsN (delT T (c, r))) ∧ Touch (fun k => k = sb ∨ k = kb) w w' := by
  have hts : tb ≠ sb := by
    intro e
    obtain ⟨D, ⟨es, cl, h1, _⟩, _⟩ := hd
    rw [e, h1] at h
    cases h
  have hkt : tb ≠ kb := by
    intro e
    obtain ⟨D, ⟨es, cl, h1, _⟩, _⟩ := hk
    rw [e, h1] at h
    cases h
  obtain ⟨W0, eW⟩ : ∃ X, X = (w.alloc (.cells #[.int .i64 c, .int .i64 r] 27)).alloc (.cells (plCells p).toArray 43) := ⟨_, rfl⟩
  have hb0 : Below w.heap.size w W0 := by rw [eW]; exact ((Below.refl _ _).alloc (Nat.le_refl _) _).alloc (by simp) _
  have HM : Hid (KMap W0 kb (kidsN T)) := hk.keep (hb0.block _ hk.lt)
  have HD0 : Hid (SMap W0 sb T) := hd.keep (hb0.block _ hd.lt)
  have hn1 : W0.heap[w.heap.size]? = some (.cells #[.int .i64 c, .int .i64 r] 27) := by rw [eW]; exact (Below.heap_alloc _ _ _ (by simp)).trans (heap_alloc_new w _)
  have hn2 : W0.heap[w.heap.size + 1]? = some (.cells (plCells p).toArray 43) := by rw [eW]; have := heap_alloc_new (w.alloc (.cells #[.int .i64 c, .int .i64 r] 27)) (.cells (plCells p).toArray 43); simpa using this
  have HS0 : Hid (PutS w tb sb kb lv kv c r p W0) := ⟨(hb0.block _ (row_lt h)).trans h, hn1, hn2, Touch.of_below hb0, row_lt hn2, hd.lt, hk.lt, row_lt h, hts, hkt⟩
  have HSr : Hid (SrtT T) := hs
  have HNe : Hid (sb ≠ kb) := hne
  have HQ : Hid (whT T (c, r) = some q) := hq
  have HB1 : Hid (-1000000 ≤ kidsN T (q.pr.1, q.pr.2) + -1 ∧ kidsN T (q.pr.1, q.pr.2) + -1 ≤ 1000000) := by (have h1 := kidsN_le T (q.pr.1, q.pr.2); have h2 := kidsN_nn T (q.pr.1, q.pr.2); exact ⟨by omega, by omega⟩)
  have HB2 : Hid (-1000000 ≤ kidsN (delT T (c, r)) (p.pr.1, p.pr.2) + 1 ∧ kidsN (delT T (c, r)) (p.pr.1, p.pr.2) + 1 ≤ 1000000) := by (have h1 := kidsN_le (delT T (c, r)) (p.pr.1, p.pr.2); have h2 := kidsN_nn (delT T (c, r)) (p.pr.1, p.pr.2); have h3 := delT_length T (c, r); exact ⟨by omega, by omega⟩)
  have HEq : Hid (∀ w, (binOp .eql 43 (.agg #[.int .i64 p.nd.1, .int .i64 p.nd.2, .int .i64 p.pr.1, .int .i64 p.pr.2, .int .i64 p.sl.1, .int .i64 p.sl.2]) (.agg #[.int .i64 0, .int .i64 0, .int .i64 0, .int .i64 0, .int .i64 0, .int .i64 0])).run Try.prog w = .ok (.bool true) w) := fun w => by
    have h9 := eqlPl p zeroPl w
    rw [decide_eq_true hp] at h9
    exact h9
  
  clear h hd hk hb0 hn1 hn2 hts hkt hs hne hq hp hl
  go_enter Try.func53, Try.ntmps53
  go_wp2
  rw [← eW]
  clear eW
  refine wp_region_held_drew (S := fun W' => PutS w tb sb kb lv kv c r p W' ∧ SMap W' sb T) (by kernel_rfl) ⟨HS0.out.drew, HD0.out.keep rfl⟩ (fun hHeld => ?_)
  obtain ⟨Ua1u0, eW⟩ : ∃ X, X = W0.drew := ⟨_, rfl⟩
  have hb : Below W0.heap.size W0 Ua1u0 := by rw [eW]; exact (Below.refl _ _).drew
  replace HM : Hid (KMap Ua1u0 kb (kidsN T)) := HM.out.keep (hb.block _ HM.out.lt)
  rw [← eW] at hHeld ⊢
  clear eW hb
  refine wpAnyH_take (i := 0) (oi := ⟨some 9, _, _, _, _, _⟩) (v := ?va1ux0) rfl (by kernel_rfl) (by kernel_rfl) (by kernel_rfl) (fun _ _ _ h => h) (Or.inl ⟨by rfl, ?hya1ux0⟩) hHeld ?resta1ux0
  case hya1ux0 => (intro w _; go_simp; try with_reducible rfl)
  simp only [Act.put, List.setIfInBounds_toArray, List.set_cons_zero, List.set_cons_succ]
  refine wpAnyH_take (i := 1) (oi := ⟨some 10, _, _, _, _, _⟩) (v := ?va1ux1) rfl (by kernel_rfl) (by kernel_rfl) (by kernel_rfl) (fun _ _ _ h => h) (Or.inl ⟨by rfl, ?hya1ux1⟩) hHeld ?resta1ux1
  case hya1ux1 => (intro w hSw; (try dsimp only at hSw); obtain ⟨hP, hM⟩ := hSw; have t2 := hP.t2; have n0 := hP.n0; have n1 := hP.n1; have hlk : (Instr.lookup 62 (.map (some sb)) (.agg #[.int .i64 c, .int .i64 r]) true).run Try.prog w = .ok (.tuple #[plV q, .bool true]) w := (by have h0 := hM.look HSr.out (c, r); rw [HQ.out] at h0; exact h0); go_simp; try with_reducible rfl)
  simp only [Act.put, List.setIfInBounds_toArray, List.set_cons_zero, List.set_cons_succ]
  refine wpAnyH_take (i := 2) (oi := ⟨some 11, _, _, _, _, _⟩) (v := ?va1ux2) rfl (by kernel_rfl) (by kernel_rfl) (by kernel_rfl) (fun _ _ _ h => h) (Or.inl ⟨by rfl, ?hya1ux2⟩) hHeld ?resta1ux2
  case hya1ux2 => (intro w _; go_simp; try with_reducible rfl)
  simp only [Act.put, List.setIfInBounds_toArray, List.set_cons_zero, List.set_cons_succ]
  refine wpAnyH_take (i := 3) (oi := ⟨some 12, _, _, _, _, _⟩) (v := ?va1ux3) rfl (by kernel_rfl) (by kernel_rfl) (by kernel_rfl) (fun _ _ _ h => h) (Or.inl ⟨by rfl, ?hya1ux3⟩) hHeld ?resta1ux3
  case hya1ux3 => (intro w hSw; (try dsimp only at hSw); obtain ⟨hP, hM⟩ := hSw; have t2 := hP.t2; have n0 := hP.n0; have n1 := hP.n1; have hlk : (Instr.lookup 62 (.map (some sb)) (.agg #[.int .i64 c, .int .i64 r]) true).run Try.prog w = .ok (.tuple #[plV q, .bool true]) w := (by have h0 := hM.look HSr.out (c, r); rw [HQ.out] at h0; exact h0); go_simp; try with_reducible rfl)
  simp only [Act.put, List.setIfInBounds_toArray, List.set_cons_zero, List.set_cons_succ]
  refine wpAnyH_take (i := 4) (oi := ⟨some 13, _, _, _, _, _⟩) (v := ?va1ux4) rfl (by kernel_rfl) (by kernel_rfl) (by kernel_rfl) (fun _ _ _ h => h) (Or.inl ⟨by rfl, ?hya1ux4⟩) hHeld ?resta1ux4
  case hya1ux4 => (intro w hSw; (try dsimp only at hSw); obtain ⟨hP, hM⟩ := hSw; have t2 := hP.t2; have n0 := hP.n0; have n1 := hP.n1; have hlk : (Instr.lookup 62 (.map (some sb)) (.agg #[.int .i64 c, .int .i64 r]) true).run Try.prog w = .ok (.tuple #[plV q, .bool true]) w := (by have h0 := hM.look HSr.out (c, r); rw [HQ.out] at h0; exact h0); go_simp; try with_reducible rfl)
  simp only [Act.put, List.setIfInBounds_toArray, List.set_cons_zero, List.set_cons_succ]
  refine wpAnyH_take (i := 5) (oi := ⟨some 14, _, _, _, _, _⟩) (v := ?va1ux5) rfl (by kernel_rfl) (by kernel_rfl) (by kernel_rfl) (fun _ _ _ h => h) (Or.inl ⟨by rfl, ?hya1ux5⟩) hHeld ?resta1ux5
  case hya1ux5 => (intro w hSw; (try dsimp only at hSw); obtain ⟨hP, hM⟩ := hSw; have t2 := hP.t2; have n0 := hP.n0; have n1 := hP.n1; have hlk : (Instr.lookup 62 (.map (some sb)) (.agg #[.int .i64 c, .int .i64 r]) true).run Try.prog w = .ok (.tuple #[plV q, .bool true]) w := (by have h0 := hM.look HSr.out (c, r); rw [HQ.out] at h0; exact h0); go_simp; try with_reducible rfl)
  simp only [Act.put, List.setIfInBounds_toArray, List.set_cons_zero, List.set_cons_succ]
  refine wpAnyH_take (i := 6) (oi := ⟨some 8, _, _, _, _, _⟩) (v := ?va1ux6) rfl (by kernel_rfl) (by kernel_rfl) (by kernel_rfl) (fun _ _ _ h => h) (Or.inl ⟨by rfl, ?hya1ux6⟩) hHeld ?resta1ux6
  case hya1ux6 => (intro w _; go_simp; try with_reducible rfl)
  simp only [Act.put, List.setIfInBounds_toArray, List.set_cons_zero, List.set_cons_succ]
  refine wpAnyH_take (i := 7) (oi := ⟨some 15, _, _, _, _, _⟩) (v := ?va1ux7) rfl (by kernel_rfl) (by kernel_rfl) (by kernel_rfl) (fun _ _ _ h => h) (Or.inl ⟨by rfl, ?hya1ux7⟩) hHeld ?resta1ux7
  case hya1ux7 => (intro w _; go_simp; try with_reducible rfl)
  simp only [Act.put, List.setIfInBounds_toArray, List.set_cons_zero, List.set_cons_succ]
  refine wpAnyH_take (i := 8) (oi := ⟨some 16, _, _, _, _, _⟩) (v := ?va1ux8) rfl (by kernel_rfl) (by kernel_rfl) (by kernel_rfl) (fun _ _ _ h => h) (Or.inl ⟨by rfl, ?hya1ux8⟩) hHeld ?resta1ux8
  case hya1ux8 => (intro w _; go_simp; try with_reducible rfl)
  simp only [Act.put, List.setIfInBounds_toArray, List.set_cons_zero, List.set_cons_succ]
  refine wpAnyH_ready (rs := [9]) (by kernel_rfl) (by simp) ?_
  refine AllReadyH.cons (o := ⟨some 6, _, _, _, _, _⟩) rfl (fun K hK => ?_) AllReadyH.nil
  have HSz : Hid (w.heap.size + 2 ≤ Ua1u0.heap.size) := hHeld.1.sz
  have hbx : Below Ua1u0.heap.size Ua1u0 (Ua1u0.alloc (.cells #[.int .i64 0, .int .i64 0, .int .i64 0, .int .i64 0, .int .i64 0, .int .i64 0] 43)) := (Below.refl _ _).alloc (Nat.le_refl _) _
  go_simp
  refine hK.out _ _ (⟨hHeld.1.below hbx, hHeld.2.keep (hbx.block _ hHeld.2.lt)⟩) (fun hHeld2 => ?_)
  clear hK K hHeld
  have hHeld := hHeld2
  clear hHeld2
  (try simp only [Act.put, List.setIfInBounds_toArray, List.set_cons_zero, List.set_cons_succ])
  obtain ⟨Ua1u1, eW⟩ : ∃ X, X = Ua1u0.alloc (.cells #[.int .i64 0, .int .i64 0, .int .i64 0, .int .i64 0, .int .i64 0, .int .i64 0] 43) := ⟨_, rfl⟩
  have hb : Below Ua1u0.heap.size Ua1u0 Ua1u1 := by rw [eW]; exact (Below.refl _ _).alloc (Nat.le_refl _) _
  replace HM : Hid (KMap Ua1u1 kb (kidsN T)) := HM.out.keep (hb.block _ HM.out.lt)
  have HZ : Hid (Ua1u1.heap[Ua1u0.heap.size]? = some (.cells #[.int .i64 0, .int .i64 0, .int .i64 0, .int .i64 0, .int .i64 0, .int .i64 0] 43)) := by rw [eW]; exact heap_alloc_new _ _
  rw [← eW] at hHeld ⊢
  clear eW
  clear hbx
  obtain ⟨nb, enb⟩ : ∃ b, b = Ua1u0.heap.size := ⟨_, rfl⟩
  have HN : Hid (w.heap.size + 2 ≤ nb) := by rw [enb]; have := HSz.out; exact this
  rw [← enb] at HZ ⊢
  clear enb
  clear HSz
  clear hb
  refine wpAnyH_ready (rs := [10]) (by kernel_rfl) (by simp) ?_
  refine AllReadyH.cons (o := ⟨none, _, _, _, _, _⟩) rfl (fun K hK => ?_) AllReadyH.nil
  refine step_store_row rfl 43 (.tmp 6) (.tmp 15) rfl nb 43 #[.int .i64 0, .int .i64 0, .int .i64 0, .int .i64 0, .int .i64 0, .int .i64 0] (plCells q).toArray rfl rfl HZ.out sizePlaced rfl (by simp [Value.oneCell', plCells]) ?_
  obtain ⟨Ua1u2, eW⟩ : ∃ Y, Y = Ua1u1.setRow nb (plCells q).toArray := ⟨_, rfl⟩
  have hg : Ua1u1.grownBy Ua1u2 (some nb) := by rw [eW]; exact grown_setRow _ _ _
  have HR : Hid (Ua1u2.heap[nb]? = some (.cells (plCells q).toArray 43)) := by rw [eW]; exact setRow_same HZ.out
  rw [← eW]
  have hS2 : PutS w tb sb kb lv kv c r p Ua1u2 ∧ SMap Ua1u2 sb T := ⟨hHeld.1.step hg (.inr (.inr HN.out)), hHeld.2.keep (hg.block _ hHeld.2.lt (fun e => by have h1 := HN.out; have h2 := hHeld.1.sbl; cases e; omega))⟩
  replace HM : Hid (KMap Ua1u2 kb (kidsN T)) := HM.out.keep (hg.block _ HM.out.lt (fun e => by have h1 := HN.out; have h2 := hHeld.1.kbl; cases e; omega))
  refine hK.out _ _ (hS2) (fun hHeld2 => ?_)
  clear hK K hHeld
  have hHeld := hHeld2
  clear hHeld2
  (try simp only [Act.put, List.setIfInBounds_toArray, List.set_cons_zero, List.set_cons_succ])
  clear eW hg hS2 HZ
  refine wpAnyH_take (i := 11) (oi := ⟨some 7, _, _, _, _, _⟩) (v := ?va1u_9_10x11) rfl (by kernel_rfl) (by kernel_rfl) (by kernel_rfl) (fun _ _ _ h => h) (Or.inl ⟨by rfl, ?hya1u_9_10x11⟩) hHeld ?resta1u_9_10x11
  case hya1u_9_10x11 => (intro w _; go_simp; try with_reducible rfl)
  simp only [Act.put, List.setIfInBounds_toArray, List.set_cons_zero, List.set_cons_succ]
  refine wpAnyH_done (by kernel_rfl) ?_ _
  have HS : Hid (PutS w tb sb kb lv kv c r p Ua1u2) := hHeld.1
  have HD : Hid (SMap Ua1u2 sb T) := hHeld.2
  clear hHeld
  have q2 : Ua1u2.cell? ⟨nb, 2, none⟩ = some (.int .i64 q.pr.1) := by rw [cell_of_row Ua1u2 nb 2 _ _ _ HR.out]; rfl
  have q3 : Ua1u2.cell? ⟨nb, 3, none⟩ = some (.int .i64 q.pr.2) := by rw [cell_of_row Ua1u2 nb 3 _ _ _ HR.out]; rfl
  clear HR
  go_wp2_with fail
  clear q2 q3
  refine (count_any tb kb lv kv (.map (some sb)) q.pr.1 q.pr.2 (-1) (kidsN T) _ HS.out.row HM.out HB1.out).mono ?_
  rintro e w3 ⟨⟨v3, rfl⟩, hk3, ht3⟩
  replace HS : Hid (PutS w tb sb kb lv kv c r p w3) := HS.out.touch ht3 (fun k e => .inr (.inl e))
  replace HD : Hid (SMap w3 sb T) := HD.out.keep (ht3.block _ HD.out.lt (fun e => HNe.out (by omega)))
  replace HM : Hid (KMap w3 kb (kidsN (delT T (c, r)))) := by (have h9 := hk3; rw [show ((q.pr.1, q.pr.2) : St) = q.pr from rfl, kids_put1 HSr.out HQ.out] at h9; exact h9)
  clear hk3 ht3 HQ HN
  have p0 := HS.out.p0
  have p1 := HS.out.p1
  have p2 := HS.out.p2
  have p3 := HS.out.p3
  have p4 := HS.out.p4
  have p5 := HS.out.p5
  have heq := HEq.out
  go_wp2
  clear heq p0 p1 p2 p3 p4 p5
  refine wp_region_held_drew (S := fun W' => PutS w tb sb kb lv kv c r p W') (by kernel_rfl) HS.out.drew (fun hHeld => ?_)
  obtain ⟨Uz2u0, eW⟩ : ∃ X, X = w3.drew := ⟨_, rfl⟩
  have hb : Below w3.heap.size w3 Uz2u0 := by rw [eW]; exact (Below.refl _ _).drew
  replace HD : Hid (SMap Uz2u0 sb T) := HD.out.keep (hb.block _ HD.out.lt)
  replace HM : Hid (KMap Uz2u0 kb (kidsN (delT T (c, r)))) := HM.out.keep (hb.block _ HM.out.lt)
  rw [← eW] at hHeld ⊢
  clear eW hb
  refine wpAnyH_take (i := 0) (oi := ⟨some 25, _, _, _, _, _⟩) (v := ?vz2ux0) rfl (by kernel_rfl) (by kernel_rfl) (by kernel_rfl) (fun _ _ _ h => h) (Or.inl ⟨by rfl, ?hyz2ux0⟩) hHeld ?restz2ux0
  case hyz2ux0 => (intro w _; go_simp; try with_reducible rfl)
  simp only [Act.put, List.setIfInBounds_toArray, List.set_cons_zero, List.set_cons_succ]
  refine wpAnyH_take (i := 1) (oi := ⟨some 26, _, _, _, _, _⟩) (v := ?vz2ux1) rfl (by kernel_rfl) (by kernel_rfl) (by kernel_rfl) (fun _ _ _ h => h) (Or.inl ⟨by rfl, ?hyz2ux1⟩) hHeld ?restz2ux1
  case hyz2ux1 => (intro w hSw; (try dsimp only at hSw); have hP := hSw; have t2 := hP.t2; have n0 := hP.n0; have n1 := hP.n1; go_simp; try with_reducible rfl)
  simp only [Act.put, List.setIfInBounds_toArray, List.set_cons_zero, List.set_cons_succ]
  refine wpAnyH_take (i := 2) (oi := ⟨some 27, _, _, _, _, _⟩) (v := ?vz2ux2) rfl (by kernel_rfl) (by kernel_rfl) (by kernel_rfl) (fun _ _ _ h => h) (Or.inl ⟨by rfl, ?hyz2ux2⟩) hHeld ?restz2ux2
  case hyz2ux2 => (intro w _; go_simp; try with_reducible rfl)
  simp only [Act.put, List.setIfInBounds_toArray, List.set_cons_zero, List.set_cons_succ]
  refine wpAnyH_take (i := 3) (oi := ⟨some 28, _, _, _, _, _⟩) (v := ?vz2ux3) rfl (by kernel_rfl) (by kernel_rfl) (by kernel_rfl) (fun _ _ _ h => h) (Or.inl ⟨by rfl, ?hyz2ux3⟩) hHeld ?restz2ux3
  case hyz2ux3 => (intro w hSw; (try dsimp only at hSw); have hP := hSw; have t2 := hP.t2; have n0 := hP.n0; have n1 := hP.n1; go_simp; try with_reducible rfl)
  simp only [Act.put, List.setIfInBounds_toArray, List.set_cons_zero, List.set_cons_succ]
  refine wpAnyH_take (i := 4) (oi := ⟨some 29, _, _, _, _, _⟩) (v := ?vz2ux4) rfl (by kernel_rfl) (by kernel_rfl) (by kernel_rfl) (fun _ _ _ h => h) (Or.inl ⟨by rfl, ?hyz2ux4⟩) hHeld ?restz2ux4
  case hyz2ux4 => (intro w hSw; (try dsimp only at hSw); have hP := hSw; have t2 := hP.t2; have n0 := hP.n0; have n1 := hP.n1; go_simp; try with_reducible rfl)
  simp only [Act.put, List.setIfInBounds_toArray, List.set_cons_zero, List.set_cons_succ]
  refine wpAnyH_ready (rs := [5]) (by kernel_rfl) (by simp) ?_
  refine AllReadyH.cons (o := ⟨none, _, _, _, _, _⟩) rfl (fun K hK => ?_) AllReadyH.nil
  obtain ⟨Uz2u1, hst, hg, hz, hM⟩ := HD.out.drop HSr.out (c, r) 0 27
  have hst2 : (Builtin.delete_ #[62, 27] 0 #[.map (some sb), (.agg #[.int .i64 c, .int .i64 r])]).run Try.prog Uz2u0 = .ok (.tuple #[]) Uz2u1 := hst
  have HD2 : Hid (SMap Uz2u1 sb (delT T (c, r))) := hM
  have hS1 : PutS w tb sb kb lv kv c r p Uz2u1 := hHeld.step hg (.inl rfl)
  replace HM : Hid (KMap Uz2u1 kb (kidsN (delT T (c, r)))) := HM.out.keep (hg.block _ HM.out.lt (fun e => HNe.out (by cases e; rfl)))
  clear hst hM
  go_simp
  refine hK.out _ _ (hS1) (fun hHeld2 => ?_)
  clear hK K hHeld
  have hHeld := hHeld2
  clear hHeld2
  (try simp only [Act.put, List.setIfInBounds_toArray, List.set_cons_zero, List.set_cons_succ])
  clear hst2 hg hz hS1
  refine wpAnyH_done (by kernel_rfl) ?_ _
  go_wp2
  refine bodyPost_ret (results_none rfl _ _ _) rfl ?_
  exact ⟨⟨_, rfl⟩, HD2.out, HM.out, hHeld.tch⟩

set_option maxRecDepth 100000 in
set_option maxHeartbeats 4000000 in
theorem put_sp (tb sb kb : Nat) (lv kv : Value) (c r : Int) (p : Pl) (q : Pl) (T : List Pl) (w : World) (h : w.heap[tb]? = some (.cells #[lv, kv, .map (some sb), .map (some kb)] 66)) (hd : SMap w sb T) (hk : KMap w kb (kidsN T)) (hne : sb ≠ kb) (hs : SrtT T) (hl : T.length ≤ 8192) (hq : whT T (c, r) = some q) (hp : p ≠ zeroPl ∧ p.nd = (c, r)) :
    Calls Try.prog 53 #[.pointer (some ⟨tb, 0, none⟩), .agg #[.int .i64 c, .int .i64 r], .agg (plCells p).toArray] w fun e w' => (∃ v, e = .returned v) ∧ SMap w' sb (setT T p) ∧ KMap w' kb (kidsN (setT T p)) ∧ Touch (fun k => k = sb ∨ k = kb) w w' := by
  have hts : tb ≠ sb := by
    intro e
    obtain ⟨D, ⟨es, cl, h1, _⟩, _⟩ := hd
    rw [e, h1] at h
    cases h
  have hkt : tb ≠ kb := by
    intro e
    obtain ⟨D, ⟨es, cl, h1, _⟩, _⟩ := hk
    rw [e, h1] at h
    cases h
  obtain ⟨W0, eW⟩ : ∃ X, X = (w.alloc (.cells #[.int .i64 c, .int .i64 r] 27)).alloc (.cells (plCells p).toArray 43) := ⟨_, rfl⟩
  have hb0 : Below w.heap.size w W0 := by rw [eW]; exact ((Below.refl _ _).alloc (Nat.le_refl _) _).alloc (by simp) _
  have HM : Hid (KMap W0 kb (kidsN T)) := hk.keep (hb0.block _ hk.lt)
  have HD0 : Hid (SMap W0 sb T) := hd.keep (hb0.block _ hd.lt)
  have hn1 : W0.heap[w.heap.size]? = some (.cells #[.int .i64 c, .int .i64 r] 27) := by rw [eW]; exact (Below.heap_alloc _ _ _ (by simp)).trans (heap_alloc_new w _)
  have hn2 : W0.heap[w.heap.size + 1]? = some (.cells (plCells p).toArray 43) := by rw [eW]; have := heap_alloc_new (w.alloc (.cells #[.int .i64 c, .int .i64 r] 27)) (.cells (plCells p).toArray 43); simpa using this
  have HS0 : Hid (PutS w tb sb kb lv kv c r p W0) := ⟨(hb0.block _ (row_lt h)).trans h, hn1, hn2, Touch.of_below hb0, row_lt hn2, hd.lt, hk.lt, row_lt h, hts, hkt⟩
  have HSr : Hid (SrtT T) := hs
  have HNe : Hid (sb ≠ kb) := hne
  have HQ : Hid (whT T (c, r) = some q) := hq
  have HB1 : Hid (-1000000 ≤ kidsN T (q.pr.1, q.pr.2) + -1 ∧ kidsN T (q.pr.1, q.pr.2) + -1 ≤ 1000000) := by (have h1 := kidsN_le T (q.pr.1, q.pr.2); have h2 := kidsN_nn T (q.pr.1, q.pr.2); exact ⟨by omega, by omega⟩)
  have HB2 : Hid (-1000000 ≤ kidsN (delT T (c, r)) (p.pr.1, p.pr.2) + 1 ∧ kidsN (delT T (c, r)) (p.pr.1, p.pr.2) + 1 ≤ 1000000) := by (have h1 := kidsN_le (delT T (c, r)) (p.pr.1, p.pr.2); have h2 := kidsN_nn (delT T (c, r)) (p.pr.1, p.pr.2); have h3 := delT_length T (c, r); exact ⟨by omega, by omega⟩)
  have HEq : Hid (∀ w, (binOp .eql 43 (.agg #[.int .i64 p.nd.1, .int .i64 p.nd.2, .int .i64 p.pr.1, .int .i64 p.pr.2, .int .i64 p.sl.1, .int .i64 p.sl.2]) (.agg #[.int .i64 0, .int .i64 0, .int .i64 0, .int .i64 0, .int .i64 0, .int .i64 0])).run Try.prog w = .ok (.bool false) w) := fun w => by
    have h9 := eqlPl p zeroPl w
    rw [decide_eq_false hp.1] at h9
    exact h9
  have HNd : Hid (p.nd = (c, r)) := hp.2
  clear h hd hk hb0 hn1 hn2 hts hkt hs hne hq hp hl
  go_enter Try.func53, Try.ntmps53
  go_wp2
  rw [← eW]
  clear eW
  refine wp_region_held_drew (S := fun W' => PutS w tb sb kb lv kv c r p W' ∧ SMap W' sb T) (by kernel_rfl) ⟨HS0.out.drew, HD0.out.keep rfl⟩ (fun hHeld => ?_)
  obtain ⟨Ua3u0, eW⟩ : ∃ X, X = W0.drew := ⟨_, rfl⟩
  have hb : Below W0.heap.size W0 Ua3u0 := by rw [eW]; exact (Below.refl _ _).drew
  replace HM : Hid (KMap Ua3u0 kb (kidsN T)) := HM.out.keep (hb.block _ HM.out.lt)
  rw [← eW] at hHeld ⊢
  clear eW hb
  refine wpAnyH_take (i := 0) (oi := ⟨some 9, _, _, _, _, _⟩) (v := ?va3ux0) rfl (by kernel_rfl) (by kernel_rfl) (by kernel_rfl) (fun _ _ _ h => h) (Or.inl ⟨by rfl, ?hya3ux0⟩) hHeld ?resta3ux0
  case hya3ux0 => (intro w _; go_simp; try with_reducible rfl)
  simp only [Act.put, List.setIfInBounds_toArray, List.set_cons_zero, List.set_cons_succ]
  refine wpAnyH_take (i := 1) (oi := ⟨some 10, _, _, _, _, _⟩) (v := ?va3ux1) rfl (by kernel_rfl) (by kernel_rfl) (by kernel_rfl) (fun _ _ _ h => h) (Or.inl ⟨by rfl, ?hya3ux1⟩) hHeld ?resta3ux1
  case hya3ux1 => (intro w hSw; (try dsimp only at hSw); obtain ⟨hP, hM⟩ := hSw; have t2 := hP.t2; have n0 := hP.n0; have n1 := hP.n1; have hlk : (Instr.lookup 62 (.map (some sb)) (.agg #[.int .i64 c, .int .i64 r]) true).run Try.prog w = .ok (.tuple #[plV q, .bool true]) w := (by have h0 := hM.look HSr.out (c, r); rw [HQ.out] at h0; exact h0); go_simp; try with_reducible rfl)
  simp only [Act.put, List.setIfInBounds_toArray, List.set_cons_zero, List.set_cons_succ]
  refine wpAnyH_take (i := 2) (oi := ⟨some 11, _, _, _, _, _⟩) (v := ?va3ux2) rfl (by kernel_rfl) (by kernel_rfl) (by kernel_rfl) (fun _ _ _ h => h) (Or.inl ⟨by rfl, ?hya3ux2⟩) hHeld ?resta3ux2
  case hya3ux2 => (intro w _; go_simp; try with_reducible rfl)
  simp only [Act.put, List.setIfInBounds_toArray, List.set_cons_zero, List.set_cons_succ]
  refine wpAnyH_take (i := 3) (oi := ⟨some 12, _, _, _, _, _⟩) (v := ?va3ux3) rfl (by kernel_rfl) (by kernel_rfl) (by kernel_rfl) (fun _ _ _ h => h) (Or.inl ⟨by rfl, ?hya3ux3⟩) hHeld ?resta3ux3
  case hya3ux3 => (intro w hSw; (try dsimp only at hSw); obtain ⟨hP, hM⟩ := hSw; have t2 := hP.t2; have n0 := hP.n0; have n1 := hP.n1; have hlk : (Instr.lookup 62 (.map (some sb)) (.agg #[.int .i64 c, .int .i64 r]) true).run Try.prog w = .ok (.tuple #[plV q, .bool true]) w := (by have h0 := hM.look HSr.out (c, r); rw [HQ.out] at h0; exact h0); go_simp; try with_reducible rfl)
  simp only [Act.put, List.setIfInBounds_toArray, List.set_cons_zero, List.set_cons_succ]
  refine wpAnyH_take (i := 4) (oi := ⟨some 13, _, _, _, _, _⟩) (v := ?va3ux4) rfl (by kernel_rfl) (by kernel_rfl) (by kernel_rfl) (fun _ _ _ h => h) (Or.inl ⟨by rfl, ?hya3ux4⟩) hHeld ?resta3ux4
  case hya3ux4 => (intro w hSw; (try dsimp only at hSw); obtain ⟨hP, hM⟩ := hSw; have t2 := hP.t2; have n0 := hP.n0; have n1 := hP.n1; have hlk : (Instr.lookup 62 (.map (some sb)) (.agg #[.int .i64 c, .int .i64 r]) true).run Try.prog w = .ok (.tuple #[plV q, .bool true]) w := (by have h0 := hM.look HSr.out (c, r); rw [HQ.out] at h0; exact h0); go_simp; try with_reducible rfl)
  simp only [Act.put, List.setIfInBounds_toArray, List.set_cons_zero, List.set_cons_succ]
  refine wpAnyH_take (i := 5) (oi := ⟨some 14, _, _, _, _, _⟩) (v := ?va3ux5) rfl (by kernel_rfl) (by kernel_rfl) (by kernel_rfl) (fun _ _ _ h => h) (Or.inl ⟨by rfl, ?hya3ux5⟩) hHeld ?resta3ux5
  case hya3ux5 => (intro w hSw; (try dsimp only at hSw); obtain ⟨hP, hM⟩ := hSw; have t2 := hP.t2; have n0 := hP.n0; have n1 := hP.n1; have hlk : (Instr.lookup 62 (.map (some sb)) (.agg #[.int .i64 c, .int .i64 r]) true).run Try.prog w = .ok (.tuple #[plV q, .bool true]) w := (by have h0 := hM.look HSr.out (c, r); rw [HQ.out] at h0; exact h0); go_simp; try with_reducible rfl)
  simp only [Act.put, List.setIfInBounds_toArray, List.set_cons_zero, List.set_cons_succ]
  refine wpAnyH_take (i := 6) (oi := ⟨some 8, _, _, _, _, _⟩) (v := ?va3ux6) rfl (by kernel_rfl) (by kernel_rfl) (by kernel_rfl) (fun _ _ _ h => h) (Or.inl ⟨by rfl, ?hya3ux6⟩) hHeld ?resta3ux6
  case hya3ux6 => (intro w _; go_simp; try with_reducible rfl)
  simp only [Act.put, List.setIfInBounds_toArray, List.set_cons_zero, List.set_cons_succ]
  refine wpAnyH_take (i := 7) (oi := ⟨some 15, _, _, _, _, _⟩) (v := ?va3ux7) rfl (by kernel_rfl) (by kernel_rfl) (by kernel_rfl) (fun _ _ _ h => h) (Or.inl ⟨by rfl, ?hya3ux7⟩) hHeld ?resta3ux7
  case hya3ux7 => (intro w _; go_simp; try with_reducible rfl)
  simp only [Act.put, List.setIfInBounds_toArray, List.set_cons_zero, List.set_cons_succ]
  refine wpAnyH_take (i := 8) (oi := ⟨some 16, _, _, _, _, _⟩) (v := ?va3ux8) rfl (by kernel_rfl) (by kernel_rfl) (by kernel_rfl) (fun _ _ _ h => h) (Or.inl ⟨by rfl, ?hya3ux8⟩) hHeld ?resta3ux8
  case hya3ux8 => (intro w _; go_simp; try with_reducible rfl)
  simp only [Act.put, List.setIfInBounds_toArray, List.set_cons_zero, List.set_cons_succ]
  refine wpAnyH_ready (rs := [9]) (by kernel_rfl) (by simp) ?_
  refine AllReadyH.cons (o := ⟨some 6, _, _, _, _, _⟩) rfl (fun K hK => ?_) AllReadyH.nil
  have HSz : Hid (w.heap.size + 2 ≤ Ua3u0.heap.size) := hHeld.1.sz
  have hbx : Below Ua3u0.heap.size Ua3u0 (Ua3u0.alloc (.cells #[.int .i64 0, .int .i64 0, .int .i64 0, .int .i64 0, .int .i64 0, .int .i64 0] 43)) := (Below.refl _ _).alloc (Nat.le_refl _) _
  go_simp
  refine hK.out _ _ (⟨hHeld.1.below hbx, hHeld.2.keep (hbx.block _ hHeld.2.lt)⟩) (fun hHeld2 => ?_)
  clear hK K hHeld
  have hHeld := hHeld2
  clear hHeld2
  (try simp only [Act.put, List.setIfInBounds_toArray, List.set_cons_zero, List.set_cons_succ])
  obtain ⟨Ua3u1, eW⟩ : ∃ X, X = Ua3u0.alloc (.cells #[.int .i64 0, .int .i64 0, .int .i64 0, .int .i64 0, .int .i64 0, .int .i64 0] 43) := ⟨_, rfl⟩
  have hb : Below Ua3u0.heap.size Ua3u0 Ua3u1 := by rw [eW]; exact (Below.refl _ _).alloc (Nat.le_refl _) _
  replace HM : Hid (KMap Ua3u1 kb (kidsN T)) := HM.out.keep (hb.block _ HM.out.lt)
  have HZ : Hid (Ua3u1.heap[Ua3u0.heap.size]? = some (.cells #[.int .i64 0, .int .i64 0, .int .i64 0, .int .i64 0, .int .i64 0, .int .i64 0] 43)) := by rw [eW]; exact heap_alloc_new _ _
  rw [← eW] at hHeld ⊢
  clear eW
  clear hbx
  obtain ⟨nb, enb⟩ : ∃ b, b = Ua3u0.heap.size := ⟨_, rfl⟩
  have HN : Hid (w.heap.size + 2 ≤ nb) := by rw [enb]; have := HSz.out; exact this
  rw [← enb] at HZ ⊢
  clear enb
  clear HSz
  clear hb
  refine wpAnyH_ready (rs := [10]) (by kernel_rfl) (by simp) ?_
  refine AllReadyH.cons (o := ⟨none, _, _, _, _, _⟩) rfl (fun K hK => ?_) AllReadyH.nil
  refine step_store_row rfl 43 (.tmp 6) (.tmp 15) rfl nb 43 #[.int .i64 0, .int .i64 0, .int .i64 0, .int .i64 0, .int .i64 0, .int .i64 0] (plCells q).toArray rfl rfl HZ.out sizePlaced rfl (by simp [Value.oneCell', plCells]) ?_
  obtain ⟨Ua3u2, eW⟩ : ∃ Y, Y = Ua3u1.setRow nb (plCells q).toArray := ⟨_, rfl⟩
  have hg : Ua3u1.grownBy Ua3u2 (some nb) := by rw [eW]; exact grown_setRow _ _ _
  have HR : Hid (Ua3u2.heap[nb]? = some (.cells (plCells q).toArray 43)) := by rw [eW]; exact setRow_same HZ.out
  rw [← eW]
  have hS2 : PutS w tb sb kb lv kv c r p Ua3u2 ∧ SMap Ua3u2 sb T := ⟨hHeld.1.step hg (.inr (.inr HN.out)), hHeld.2.keep (hg.block _ hHeld.2.lt (fun e => by have h1 := HN.out; have h2 := hHeld.1.sbl; cases e; omega))⟩
  replace HM : Hid (KMap Ua3u2 kb (kidsN T)) := HM.out.keep (hg.block _ HM.out.lt (fun e => by have h1 := HN.out; have h2 := hHeld.1.kbl; cases e; omega))
  refine hK.out _ _ (hS2) (fun hHeld2 => ?_)
  clear hK K hHeld
  have hHeld := hHeld2
  clear hHeld2
  (try simp only [Act.put, List.setIfInBounds_toArray, List.set_cons_zero, List.set_cons_succ])
  clear eW hg hS2 HZ
  refine wpAnyH_take (i := 11) (oi := ⟨some 7, _, _, _, _, _⟩) (v := ?va3u_9_10x11) rfl (by kernel_rfl) (by kernel_rfl) (by kernel_rfl) (fun _ _ _ h => h) (Or.inl ⟨by rfl, ?hya3u_9_10x11⟩) hHeld ?resta3u_9_10x11
  case hya3u_9_10x11 => (intro w _; go_simp; try with_reducible rfl)
  simp only [Act.put, List.setIfInBounds_toArray, List.set_cons_zero, List.set_cons_succ]
  refine wpAnyH_done (by kernel_rfl) ?_ _
  have HS : Hid (PutS w tb sb kb lv kv c r p Ua3u2) := hHeld.1
  have HD : Hid (SMap Ua3u2 sb T) := hHeld.2
  clear hHeld
  have q2 : Ua3u2.cell? ⟨nb, 2, none⟩ = some (.int .i64 q.pr.1) := by rw [cell_of_row Ua3u2 nb 2 _ _ _ HR.out]; rfl
  have q3 : Ua3u2.cell? ⟨nb, 3, none⟩ = some (.int .i64 q.pr.2) := by rw [cell_of_row Ua3u2 nb 3 _ _ _ HR.out]; rfl
  clear HR
  go_wp2_with fail
  clear q2 q3
  refine (count_any tb kb lv kv (.map (some sb)) q.pr.1 q.pr.2 (-1) (kidsN T) _ HS.out.row HM.out HB1.out).mono ?_
  rintro e w3 ⟨⟨v3, rfl⟩, hk3, ht3⟩
  replace HS : Hid (PutS w tb sb kb lv kv c r p w3) := HS.out.touch ht3 (fun k e => .inr (.inl e))
  replace HD : Hid (SMap w3 sb T) := HD.out.keep (ht3.block _ HD.out.lt (fun e => HNe.out (by omega)))
  replace HM : Hid (KMap w3 kb (kidsN (delT T (c, r)))) := by (have h9 := hk3; rw [show ((q.pr.1, q.pr.2) : St) = q.pr from rfl, kids_put1 HSr.out HQ.out] at h9; exact h9)
  clear hk3 ht3 HQ HN
  have p0 := HS.out.p0
  have p1 := HS.out.p1
  have p2 := HS.out.p2
  have p3 := HS.out.p3
  have p4 := HS.out.p4
  have p5 := HS.out.p5
  have heq := HEq.out
  go_wp2
  clear heq p0 p1 p2 p3 p4 p5
  refine wp_region_held_drew (S := fun W' => PutS w tb sb kb lv kv c r p W') (by kernel_rfl) HS.out.drew (fun hHeld => ?_)
  obtain ⟨Uy4u0, eW⟩ : ∃ X, X = w3.drew := ⟨_, rfl⟩
  have hb : Below w3.heap.size w3 Uy4u0 := by rw [eW]; exact (Below.refl _ _).drew
  replace HD : Hid (SMap Uy4u0 sb T) := HD.out.keep (hb.block _ HD.out.lt)
  replace HM : Hid (KMap Uy4u0 kb (kidsN (delT T (c, r)))) := HM.out.keep (hb.block _ HM.out.lt)
  rw [← eW] at hHeld ⊢
  clear eW hb
  refine wpAnyH_take (i := 0) (oi := ⟨some 30, _, _, _, _, _⟩) (v := ?vy4ux0) rfl (by kernel_rfl) (by kernel_rfl) (by kernel_rfl) (fun _ _ _ h => h) (Or.inl ⟨by rfl, ?hyy4ux0⟩) hHeld ?resty4ux0
  case hyy4ux0 => (intro w _; go_simp; try with_reducible rfl)
  simp only [Act.put, List.setIfInBounds_toArray, List.set_cons_zero, List.set_cons_succ]
  refine wpAnyH_take (i := 1) (oi := ⟨some 31, _, _, _, _, _⟩) (v := ?vy4ux1) rfl (by kernel_rfl) (by kernel_rfl) (by kernel_rfl) (fun _ _ _ h => h) (Or.inl ⟨by rfl, ?hyy4ux1⟩) hHeld ?resty4ux1
  case hyy4ux1 => (intro w hSw; (try dsimp only at hSw); have hP := hSw; have t2 := hP.t2; have n0 := hP.n0; have n1 := hP.n1; have p0 := hP.p0; have p1 := hP.p1; have p2 := hP.p2; have p3 := hP.p3; have p4 := hP.p4; have p5 := hP.p5; go_simp; try with_reducible rfl)
  simp only [Act.put, List.setIfInBounds_toArray, List.set_cons_zero, List.set_cons_succ]
  refine wpAnyH_take (i := 2) (oi := ⟨some 32, _, _, _, _, _⟩) (v := ?vy4ux2) rfl (by kernel_rfl) (by kernel_rfl) (by kernel_rfl) (fun _ _ _ h => h) (Or.inl ⟨by rfl, ?hyy4ux2⟩) hHeld ?resty4ux2
  case hyy4ux2 => (intro w _; go_simp; try with_reducible rfl)
  simp only [Act.put, List.setIfInBounds_toArray, List.set_cons_zero, List.set_cons_succ]
  refine wpAnyH_take (i := 3) (oi := ⟨some 33, _, _, _, _, _⟩) (v := ?vy4ux3) rfl (by kernel_rfl) (by kernel_rfl) (by kernel_rfl) (fun _ _ _ h => h) (Or.inl ⟨by rfl, ?hyy4ux3⟩) hHeld ?resty4ux3
  case hyy4ux3 => (intro w hSw; (try dsimp only at hSw); have hP := hSw; have t2 := hP.t2; have n0 := hP.n0; have n1 := hP.n1; have p0 := hP.p0; have p1 := hP.p1; have p2 := hP.p2; have p3 := hP.p3; have p4 := hP.p4; have p5 := hP.p5; go_simp; try with_reducible rfl)
  simp only [Act.put, List.setIfInBounds_toArray, List.set_cons_zero, List.set_cons_succ]
  refine wpAnyH_take (i := 4) (oi := ⟨some 34, _, _, _, _, _⟩) (v := ?vy4ux4) rfl (by kernel_rfl) (by kernel_rfl) (by kernel_rfl) (fun _ _ _ h => h) (Or.inl ⟨by rfl, ?hyy4ux4⟩) hHeld ?resty4ux4
  case hyy4ux4 => (intro w hSw; (try dsimp only at hSw); have hP := hSw; have t2 := hP.t2; have n0 := hP.n0; have n1 := hP.n1; have p0 := hP.p0; have p1 := hP.p1; have p2 := hP.p2; have p3 := hP.p3; have p4 := hP.p4; have p5 := hP.p5; go_simp; try with_reducible rfl)
  simp only [Act.put, List.setIfInBounds_toArray, List.set_cons_zero, List.set_cons_succ]
  refine wpAnyH_take (i := 5) (oi := ⟨some 35, _, _, _, _, _⟩) (v := ?vy4ux5) rfl (by kernel_rfl) (by kernel_rfl) (by kernel_rfl) (fun _ _ _ h => h) (Or.inl ⟨by rfl, ?hyy4ux5⟩) hHeld ?resty4ux5
  case hyy4ux5 => (intro w hSw; (try dsimp only at hSw); have hP := hSw; have t2 := hP.t2; have n0 := hP.n0; have n1 := hP.n1; have p0 := hP.p0; have p1 := hP.p1; have p2 := hP.p2; have p3 := hP.p3; have p4 := hP.p4; have p5 := hP.p5; go_simp; try with_reducible rfl)
  simp only [Act.put, List.setIfInBounds_toArray, List.set_cons_zero, List.set_cons_succ]
  refine wpAnyH_ready (rs := [6]) (by kernel_rfl) (by simp) ?_
  refine AllReadyH.cons (o := ⟨none, _, _, _, _, _⟩) rfl (fun K hK => ?_) AllReadyH.nil
  obtain ⟨Uy4u1, hst, hg, hz, hM⟩ := HD.out.store HSr.out p
  have hst2 : (Instr.mapUpdate 62 (.map (some sb)) (.agg #[.int .i64 c, .int .i64 r]) (.agg #[.int .i64 p.nd.1, .int .i64 p.nd.2, .int .i64 p.pr.1, .int .i64 p.pr.2, .int .i64 p.sl.1, .int .i64 p.sl.2])).run Try.prog Uy4u0 = .ok () Uy4u1 := by (have h9 := hst; rw [HNd.out] at h9; exact h9)
  have HD2 : Hid (SMap Uy4u1 sb (setT T p)) := hM
  have hS1 : PutS w tb sb kb lv kv c r p Uy4u1 := hHeld.step hg (.inl rfl)
  replace HM : Hid (KMap Uy4u1 kb (kidsN (delT T (c, r)))) := HM.out.keep (hg.block _ HM.out.lt (fun e => HNe.out (by cases e; rfl)))
  clear hst hM
  go_simp
  refine hK.out _ _ (hS1) (fun hHeld2 => ?_)
  clear hK K hHeld
  have hHeld := hHeld2
  clear hHeld2
  (try simp only [Act.put, List.setIfInBounds_toArray, List.set_cons_zero, List.set_cons_succ])
  clear hst2 hg hz hS1
  refine wpAnyH_done (by kernel_rfl) ?_ _
  have HS : Hid (PutS w tb sb kb lv kv c r p Uy4u1) := hHeld
  clear hHeld HD
  have p2 := HS.out.p2
  have p3 := HS.out.p3
  go_wp2_with fail
  clear p2 p3
  refine (count_any tb kb lv kv (.map (some sb)) p.pr.1 p.pr.2 1 (kidsN (delT T (c, r))) _ HS.out.row HM.out HB2.out).mono ?_
  rintro e w5 ⟨⟨v5, rfl⟩, hk5, ht5⟩
  have HS5 : Hid (PutS w tb sb kb lv kv c r p w5) := HS.out.touch ht5 (fun k e => .inr (.inl e))
  have HD5 : Hid (SMap w5 sb (setT T p)) := HD2.out.keep (ht5.block _ HD2.out.lt (fun e => HNe.out (by omega)))
  have HM5 : Hid (KMap w5 kb (kidsN (setT T p))) := by (have h9 := hk5; rw [show ((p.pr.1, p.pr.2) : St) = p.pr from rfl, ← HNd.out, kids_put2 p] at h9; exact h9)
  clear hk5 ht5 HS
  go_wp2
  go_end0
  exact ⟨⟨_, rfl⟩, HD5.out, HM5.out, HS5.out.tch⟩

set_option maxRecDepth 100000 in
set_option maxHeartbeats 4000000 in
theorem put_nz (tb sb kb : Nat) (lv kv : Value) (c r : Int) (p : Pl) (T : List Pl) (w : World) (h : w.heap[tb]? = some (.cells #[lv, kv, .map (some sb), .map (some kb)] 66)) (hd : SMap w sb T) (hk : KMap w kb (kidsN T)) (hne : sb ≠ kb) (hs : SrtT T) (hl : T.length ≤ 8192) (hq : whT T (c, r) = none) (hp : p = zeroPl) :
    Calls Try.prog 53 #[.pointer (some ⟨tb, 0, none⟩), .agg #[.int .i64 c, .int .i64 r], .agg (plCells p).toArray] w fun e w' => (∃ v, e = .returned v) ∧ SMap w' sb (delT T (c, r)) ∧ KMap w' kb (kidsN (delT T (c, r))) ∧ Touch (fun k => k = sb ∨ k = kb) w w' := by
  have hts : tb ≠ sb := by
    intro e
    obtain ⟨D, ⟨es, cl, h1, _⟩, _⟩ := hd
    rw [e, h1] at h
    cases h
  have hkt : tb ≠ kb := by
    intro e
    obtain ⟨D, ⟨es, cl, h1, _⟩, _⟩ := hk
    rw [e, h1] at h
    cases h
  obtain ⟨W0, eW⟩ : ∃ X, X = (w.alloc (.cells #[.int .i64 c, .int .i64 r] 27)).alloc (.cells (plCells p).toArray 43) := ⟨_, rfl⟩
  have hb0 : Below w.heap.size w W0 := by rw [eW]; exact ((Below.refl _ _).alloc (Nat.le_refl _) _).alloc (by simp) _
  have HM : Hid (KMap W0 kb (kidsN T)) := hk.keep (hb0.block _ hk.lt)
  have HD0 : Hid (SMap W0 sb T) := hd.keep (hb0.block _ hd.lt)
  have hn1 : W0.heap[w.heap.size]? = some (.cells #[.int .i64 c, .int .i64 r] 27) := by rw [eW]; exact (Below.heap_alloc _ _ _ (by simp)).trans (heap_alloc_new w _)
  have hn2 : W0.heap[w.heap.size + 1]? = some (.cells (plCells p).toArray 43) := by rw [eW]; have := heap_alloc_new (w.alloc (.cells #[.int .i64 c, .int .i64 r] 27)) (.cells (plCells p).toArray 43); simpa using this
  have HS0 : Hid (PutS w tb sb kb lv kv c r p W0) := ⟨(hb0.block _ (row_lt h)).trans h, hn1, hn2, Touch.of_below hb0, row_lt hn2, hd.lt, hk.lt, row_lt h, hts, hkt⟩
  have HSr : Hid (SrtT T) := hs
  have HNe : Hid (sb ≠ kb) := hne
  have HQ : Hid (whT T (c, r) = none) := hq
  have HB1 : Hid (True) := trivial
  have HB2 : Hid (-1000000 ≤ kidsN (delT T (c, r)) (p.pr.1, p.pr.2) + 1 ∧ kidsN (delT T (c, r)) (p.pr.1, p.pr.2) + 1 ≤ 1000000) := by (have h1 := kidsN_le (delT T (c, r)) (p.pr.1, p.pr.2); have h2 := kidsN_nn (delT T (c, r)) (p.pr.1, p.pr.2); have h3 := delT_length T (c, r); exact ⟨by omega, by omega⟩)
  have HEq : Hid (∀ w, (binOp .eql 43 (.agg #[.int .i64 p.nd.1, .int .i64 p.nd.2, .int .i64 p.pr.1, .int .i64 p.pr.2, .int .i64 p.sl.1, .int .i64 p.sl.2]) (.agg #[.int .i64 0, .int .i64 0, .int .i64 0, .int .i64 0, .int .i64 0, .int .i64 0])).run Try.prog w = .ok (.bool true) w) := fun w => by
    have h9 := eqlPl p zeroPl w
    rw [decide_eq_true hp] at h9
    exact h9
  
  clear h hd hk hb0 hn1 hn2 hts hkt hs hne hq hp hl
  go_enter Try.func53, Try.ntmps53
  go_wp2
  rw [← eW]
  clear eW
  refine wp_region_held_drew (S := fun W' => PutS w tb sb kb lv kv c r p W' ∧ SMap W' sb T) (by kernel_rfl) ⟨HS0.out.drew, HD0.out.keep rfl⟩ (fun hHeld => ?_)
  obtain ⟨Ua5u0, eW⟩ : ∃ X, X = W0.drew := ⟨_, rfl⟩
  have hb : Below W0.heap.size W0 Ua5u0 := by rw [eW]; exact (Below.refl _ _).drew
  replace HM : Hid (KMap Ua5u0 kb (kidsN T)) := HM.out.keep (hb.block _ HM.out.lt)
  rw [← eW] at hHeld ⊢
  clear eW hb
  refine wpAnyH_take (i := 0) (oi := ⟨some 9, _, _, _, _, _⟩) (v := ?va5ux0) rfl (by kernel_rfl) (by kernel_rfl) (by kernel_rfl) (fun _ _ _ h => h) (Or.inl ⟨by rfl, ?hya5ux0⟩) hHeld ?resta5ux0
  case hya5ux0 => (intro w _; go_simp; try with_reducible rfl)
  simp only [Act.put, List.setIfInBounds_toArray, List.set_cons_zero, List.set_cons_succ]
  refine wpAnyH_take (i := 1) (oi := ⟨some 10, _, _, _, _, _⟩) (v := ?va5ux1) rfl (by kernel_rfl) (by kernel_rfl) (by kernel_rfl) (fun _ _ _ h => h) (Or.inl ⟨by rfl, ?hya5ux1⟩) hHeld ?resta5ux1
  case hya5ux1 => (intro w hSw; (try dsimp only at hSw); obtain ⟨hP, hM⟩ := hSw; have t2 := hP.t2; have n0 := hP.n0; have n1 := hP.n1; have hlk : (Instr.lookup 62 (.map (some sb)) (.agg #[.int .i64 c, .int .i64 r]) true).run Try.prog w = .ok (.tuple #[plV zeroPl, .bool false]) w := (by have h0 := hM.look HSr.out (c, r); rw [HQ.out] at h0; exact h0); go_simp; try with_reducible rfl)
  simp only [Act.put, List.setIfInBounds_toArray, List.set_cons_zero, List.set_cons_succ]
  refine wpAnyH_take (i := 2) (oi := ⟨some 11, _, _, _, _, _⟩) (v := ?va5ux2) rfl (by kernel_rfl) (by kernel_rfl) (by kernel_rfl) (fun _ _ _ h => h) (Or.inl ⟨by rfl, ?hya5ux2⟩) hHeld ?resta5ux2
  case hya5ux2 => (intro w _; go_simp; try with_reducible rfl)
  simp only [Act.put, List.setIfInBounds_toArray, List.set_cons_zero, List.set_cons_succ]
  refine wpAnyH_take (i := 3) (oi := ⟨some 12, _, _, _, _, _⟩) (v := ?va5ux3) rfl (by kernel_rfl) (by kernel_rfl) (by kernel_rfl) (fun _ _ _ h => h) (Or.inl ⟨by rfl, ?hya5ux3⟩) hHeld ?resta5ux3
  case hya5ux3 => (intro w hSw; (try dsimp only at hSw); obtain ⟨hP, hM⟩ := hSw; have t2 := hP.t2; have n0 := hP.n0; have n1 := hP.n1; have hlk : (Instr.lookup 62 (.map (some sb)) (.agg #[.int .i64 c, .int .i64 r]) true).run Try.prog w = .ok (.tuple #[plV zeroPl, .bool false]) w := (by have h0 := hM.look HSr.out (c, r); rw [HQ.out] at h0; exact h0); go_simp; try with_reducible rfl)
  simp only [Act.put, List.setIfInBounds_toArray, List.set_cons_zero, List.set_cons_succ]
  refine wpAnyH_take (i := 4) (oi := ⟨some 13, _, _, _, _, _⟩) (v := ?va5ux4) rfl (by kernel_rfl) (by kernel_rfl) (by kernel_rfl) (fun _ _ _ h => h) (Or.inl ⟨by rfl, ?hya5ux4⟩) hHeld ?resta5ux4
  case hya5ux4 => (intro w hSw; (try dsimp only at hSw); obtain ⟨hP, hM⟩ := hSw; have t2 := hP.t2; have n0 := hP.n0; have n1 := hP.n1; have hlk : (Instr.lookup 62 (.map (some sb)) (.agg #[.int .i64 c, .int .i64 r]) true).run Try.prog w = .ok (.tuple #[plV zeroPl, .bool false]) w := (by have h0 := hM.look HSr.out (c, r); rw [HQ.out] at h0; exact h0); go_simp; try with_reducible rfl)
  simp only [Act.put, List.setIfInBounds_toArray, List.set_cons_zero, List.set_cons_succ]
  refine wpAnyH_take (i := 5) (oi := ⟨some 14, _, _, _, _, _⟩) (v := ?va5ux5) rfl (by kernel_rfl) (by kernel_rfl) (by kernel_rfl) (fun _ _ _ h => h) (Or.inl ⟨by rfl, ?hya5ux5⟩) hHeld ?resta5ux5
  case hya5ux5 => (intro w hSw; (try dsimp only at hSw); obtain ⟨hP, hM⟩ := hSw; have t2 := hP.t2; have n0 := hP.n0; have n1 := hP.n1; have hlk : (Instr.lookup 62 (.map (some sb)) (.agg #[.int .i64 c, .int .i64 r]) true).run Try.prog w = .ok (.tuple #[plV zeroPl, .bool false]) w := (by have h0 := hM.look HSr.out (c, r); rw [HQ.out] at h0; exact h0); go_simp; try with_reducible rfl)
  simp only [Act.put, List.setIfInBounds_toArray, List.set_cons_zero, List.set_cons_succ]
  refine wpAnyH_take (i := 6) (oi := ⟨some 8, _, _, _, _, _⟩) (v := ?va5ux6) rfl (by kernel_rfl) (by kernel_rfl) (by kernel_rfl) (fun _ _ _ h => h) (Or.inl ⟨by rfl, ?hya5ux6⟩) hHeld ?resta5ux6
  case hya5ux6 => (intro w _; go_simp; try with_reducible rfl)
  simp only [Act.put, List.setIfInBounds_toArray, List.set_cons_zero, List.set_cons_succ]
  refine wpAnyH_take (i := 7) (oi := ⟨some 15, _, _, _, _, _⟩) (v := ?va5ux7) rfl (by kernel_rfl) (by kernel_rfl) (by kernel_rfl) (fun _ _ _ h => h) (Or.inl ⟨by rfl, ?hya5ux7⟩) hHeld ?resta5ux7
  case hya5ux7 => (intro w _; go_simp; try with_reducible rfl)
  simp only [Act.put, List.setIfInBounds_toArray, List.set_cons_zero, List.set_cons_succ]
  refine wpAnyH_take (i := 8) (oi := ⟨some 16, _, _, _, _, _⟩) (v := ?va5ux8) rfl (by kernel_rfl) (by kernel_rfl) (by kernel_rfl) (fun _ _ _ h => h) (Or.inl ⟨by rfl, ?hya5ux8⟩) hHeld ?resta5ux8
  case hya5ux8 => (intro w _; go_simp; try with_reducible rfl)
  simp only [Act.put, List.setIfInBounds_toArray, List.set_cons_zero, List.set_cons_succ]
  refine wpAnyH_ready (rs := [9]) (by kernel_rfl) (by simp) ?_
  refine AllReadyH.cons (o := ⟨some 6, _, _, _, _, _⟩) rfl (fun K hK => ?_) AllReadyH.nil
  have HSz : Hid (w.heap.size + 2 ≤ Ua5u0.heap.size) := hHeld.1.sz
  have hbx : Below Ua5u0.heap.size Ua5u0 (Ua5u0.alloc (.cells #[.int .i64 0, .int .i64 0, .int .i64 0, .int .i64 0, .int .i64 0, .int .i64 0] 43)) := (Below.refl _ _).alloc (Nat.le_refl _) _
  go_simp
  refine hK.out _ _ (⟨hHeld.1.below hbx, hHeld.2.keep (hbx.block _ hHeld.2.lt)⟩) (fun hHeld2 => ?_)
  clear hK K hHeld
  have hHeld := hHeld2
  clear hHeld2
  (try simp only [Act.put, List.setIfInBounds_toArray, List.set_cons_zero, List.set_cons_succ])
  obtain ⟨Ua5u1, eW⟩ : ∃ X, X = Ua5u0.alloc (.cells #[.int .i64 0, .int .i64 0, .int .i64 0, .int .i64 0, .int .i64 0, .int .i64 0] 43) := ⟨_, rfl⟩
  have hb : Below Ua5u0.heap.size Ua5u0 Ua5u1 := by rw [eW]; exact (Below.refl _ _).alloc (Nat.le_refl _) _
  replace HM : Hid (KMap Ua5u1 kb (kidsN T)) := HM.out.keep (hb.block _ HM.out.lt)
  have HZ : Hid (Ua5u1.heap[Ua5u0.heap.size]? = some (.cells #[.int .i64 0, .int .i64 0, .int .i64 0, .int .i64 0, .int .i64 0, .int .i64 0] 43)) := by rw [eW]; exact heap_alloc_new _ _
  rw [← eW] at hHeld ⊢
  clear eW
  clear hbx
  obtain ⟨nb, enb⟩ : ∃ b, b = Ua5u0.heap.size := ⟨_, rfl⟩
  have HN : Hid (w.heap.size + 2 ≤ nb) := by rw [enb]; have := HSz.out; exact this
  rw [← enb] at HZ ⊢
  clear enb
  clear HSz
  clear hb
  refine wpAnyH_ready (rs := [10]) (by kernel_rfl) (by simp) ?_
  refine AllReadyH.cons (o := ⟨none, _, _, _, _, _⟩) rfl (fun K hK => ?_) AllReadyH.nil
  refine step_store_row rfl 43 (.tmp 6) (.tmp 15) rfl nb 43 #[.int .i64 0, .int .i64 0, .int .i64 0, .int .i64 0, .int .i64 0, .int .i64 0] (plCells zeroPl).toArray rfl rfl HZ.out sizePlaced rfl (by simp [Value.oneCell', plCells]) ?_
  obtain ⟨Ua5u2, eW⟩ : ∃ Y, Y = Ua5u1.setRow nb (plCells zeroPl).toArray := ⟨_, rfl⟩
  have hg : Ua5u1.grownBy Ua5u2 (some nb) := by rw [eW]; exact grown_setRow _ _ _
  have HR : Hid (Ua5u2.heap[nb]? = some (.cells (plCells zeroPl).toArray 43)) := by rw [eW]; exact setRow_same HZ.out
  rw [← eW]
  have hS2 : PutS w tb sb kb lv kv c r p Ua5u2 ∧ SMap Ua5u2 sb T := ⟨hHeld.1.step hg (.inr (.inr HN.out)), hHeld.2.keep (hg.block _ hHeld.2.lt (fun e => by have h1 := HN.out; have h2 := hHeld.1.sbl; cases e; omega))⟩
  replace HM : Hid (KMap Ua5u2 kb (kidsN T)) := HM.out.keep (hg.block _ HM.out.lt (fun e => by have h1 := HN.out; have h2 := hHeld.1.kbl; cases e; omega))
  refine hK.out _ _ (hS2) (fun hHeld2 => ?_)
  clear hK K hHeld
  have hHeld := hHeld2
  clear hHeld2
  (try simp only [Act.put, List.setIfInBounds_toArray, List.set_cons_zero, List.set_cons_succ])
  clear eW hg hS2 HZ
  refine wpAnyH_take (i := 11) (oi := ⟨some 7, _, _, _, _, _⟩) (v := ?va5u_9_10x11) rfl (by kernel_rfl) (by kernel_rfl) (by kernel_rfl) (fun _ _ _ h => h) (Or.inl ⟨by rfl, ?hya5u_9_10x11⟩) hHeld ?resta5u_9_10x11
  case hya5u_9_10x11 => (intro w _; go_simp; try with_reducible rfl)
  simp only [Act.put, List.setIfInBounds_toArray, List.set_cons_zero, List.set_cons_succ]
  refine wpAnyH_done (by kernel_rfl) ?_ _
  have HS : Hid (PutS w tb sb kb lv kv c r p Ua5u2) := hHeld.1
  have HD : Hid (SMap Ua5u2 sb T) := hHeld.2
  clear hHeld
  replace HM : Hid (KMap Ua5u2 kb (kidsN (delT T (c, r)))) := by (rw [del_none HQ.out]; exact HM.out)
  clear HR HQ HN
  have p0 := HS.out.p0
  have p1 := HS.out.p1
  have p2 := HS.out.p2
  have p3 := HS.out.p3
  have p4 := HS.out.p4
  have p5 := HS.out.p5
  have heq := HEq.out
  go_wp2
  clear heq p0 p1 p2 p3 p4 p5
  refine wp_region_held_drew (S := fun W' => PutS w tb sb kb lv kv c r p W') (by kernel_rfl) HS.out.drew (fun hHeld => ?_)
  obtain ⟨Uz6u0, eW⟩ : ∃ X, X = Ua5u2.drew := ⟨_, rfl⟩
  have hb : Below Ua5u2.heap.size Ua5u2 Uz6u0 := by rw [eW]; exact (Below.refl _ _).drew
  replace HD : Hid (SMap Uz6u0 sb T) := HD.out.keep (hb.block _ HD.out.lt)
  replace HM : Hid (KMap Uz6u0 kb (kidsN (delT T (c, r)))) := HM.out.keep (hb.block _ HM.out.lt)
  rw [← eW] at hHeld ⊢
  clear eW hb
  refine wpAnyH_take (i := 0) (oi := ⟨some 25, _, _, _, _, _⟩) (v := ?vz6ux0) rfl (by kernel_rfl) (by kernel_rfl) (by kernel_rfl) (fun _ _ _ h => h) (Or.inl ⟨by rfl, ?hyz6ux0⟩) hHeld ?restz6ux0
  case hyz6ux0 => (intro w _; go_simp; try with_reducible rfl)
  simp only [Act.put, List.setIfInBounds_toArray, List.set_cons_zero, List.set_cons_succ]
  refine wpAnyH_take (i := 1) (oi := ⟨some 26, _, _, _, _, _⟩) (v := ?vz6ux1) rfl (by kernel_rfl) (by kernel_rfl) (by kernel_rfl) (fun _ _ _ h => h) (Or.inl ⟨by rfl, ?hyz6ux1⟩) hHeld ?restz6ux1
  case hyz6ux1 => (intro w hSw; (try dsimp only at hSw); have hP := hSw; have t2 := hP.t2; have n0 := hP.n0; have n1 := hP.n1; go_simp; try with_reducible rfl)
  simp only [Act.put, List.setIfInBounds_toArray, List.set_cons_zero, List.set_cons_succ]
  refine wpAnyH_take (i := 2) (oi := ⟨some 27, _, _, _, _, _⟩) (v := ?vz6ux2) rfl (by kernel_rfl) (by kernel_rfl) (by kernel_rfl) (fun _ _ _ h => h) (Or.inl ⟨by rfl, ?hyz6ux2⟩) hHeld ?restz6ux2
  case hyz6ux2 => (intro w _; go_simp; try with_reducible rfl)
  simp only [Act.put, List.setIfInBounds_toArray, List.set_cons_zero, List.set_cons_succ]
  refine wpAnyH_take (i := 3) (oi := ⟨some 28, _, _, _, _, _⟩) (v := ?vz6ux3) rfl (by kernel_rfl) (by kernel_rfl) (by kernel_rfl) (fun _ _ _ h => h) (Or.inl ⟨by rfl, ?hyz6ux3⟩) hHeld ?restz6ux3
  case hyz6ux3 => (intro w hSw; (try dsimp only at hSw); have hP := hSw; have t2 := hP.t2; have n0 := hP.n0; have n1 := hP.n1; go_simp; try with_reducible rfl)
  simp only [Act.put, List.setIfInBounds_toArray, List.set_cons_zero, List.set_cons_succ]
  refine wpAnyH_take (i := 4) (oi := ⟨some 29, _, _, _, _, _⟩) (v := ?vz6ux4) rfl (by kernel_rfl) (by kernel_rfl) (by kernel_rfl) (fun _ _ _ h => h) (Or.inl ⟨by rfl, ?hyz6ux4⟩) hHeld ?restz6ux4
  case hyz6ux4 => (intro w hSw; (try dsimp only at hSw); have hP := hSw; have t2 := hP.t2; have n0 := hP.n0; have n1 := hP.n1; go_simp; try with_reducible rfl)
  simp only [Act.put, List.setIfInBounds_toArray, List.set_cons_zero, List.set_cons_succ]
  refine wpAnyH_ready (rs := [5]) (by kernel_rfl) (by simp) ?_
  refine AllReadyH.cons (o := ⟨none, _, _, _, _, _⟩) rfl (fun K hK => ?_) AllReadyH.nil
  obtain ⟨Uz6u1, hst, hg, hz, hM⟩ := HD.out.drop HSr.out (c, r) 0 27
  have hst2 : (Builtin.delete_ #[62, 27] 0 #[.map (some sb), (.agg #[.int .i64 c, .int .i64 r])]).run Try.prog Uz6u0 = .ok (.tuple #[]) Uz6u1 := hst
  have HD2 : Hid (SMap Uz6u1 sb (delT T (c, r))) := hM
  have hS1 : PutS w tb sb kb lv kv c r p Uz6u1 := hHeld.step hg (.inl rfl)
  replace HM : Hid (KMap Uz6u1 kb (kidsN (delT T (c, r)))) := HM.out.keep (hg.block _ HM.out.lt (fun e => HNe.out (by cases e; rfl)))
  clear hst hM
  go_simp
  refine hK.out _ _ (hS1) (fun hHeld2 => ?_)
  clear hK K hHeld
  have hHeld := hHeld2
  clear hHeld2
  (try simp only [Act.put, List.setIfInBounds_toArray, List.set_cons_zero, List.set_cons_succ])
  clear hst2 hg hz hS1
  refine wpAnyH_done (by kernel_rfl) ?_ _
  go_wp2
  refine bodyPost_ret (results_none rfl _ _ _) rfl ?_
  exact ⟨⟨_, rfl⟩, HD2.out, HM.out, hHeld.tch⟩

set_option maxRecDepth 100000 in
set_option maxHeartbeats 4000000 in
theorem put_np (tb sb kb : Nat) (lv kv : Value) (c r : Int) (p : Pl) (T : List Pl) (w : World) (h : w.heap[tb]? = some (.cells #[lv, kv, .map (some sb), .map (some kb)] 66)) (hd : SMap w sb T) (hk : KMap w kb (kidsN T)) (hne : sb ≠ kb) (hs : SrtT T) (hl : T.length ≤ 8192) (hq : whT T (c, r) = none) (hp : p ≠ zeroPl ∧ p.nd = (c, r)) :
    Calls Try.prog 53 #[.pointer (some ⟨tb, 0, none⟩), .agg #[.int .i64 c, .int .i64 r], .agg (plCells p).toArray] w fun e w' => (∃ v, e = .returned v) ∧ SMap w' sb (setT T p) ∧ KMap w' kb (kidsN (setT T p)) ∧ Touch (fun k => k = sb ∨ k = kb) w w' := by
  have hts : tb ≠ sb := by
    intro e
    obtain ⟨D, ⟨es, cl, h1, _⟩, _⟩ := hd
    rw [e, h1] at h
    cases h
  have hkt : tb ≠ kb := by
    intro e
    obtain ⟨D, ⟨es, cl, h1, _⟩, _⟩ := hk
    rw [e, h1] at h
    cases h
  obtain ⟨W0, eW⟩ : ∃ X, X = (w.alloc (.cells #[.int .i64 c, .int .i64 r] 27)).alloc (.cells (plCells p).toArray 43) := ⟨_, rfl⟩
  have hb0 : Below w.heap.size w W0 := by rw [eW]; exact ((Below.refl _ _).alloc (Nat.le_refl _) _).alloc (by simp) _
  have HM : Hid (KMap W0 kb (kidsN T)) := hk.keep (hb0.block _ hk.lt)
  have HD0 : Hid (SMap W0 sb T) := hd.keep (hb0.block _ hd.lt)
  have hn1 : W0.heap[w.heap.size]? = some (.cells #[.int .i64 c, .int .i64 r] 27) := by rw [eW]; exact (Below.heap_alloc _ _ _ (by simp)).trans (heap_alloc_new w _)
  have hn2 : W0.heap[w.heap.size + 1]? = some (.cells (plCells p).toArray 43) := by rw [eW]; have := heap_alloc_new (w.alloc (.cells #[.int .i64 c, .int .i64 r] 27)) (.cells (plCells p).toArray 43); simpa using this
  have HS0 : Hid (PutS w tb sb kb lv kv c r p W0) := ⟨(hb0.block _ (row_lt h)).trans h, hn1, hn2, Touch.of_below hb0, row_lt hn2, hd.lt, hk.lt, row_lt h, hts, hkt⟩
  have HSr : Hid (SrtT T) := hs
  have HNe : Hid (sb ≠ kb) := hne
  have HQ : Hid (whT T (c, r) = none) := hq
  have HB1 : Hid (True) := trivial
  have HB2 : Hid (-1000000 ≤ kidsN (delT T (c, r)) (p.pr.1, p.pr.2) + 1 ∧ kidsN (delT T (c, r)) (p.pr.1, p.pr.2) + 1 ≤ 1000000) := by (have h1 := kidsN_le (delT T (c, r)) (p.pr.1, p.pr.2); have h2 := kidsN_nn (delT T (c, r)) (p.pr.1, p.pr.2); have h3 := delT_length T (c, r); exact ⟨by omega, by omega⟩)
  have HEq : Hid (∀ w, (binOp .eql 43 (.agg #[.int .i64 p.nd.1, .int .i64 p.nd.2, .int .i64 p.pr.1, .int .i64 p.pr.2, .int .i64 p.sl.1, .int .i64 p.sl.2]) (.agg #[.int .i64 0, .int .i64 0, .int .i64 0, .int .i64 0, .int .i64 0, .int .i64 0])).run Try.prog w = .ok (.bool false) w) := fun w => by
    have h9 := eqlPl p zeroPl w
    rw [decide_eq_false hp.1] at h9
    exact h9
  have HNd : Hid (p.nd = (c, r)) := hp.2
  clear h hd hk hb0 hn1 hn2 hts hkt hs hne hq hp hl
  go_enter Try.func53, Try.ntmps53
  go_wp2
  rw [← eW]
  clear eW
  refine wp_region_held_drew (S := fun W' => PutS w tb sb kb lv kv c r p W' ∧ SMap W' sb T) (by kernel_rfl) ⟨HS0.out.drew, HD0.out.keep rfl⟩ (fun hHeld => ?_)
  obtain ⟨Ua7u0, eW⟩ : ∃ X, X = W0.drew := ⟨_, rfl⟩
  have hb : Below W0.heap.size W0 Ua7u0 := by rw [eW]; exact (Below.refl _ _).drew
  replace HM : Hid (KMap Ua7u0 kb (kidsN T)) := HM.out.keep (hb.block _ HM.out.lt)
  rw [← eW] at hHeld ⊢
  clear eW hb
  refine wpAnyH_take (i := 0) (oi := ⟨some 9, _, _, _, _, _⟩) (v := ?va7ux0) rfl (by kernel_rfl) (by kernel_rfl) (by kernel_rfl) (fun _ _ _ h => h) (Or.inl ⟨by rfl, ?hya7ux0⟩) hHeld ?resta7ux0
  case hya7ux0 => (intro w _; go_simp; try with_reducible rfl)
  simp only [Act.put, List.setIfInBounds_toArray, List.set_cons_zero, List.set_cons_succ]
  refine wpAnyH_take (i := 1) (oi := ⟨some 10, _, _, _, _, _⟩) (v := ?va7ux1) rfl (by kernel_rfl) (by kernel_rfl) (by kernel_rfl) (fun _ _ _ h => h) (Or.inl ⟨by rfl, ?hya7ux1⟩) hHeld ?resta7ux1
  case hya7ux1 => (intro w hSw; (try dsimp only at hSw); obtain ⟨hP, hM⟩ := hSw; have t2 := hP.t2; have n0 := hP.n0; have n1 := hP.n1; have hlk : (Instr.lookup 62 (.map (some sb)) (.agg #[.int .i64 c, .int .i64 r]) true).run Try.prog w = .ok (.tuple #[plV zeroPl, .bool false]) w := (by have h0 := hM.look HSr.out (c, r); rw [HQ.out] at h0; exact h0); go_simp; try with_reducible rfl)
  simp only [Act.put, List.setIfInBounds_toArray, List.set_cons_zero, List.set_cons_succ]
  refine wpAnyH_take (i := 2) (oi := ⟨some 11, _, _, _, _, _⟩) (v := ?va7ux2) rfl (by kernel_rfl) (by kernel_rfl) (by kernel_rfl) (fun _ _ _ h => h) (Or.inl ⟨by rfl, ?hya7ux2⟩) hHeld ?resta7ux2
  case hya7ux2 => (intro w _; go_simp; try with_reducible rfl)
  simp only [Act.put, List.setIfInBounds_toArray, List.set_cons_zero, List.set_cons_succ]
  refine wpAnyH_take (i := 3) (oi := ⟨some 12, _, _, _, _, _⟩) (v := ?va7ux3) rfl (by kernel_rfl) (by kernel_rfl) (by kernel_rfl) (fun _ _ _ h => h) (Or.inl ⟨by rfl, ?hya7ux3⟩) hHeld ?resta7ux3
  case hya7ux3 => (intro w hSw; (try dsimp only at hSw); obtain ⟨hP, hM⟩ := hSw; have t2 := hP.t2; have n0 := hP.n0; have n1 := hP.n1; have hlk : (Instr.lookup 62 (.map (some sb)) (.agg #[.int .i64 c, .int .i64 r]) true).run Try.prog w = .ok (.tuple #[plV zeroPl, .bool false]) w := (by have h0 := hM.look HSr.out (c, r); rw [HQ.out] at h0; exact h0); go_simp; try with_reducible rfl)
  simp only [Act.put, List.setIfInBounds_toArray, List.set_cons_zero, List.set_cons_succ]
  refine wpAnyH_take (i := 4) (oi := ⟨some 13, _, _, _, _, _⟩) (v := ?va7ux4) rfl (by kernel_rfl) (by kernel_rfl) (by kernel_rfl) (fun _ _ _ h => h) (Or.inl ⟨by rfl, ?hya7ux4⟩) hHeld ?resta7ux4
  case hya7ux4 => (intro w hSw; (try dsimp only at hSw); obtain ⟨hP, hM⟩ := hSw; have t2 := hP.t2; have n0 := hP.n0; have n1 := hP.n1; have hlk : (Instr.lookup 62 (.map (some sb)) (.agg #[.int .i64 c, .int .i64 r]) true).run Try.prog w = .ok (.tuple #[plV zeroPl, .bool false]) w := (by have h0 := hM.look HSr.out (c, r); rw [HQ.out] at h0; exact h0); go_simp; try with_reducible rfl)
  simp only [Act.put, List.setIfInBounds_toArray, List.set_cons_zero, List.set_cons_succ]
  refine wpAnyH_take (i := 5) (oi := ⟨some 14, _, _, _, _, _⟩) (v := ?va7ux5) rfl (by kernel_rfl) (by kernel_rfl) (by kernel_rfl) (fun _ _ _ h => h) (Or.inl ⟨by rfl, ?hya7ux5⟩) hHeld ?resta7ux5
  case hya7ux5 => (intro w hSw; (try dsimp only at hSw); obtain ⟨hP, hM⟩ := hSw; have t2 := hP.t2; have n0 := hP.n0; have n1 := hP.n1; have hlk : (Instr.lookup 62 (.map (some sb)) (.agg #[.int .i64 c, .int .i64 r]) true).run Try.prog w = .ok (.tuple #[plV zeroPl, .bool false]) w := (by have h0 := hM.look HSr.out (c, r); rw [HQ.out] at h0; exact h0); go_simp; try with_reducible rfl)
  simp only [Act.put, List.setIfInBounds_toArray, List.set_cons_zero, List.set_cons_succ]
  refine wpAnyH_take (i := 6) (oi := ⟨some 8, _, _, _, _, _⟩) (v := ?va7ux6) rfl (by kernel_rfl) (by kernel_rfl) (by kernel_rfl) (fun _ _ _ h => h) (Or.inl ⟨by rfl, ?hya7ux6⟩) hHeld ?resta7ux6
  case hya7ux6 => (intro w _; go_simp; try with_reducible rfl)
  simp only [Act.put, List.setIfInBounds_toArray, List.set_cons_zero, List.set_cons_succ]
  refine wpAnyH_take (i := 7) (oi := ⟨some 15, _, _, _, _, _⟩) (v := ?va7ux7) rfl (by kernel_rfl) (by kernel_rfl) (by kernel_rfl) (fun _ _ _ h => h) (Or.inl ⟨by rfl, ?hya7ux7⟩) hHeld ?resta7ux7
  case hya7ux7 => (intro w _; go_simp; try with_reducible rfl)
  simp only [Act.put, List.setIfInBounds_toArray, List.set_cons_zero, List.set_cons_succ]
  refine wpAnyH_take (i := 8) (oi := ⟨some 16, _, _, _, _, _⟩) (v := ?va7ux8) rfl (by kernel_rfl) (by kernel_rfl) (by kernel_rfl) (fun _ _ _ h => h) (Or.inl ⟨by rfl, ?hya7ux8⟩) hHeld ?resta7ux8
  case hya7ux8 => (intro w _; go_simp; try with_reducible rfl)
  simp only [Act.put, List.setIfInBounds_toArray, List.set_cons_zero, List.set_cons_succ]
  refine wpAnyH_ready (rs := [9]) (by kernel_rfl) (by simp) ?_
  refine AllReadyH.cons (o := ⟨some 6, _, _, _, _, _⟩) rfl (fun K hK => ?_) AllReadyH.nil
  have HSz : Hid (w.heap.size + 2 ≤ Ua7u0.heap.size) := hHeld.1.sz
  have hbx : Below Ua7u0.heap.size Ua7u0 (Ua7u0.alloc (.cells #[.int .i64 0, .int .i64 0, .int .i64 0, .int .i64 0, .int .i64 0, .int .i64 0] 43)) := (Below.refl _ _).alloc (Nat.le_refl _) _
  go_simp
  refine hK.out _ _ (⟨hHeld.1.below hbx, hHeld.2.keep (hbx.block _ hHeld.2.lt)⟩) (fun hHeld2 => ?_)
  clear hK K hHeld
  have hHeld := hHeld2
  clear hHeld2
  (try simp only [Act.put, List.setIfInBounds_toArray, List.set_cons_zero, List.set_cons_succ])
  obtain ⟨Ua7u1, eW⟩ : ∃ X, X = Ua7u0.alloc (.cells #[.int .i64 0, .int .i64 0, .int .i64 0, .int .i64 0, .int .i64 0, .int .i64 0] 43) := ⟨_, rfl⟩
  have hb : Below Ua7u0.heap.size Ua7u0 Ua7u1 := by rw [eW]; exact (Below.refl _ _).alloc (Nat.le_refl _) _
  replace HM : Hid (KMap Ua7u1 kb (kidsN T)) := HM.out.keep (hb.block _ HM.out.lt)
  have HZ : Hid (Ua7u1.heap[Ua7u0.heap.size]? = some (.cells #[.int .i64 0, .int .i64 0, .int .i64 0, .int .i64 0, .int .i64 0, .int .i64 0] 43)) := by rw [eW]; exact heap_alloc_new _ _
  rw [← eW] at hHeld ⊢
  clear eW
  clear hbx
  obtain ⟨nb, enb⟩ : ∃ b, b = Ua7u0.heap.size := ⟨_, rfl⟩
  have HN : Hid (w.heap.size + 2 ≤ nb) := by rw [enb]; have := HSz.out; exact this
  rw [← enb] at HZ ⊢
  clear enb
  clear HSz
  clear hb
  refine wpAnyH_ready (rs := [10]) (by kernel_rfl) (by simp) ?_
  refine AllReadyH.cons (o := ⟨none, _, _, _, _, _⟩) rfl (fun K hK => ?_) AllReadyH.nil
  refine step_store_row rfl 43 (.tmp 6) (.tmp 15) rfl nb 43 #[.int .i64 0, .int .i64 0, .int .i64 0, .int .i64 0, .int .i64 0, .int .i64 0] (plCells zeroPl).toArray rfl rfl HZ.out sizePlaced rfl (by simp [Value.oneCell', plCells]) ?_
  obtain ⟨Ua7u2, eW⟩ : ∃ Y, Y = Ua7u1.setRow nb (plCells zeroPl).toArray := ⟨_, rfl⟩
  have hg : Ua7u1.grownBy Ua7u2 (some nb) := by rw [eW]; exact grown_setRow _ _ _
  have HR : Hid (Ua7u2.heap[nb]? = some (.cells (plCells zeroPl).toArray 43)) := by rw [eW]; exact setRow_same HZ.out
  rw [← eW]
  have hS2 : PutS w tb sb kb lv kv c r p Ua7u2 ∧ SMap Ua7u2 sb T := ⟨hHeld.1.step hg (.inr (.inr HN.out)), hHeld.2.keep (hg.block _ hHeld.2.lt (fun e => by have h1 := HN.out; have h2 := hHeld.1.sbl; cases e; omega))⟩
  replace HM : Hid (KMap Ua7u2 kb (kidsN T)) := HM.out.keep (hg.block _ HM.out.lt (fun e => by have h1 := HN.out; have h2 := hHeld.1.kbl; cases e; omega))
  refine hK.out _ _ (hS2) (fun hHeld2 => ?_)
  clear hK K hHeld
  have hHeld := hHeld2
  clear hHeld2
  (try simp only [Act.put, List.setIfInBounds_toArray, List.set_cons_zero, List.set_cons_succ])
  clear eW hg hS2 HZ
  refine wpAnyH_take (i := 11) (oi := ⟨some 7, _, _, _, _, _⟩) (v := ?va7u_9_10x11) rfl (by kernel_rfl) (by kernel_rfl) (by kernel_rfl) (fun _ _ _ h => h) (Or.inl ⟨by rfl, ?hya7u_9_10x11⟩) hHeld ?resta7u_9_10x11
  case hya7u_9_10x11 => (intro w _; go_simp; try with_reducible rfl)
  simp only [Act.put, List.setIfInBounds_toArray, List.set_cons_zero, List.set_cons_succ]
  refine wpAnyH_done (by kernel_rfl) ?_ _
  have HS : Hid (PutS w tb sb kb lv kv c r p Ua7u2) := hHeld.1
  have HD : Hid (SMap Ua7u2 sb T) := hHeld.2
  clear hHeld
  replace HM : Hid (KMap Ua7u2 kb (kidsN (delT T (c, r)))) := by (rw [del_none HQ.out]; exact HM.out)
  clear HR HQ HN
  have p0 := HS.out.p0
  have p1 := HS.out.p1
  have p2 := HS.out.p2
  have p3 := HS.out.p3
  have p4 := HS.out.p4
  have p5 := HS.out.p5
  have heq := HEq.out
  go_wp2
  clear heq p0 p1 p2 p3 p4 p5
  refine wp_region_held_drew (S := fun W' => PutS w tb sb kb lv kv c r p W') (by kernel_rfl) HS.out.drew (fun hHeld => ?_)
  obtain ⟨Uy8u0, eW⟩ : ∃ X, X = Ua7u2.drew := ⟨_, rfl⟩
  have hb : Below Ua7u2.heap.size Ua7u2 Uy8u0 := by rw [eW]; exact (Below.refl _ _).drew
  replace HD : Hid (SMap Uy8u0 sb T) := HD.out.keep (hb.block _ HD.out.lt)
  replace HM : Hid (KMap Uy8u0 kb (kidsN (delT T (c, r)))) := HM.out.keep (hb.block _ HM.out.lt)
  rw [← eW] at hHeld ⊢
  clear eW hb
  refine wpAnyH_take (i := 0) (oi := ⟨some 30, _, _, _, _, _⟩) (v := ?vy8ux0) rfl (by kernel_rfl) (by kernel_rfl) (by kernel_rfl) (fun _ _ _ h => h) (Or.inl ⟨by rfl, ?hyy8ux0⟩) hHeld ?resty8ux0
  case hyy8ux0 => (intro w _; go_simp; try with_reducible rfl)
  simp only [Act.put, List.setIfInBounds_toArray, List.set_cons_zero, List.set_cons_succ]
  refine wpAnyH_take (i := 1) (oi := ⟨some 31, _, _, _, _, _⟩) (v := ?vy8ux1) rfl (by kernel_rfl) (by kernel_rfl) (by kernel_rfl) (fun _ _ _ h => h) (Or.inl ⟨by rfl, ?hyy8ux1⟩) hHeld ?resty8ux1
  case hyy8ux1 => (intro w hSw; (try dsimp only at hSw); have hP := hSw; have t2 := hP.t2; have n0 := hP.n0; have n1 := hP.n1; have p0 := hP.p0; have p1 := hP.p1; have p2 := hP.p2; have p3 := hP.p3; have p4 := hP.p4; have p5 := hP.p5; go_simp; try with_reducible rfl)
  simp only [Act.put, List.setIfInBounds_toArray, List.set_cons_zero, List.set_cons_succ]
  refine wpAnyH_take (i := 2) (oi := ⟨some 32, _, _, _, _, _⟩) (v := ?vy8ux2) rfl (by kernel_rfl) (by kernel_rfl) (by kernel_rfl) (fun _ _ _ h => h) (Or.inl ⟨by rfl, ?hyy8ux2⟩) hHeld ?resty8ux2
  case hyy8ux2 => (intro w _; go_simp; try with_reducible rfl)
  simp only [Act.put, List.setIfInBounds_toArray, List.set_cons_zero, List.set_cons_succ]
  refine wpAnyH_take (i := 3) (oi := ⟨some 33, _, _, _, _, _⟩) (v := ?vy8ux3) rfl (by kernel_rfl) (by kernel_rfl) (by kernel_rfl) (fun _ _ _ h => h) (Or.inl ⟨by rfl, ?hyy8ux3⟩) hHeld ?resty8ux3
  case hyy8ux3 => (intro w hSw; (try dsimp only at hSw); have hP := hSw; have t2 := hP.t2; have n0 := hP.n0; have n1 := hP.n1; have p0 := hP.p0; have p1 := hP.p1; have p2 := hP.p2; have p3 := hP.p3; have p4 := hP.p4; have p5 := hP.p5; go_simp; try with_reducible rfl)
  simp only [Act.put, List.setIfInBounds_toArray, List.set_cons_zero, List.set_cons_succ]
  refine wpAnyH_take (i := 4) (oi := ⟨some 34, _, _, _, _, _⟩) (v := ?vy8ux4) rfl (by kernel_rfl) (by kernel_rfl) (by kernel_rfl) (fun _ _ _ h => h) (Or.inl ⟨by rfl, ?hyy8ux4⟩) hHeld ?resty8ux4
  case hyy8ux4 => (intro w hSw; (try dsimp only at hSw); have hP := hSw; have t2 := hP.t2; have n0 := hP.n0; have n1 := hP.n1; have p0 := hP.p0; have p1 := hP.p1; have p2 := hP.p2; have p3 := hP.p3; have p4 := hP.p4; have p5 := hP.p5; go_simp; try with_reducible rfl)
  simp only [Act.put, List.setIfInBounds_toArray, List.set_cons_zero, List.set_cons_succ]
  refine wpAnyH_take (i := 5) (oi := ⟨some 35, _, _, _, _, _⟩) (v := ?vy8ux5) rfl (by kernel_rfl) (by kernel_rfl) (by kernel_rfl) (fun _ _ _ h => h) (Or.inl ⟨by rfl, ?hyy8ux5⟩) hHeld ?resty8ux5
  case hyy8ux5 => (intro w hSw; (try dsimp only at hSw); have hP := hSw; have t2 := hP.t2; have n0 := hP.n0; have n1 := hP.n1; have p0 := hP.p0; have p1 := hP.p1; have p2 := hP.p2; have p3 := hP.p3; have p4 := hP.p4; have p5 := hP.p5; go_simp; try with_reducible rfl)
  simp only [Act.put, List.setIfInBounds_toArray, List.set_cons_zero, List.set_cons_succ]
  refine wpAnyH_ready (rs := [6]) (by kernel_rfl) (by simp) ?_
  refine AllReadyH.cons (o := ⟨none, _, _, _, _, _⟩) rfl (fun K hK => ?_) AllReadyH.nil
  obtain ⟨Uy8u1, hst, hg, hz, hM⟩ := HD.out.store HSr.out p
  have hst2 : (Instr.mapUpdate 62 (.map (some sb)) (.agg #[.int .i64 c, .int .i64 r]) (.agg #[.int .i64 p.nd.1, .int .i64 p.nd.2, .int .i64 p.pr.1, .int .i64 p.pr.2, .int .i64 p.sl.1, .int .i64 p.sl.2])).run Try.prog Uy8u0 = .ok () Uy8u1 := by (have h9 := hst; rw [HNd.out] at h9; exact h9)
  have HD2 : Hid (SMap Uy8u1 sb (setT T p)) := hM
  have hS1 : PutS w tb sb kb lv kv c r p Uy8u1 := hHeld.step hg (.inl rfl)
  replace HM : Hid (KMap Uy8u1 kb (kidsN (delT T (c, r)))) := HM.out.keep (hg.block _ HM.out.lt (fun e => HNe.out (by cases e; rfl)))
  clear hst hM
  go_simp
  refine hK.out _ _ (hS1) (fun hHeld2 => ?_)
  clear hK K hHeld
  have hHeld := hHeld2
  clear hHeld2
  (try simp only [Act.put, List.setIfInBounds_toArray, List.set_cons_zero, List.set_cons_succ])
  clear hst2 hg hz hS1
  refine wpAnyH_done (by kernel_rfl) ?_ _
  have HS : Hid (PutS w tb sb kb lv kv c r p Uy8u1) := hHeld
  clear hHeld HD
  have p2 := HS.out.p2
  have p3 := HS.out.p3
  go_wp2_with fail
  clear p2 p3
  refine (count_any tb kb lv kv (.map (some sb)) p.pr.1 p.pr.2 1 (kidsN (delT T (c, r))) _ HS.out.row HM.out HB2.out).mono ?_
  rintro e w5 ⟨⟨v5, rfl⟩, hk5, ht5⟩
  have HS5 : Hid (PutS w tb sb kb lv kv c r p w5) := HS.out.touch ht5 (fun k e => .inr (.inl e))
  have HD5 : Hid (SMap w5 sb (setT T p)) := HD2.out.keep (ht5.block _ HD2.out.lt (fun e => HNe.out (by omega)))
  have HM5 : Hid (KMap w5 kb (kidsN (setT T p))) := by (have h9 := hk5; rw [show ((p.pr.1, p.pr.2) : St) = p.pr from rfl, ← HNd.out, kids_put2 p] at h9; exact h9)
  clear hk5 ht5 HS
  go_wp2
  go_end0
  exact ⟨⟨_, rfl⟩, HD5.out, HM5.out, HS5.out.tch⟩

/-- What a node's new place makes of the tree; zero: it stands nowhere. -/
def putT (T : List Pl) (n : St) (p : Pl) : List Pl := if p = zeroPl then delT T n else setT T p
theorem put_any (tb sb kb : Nat) (lv kv : Value) (c r : Int) (p : Pl) (T : List Pl) (w : World) (h : w.heap[tb]? = some (.cells #[lv, kv, .map (some sb), .map (some kb)] 66)) (hd : SMap w sb T) (hk : KMap w kb (kidsN T)) (hne : sb ≠ kb) (hs : SrtT T) (hl : T.length ≤ 8192) (hp : p ≠ zeroPl → p.nd = (c, r)) :
    Calls Try.prog 53 #[.pointer (some ⟨tb, 0, none⟩), .agg #[.int .i64 c, .int .i64 r], .agg (plCells p).toArray] w fun e w' => (∃ v, e = .returned v) ∧ SMap w' sb (putT T (c, r) p) ∧ KMap w' kb (kidsN (putT T (c, r) p)) ∧ Touch (fun k => k = sb ∨ k = kb) w w' := by
  unfold putT
  by_cases hz : p = zeroPl
  · rw [if_pos hz]
    cases hq : whT T (c, r) with
    | some q => exact put_sz tb sb kb lv kv c r p q T w h hd hk hne hs hl hq hz
    | none => exact put_nz tb sb kb lv kv c r p T w h hd hk hne hs hl hq hz
  · rw [if_neg hz]
    cases hq : whT T (c, r) with
    | some q => exact put_sp tb sb kb lv kv c r p q T w h hd hk hne hs hl hq ⟨hz, hp hz⟩
    | none => exact put_np tb sb kb lv kv c r p T w h hd hk hne hs hl hq ⟨hz, hp hz⟩

end Go.Proofs.Ytljepindfdhbbaa
