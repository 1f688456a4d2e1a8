/- What redone does with a tree. -/
import Derived.Test.YtljepindfdhbbaaTrF
import Derived.WalkMore
import Derived.Scope
namespace Go.Proofs.Ytljepindfdhbbaa
open Go.RowKit
set_option linter.unusedVariables false
set_option linter.unusedSimpArgs false

theorem getx {Q : List Rw} {k : Nat} {x : Rw} {h : k < Q.length} (e : Q[k]? = some x) : x.m = Q[k].m := by rw [List.getElem?_eq_getElem h] at e; cases e; rfl
section
variable {F : Nat → Prop} {w W W' : World} {tb : Nat} {Q : List Rw} {k n : Nat} {g cap sb kb : Nat} {x : Rw}
theorem TrIs.nlen (h : TrIs F W tb Q k (.slice (some ⟨g, 0, none⟩) n cap) sb kb) : Q.length = n := by
  obtain ⟨a, c, e⟩ := h.own.form
  injection e with _ e2 _
  exact e2.symm
theorem TrIs.cellAt (h : TrIs F W tb Q k (.slice (some ⟨g, 0, none⟩) n cap) sb kb) {i : Nat} (hi : i < Q.length) (hx : Q[i]? = some x) (j : Nat) (u : Value) (hj : (rwCells x)[j]? = some u) : W.cell? ⟨g, i * 13 + j, none⟩ = some u := by
  obtain ⟨g', cap', e, _, hr, _⟩ := h.at hi
  injection e with e1 _ _
  injection e1 with e1
  injection e1 with e1 _ _
  subst e1
  rw [List.getElem?_eq_getElem hi] at hx
  cases hx
  exact hr j u hj
theorem TrIs.fz (h : TrIs F W tb Q k (.slice (some ⟨g, 0, none⟩) n cap) sb kb) (j : Nat) : W.frozen? ⟨g, j, none⟩ = false := by
  have hn := h.nlen
  have ho := h.own
  rw [← hn] at ho
  exact World.ownsRow.frozenAt ho j
theorem TrIs.there (h : TrIs F W tb Q k (.slice (some ⟨g, 0, none⟩) n cap) sb kb) {i : Nat} (hi : i < Q.length) (j m : Nat) (hm : j + m ≤ 13) : W.there g (i * 13 + j) m := by
  intro a ha
  refine ⟨?_, h.fz _⟩
  have hl : j + a < (rwCells Q[i]).length := by rw [rwCells_len]; omega
  have := h.cellAt hi (List.getElem?_eq_getElem hi) (j + a) _ (List.getElem?_eq_getElem hl)
  rw [Nat.add_assoc, this]
  rfl
theorem TrIs.over2 (h : TrIs F W tb Q k (.slice (some ⟨g, 0, none⟩) n cap) sb kb) {i : Nat} (hi : i < Q.length) (hx : Q[i]? = some x) (hk : k ≤ i) (y : Rw) (hm : y.m = x.m) (j : Nat) (vs : List Value) (hj : j + vs.length ≤ 13) (e : rwCells y = setL (rwCells x) j vs) : TrIs F (W.setCells g (i * 13 + j) vs) tb (Q.set i y) k (.slice (some ⟨g, 0, none⟩) n cap) sb kb ∧ W.grownBy (W.setCells g (i * 13 + j) vs) (some g) := by
  have hn := h.nlen
  subst hn
  rw [List.getElem?_eq_getElem hi] at hx
  cases hx
  exact TrIs.over h hi hk y hm j vs hj e
end
/-- What stands while a move that counts is marked; while it is put. -/
structure CtS (tb g k : Nat) (x : Rw) (sb : Nat) (T : List Pl) (W : World) : Prop where
  t2 : W.cell? ⟨tb, 2, none⟩ = some (.map (some sb))
  c2 : W.cell? ⟨g, k * 13 + 2, none⟩ = some (.int .i64 x.m.nd.1)
  c3 : W.cell? ⟨g, k * 13 + 3, none⟩ = some (.int .i64 x.m.nd.2)
  sm : SMap W sb T
theorem CtS.drew {tb g k : Nat} {x : Rw} {sb : Nat} {T : List Pl} {W : World} (h : CtS tb g k x sb T W) : CtS tb g k x sb T W.drew := ⟨h.t2, h.c2, h.c3, h.sm.keep rfl⟩
theorem CtS.of {F : Nat → Prop} {W : World} {tb : Nat} {Q Q' : List Rw} {k n : Nat} {g cap sb kb : Nat} {x y : Rw} (h : TrIs F W tb Q' k (.slice (some ⟨g, 0, none⟩) n cap) sb kb) (hy : Q'[k]? = some y) (e : y.m = x.m) (em : mvs Q' = mvs Q) : CtS tb g k x sb (doneT ((mvs Q).take k)) W := by
  have hk : k < Q'.length := (List.getElem?_eq_some_iff.1 hy).1
  refine ⟨h.t2, ?_, ?_, by rw [← em]; exact h.st⟩
  · rw [← e]; exact h.cellAt hk hy 2 _ rfl
  · rw [← e]; exact h.cellAt hk hy 3 _ rfl
structure CmS (g k : Nat) (x : Rw) (W : World) : Prop where
  c0 : W.cell? ⟨g, k * 13, none⟩ = some (.int .i64 x.m.ts.1)
  c1 : W.cell? ⟨g, k * 13 + 1, none⟩ = some (.int .i64 x.m.ts.2)
  c2 : W.cell? ⟨g, k * 13 + 2, none⟩ = some (.int .i64 x.m.nd.1)
  c3 : W.cell? ⟨g, k * 13 + 3, none⟩ = some (.int .i64 x.m.nd.2)
  c4 : W.cell? ⟨g, k * 13 + 4, none⟩ = some (.int .i64 x.m.pr.1)
  c5 : W.cell? ⟨g, k * 13 + 5, none⟩ = some (.int .i64 x.m.pr.2)
theorem CmS.drew {g k : Nat} {x : Rw} {W : World} (h : CmS g k x W) : CmS g k x W.drew := ⟨h.c0, h.c1, h.c2, h.c3, h.c4, h.c5⟩
theorem CmS.of {F : Nat → Prop} {W : World} {tb : Nat} {Q : List Rw} {k n : Nat} {g cap sb kb : Nat} {x y : Rw} (h : TrIs F W tb Q k (.slice (some ⟨g, 0, none⟩) n cap) sb kb) (hy : Q[k]? = some y) (e : y.m = x.m) : CmS g k x W := by
  have hk : k < Q.length := (List.getElem?_eq_some_iff.1 hy).1
  exact ⟨by rw [← e]; exact h.cellAt hk hy 0 _ rfl, by rw [← e]; exact h.cellAt hk hy 1 _ rfl, by rw [← e]; exact h.cellAt hk hy 2 _ rfl, by rw [← e]; exact h.cellAt hk hy 3 _ rfl, by rw [← e]; exact h.cellAt hk hy 4 _ rfl, by rw [← e]; exact h.cellAt hk hy 5 _ rfl⟩
theorem CmS.touch {g k : Nat} {x : Rw} {W W' : World} (h : CmS g k x W) {F : Nat → Prop} (ht : Touch F W W') (hF : ∀ j, F j → j ≠ g) : CmS g k x W' := by
  have hg : g < W.heap.size := cell_lt h.c0
  have hc : ∀ o, W'.cell? ⟨g, o, none⟩ = W.cell? ⟨g, o, none⟩ := fun o => World.cell?_of_block (w := W) (ht.block g hg (fun h9 => hF g h9 rfl))
  exact ⟨(hc _).trans h.c0, (hc _).trans h.c1, (hc _).trans h.c2, (hc _).trans h.c3, (hc _).trans h.c4, (hc _).trans h.c5⟩
theorem cntB_same {T : List Pl} {m : Mv} (h : m.nd = m.pr) : cntB T m = false := by unfold cntB; simp [h]
theorem cntB_no {T : List Pl} {m : Mv} (h : m.nd ∈ upL T m.pr) : cntB T m = false := by unfold cntB; simp [h]
theorem cntB_yes {T : List Pl} {m : Mv} (h : m.nd ≠ m.pr) (h2 : m.nd ∉ upL T m.pr) : cntB T m = true := by unfold cntB; simp [h, h2]
theorem cntB_kids {T : List Pl} {m : Mv} (h : m.nd ≠ m.pr) (h2 : ¬ 0 < kidsN T m.nd) (ha : Acy T) : cntB T m = true := by
  refine cntB_yes h fun hm => ?_
  have h0 : kidsN T m.nd = 0 := by have := kidsN_nn T m.nd; omega
  obtain ⟨p, hp, e⟩ := (ha.up m.pr).beneath _ hm
  exact kidsN_zero h0 p hp e
theorem upStart {T : List Pl} (ha : Acy T) {n : St} {p : Pl} (h : whT T n = some p) : ∃ l, ∀ m, Up T p.pr l ∧ (m ∈ upL T n ↔ m ∈ p.pr :: l) := by
  obtain ⟨l, hl⟩ := ha p.pr
  exact ⟨l, fun m => ⟨hl, by rw [upL_of (Up.step h hl)]⟩⟩
theorem upStep {T : List Pl} {n m : St} {p p2 : Pl} {l : List St} (hu : Up T p.pr l ∧ (m ∈ upL T n ↔ m ∈ p.pr :: l)) (h : whT T p.pr = some p2) (hne : p.pr ≠ m) : ∃ l2, l = p2.pr :: l2 ∧ Hid (Up T p2.pr l2 ∧ (m ∈ upL T n ↔ m ∈ p2.pr :: l2)) := by
  obtain ⟨h1, h2⟩ := hu
  cases h1 with
  | top h3 => rw [h] at h3; cases h3
  | step h3 h4 =>
    rw [h] at h3
    cases h3
    refine ⟨_, rfl, h4, ?_⟩
    rw [h2, List.mem_cons]
    exact ⟨fun h5 => h5.elim (fun e => absurd e.symm hne) id, .inr⟩
theorem upTop {T : List Pl} {n m : St} {p : Pl} {l : List St} (hu : Up T p.pr l ∧ (m ∈ upL T n ↔ m ∈ p.pr :: l)) (h : whT T p.pr = none) (hne : p.pr ≠ m) : m ∉ upL T n := by
  obtain ⟨h1, h2⟩ := hu
  cases h1 with
  | top h3 => rw [h2]; simp; exact fun e => hne e.symm
  | step h3 h4 => rw [h] at h3; cases h3
/-- Behind a round, ahead of the count. -/
structure NxT (F : Nat → Prop) (w : World) (tb : Nat) (M : List Mv) (k n : Nat) (lv : Value) (sb kb : Nat) (Q' : List Rw) (W : World) : Prop where
  row : W.heap[tb]? = some (.cells #[lv, .int .i64 (k : Int), .map (some sb), .map (some kb)] 66)
  next : Hid (TrIs F (W.setCell ⟨tb, 1, none⟩ (.int .i64 ((k : Int) + 1))) tb Q' (k + 1) lv sb kb) ∧ Hid (Touch F w (W.setCell ⟨tb, 1, none⟩ (.int .i64 ((k : Int) + 1))))
  em : Hid (mvs Q' = M)
  len : Hid (Q'.length = n)
section
variable {F : Nat → Prop} {w W W' : World} {tb : Nat} {M : List Mv} {Q : List Rw} {k n : Nat} {lv : Value} {sb kb : Nat} {x : Rw} {q : Pl}
theorem NxT.t1 (h : NxT F w tb M k n lv sb kb Q W) : W.cell? ⟨tb, 1, none⟩ = some (.int .i64 (k : Int)) := by rw [cell_of_row W tb 1 _ _ _ h.row]; rfl
theorem NxT.tz (h : NxT F w tb M k n lv sb kb Q W) : W.frozen? ⟨tb, 1, none⟩ = false := frozen_of_row W tb 1 _ _ h.row
theorem NxT.of (h : TrIs F W tb Q k lv sb kb) (hto : Touch F w W) (em : mvs Q = M) (len : Q.length = n) (hs : SMap W' sb (doneT ((mvs Q).take (k + 1)))) (hk : KMap W' kb (kidsN (doneT ((mvs Q).take (k + 1))))) (hl : LsD Q (k + 1)) (ht : Touch (fun j => j = sb ∨ j = kb) W W') : NxT F w tb M k n lv sb kb Q W' := by
  have hts := h.ts
  have htk := h.tk
  have hr : W'.heap[tb]? = some (.cells #[lv, .int .i64 (k : Int), .map (some sb), .map (some kb)] 66) := (ht.block _ (h.lt _ h.ft) (fun e => by rcases e with e | e; exact hts e; exact htk e)).trans h.row
  have hg := grownBy_setCell W' tb 1 (.int .i64 ((k : Int) + 1))
  have hT : Touch (fun j => j = tb ∨ j = sb ∨ j = kb) W (W'.setCell ⟨tb, 1, none⟩ (.int .i64 ((k : Int) + 1))) := (ht.mono (fun j e => .inr e)).trans (Touch.of_grown (F := fun j => j = tb) hg fun j e _ => by cases e; rfl) (fun j e => .inl (.inl e))
  refine ⟨hr, ⟨?_, hto.trans hT fun j e => .inl (by rcases e with rfl | rfl | rfl; exact h.ft; exact h.fs; exact h.fk)⟩, em, len⟩
  refine h.turn ?_ ?_ ?_ hl hT
  · rw [heap_setCell_same W' tb 1 _ _ _ hr]
    simp
  · exact hs.keep (hg.block _ hs.lt (fun e => hts (by cases e; rfl)))
  · exact hk.keep (hg.block _ hk.lt (fun e => htk (by cases e; rfl)))
theorem LsD.done2 (hk : k < Q.length) (hx : Q[k]? = some x) : doneT ((mvs Q).take (k + 1)) = doM (doneT ((mvs Q).take k)) x.m := by
  rw [List.getElem?_eq_getElem hk] at hx
  cases hx
  exact LsD.done hk
theorem NxT.of_skip (em : mvs Q = M) (len : Q.length = n) (h : TrIs F W tb Q k lv sb kb) (hto : Touch F w W) (hk : k < Q.length) (hx : Q[k]? = some x) (hc : x.cn = false) (hn : cntB (doneT ((mvs Q).take k)) x.m = false) : NxT F w tb M k n lv sb kb Q W := by
  have e1 : doneT ((mvs Q).take (k + 1)) = doneT ((mvs Q).take k) := by rw [LsD.done2 hk hx]; unfold doM; rw [hn]; rfl
  refine NxT.of h hto em len (by rw [e1]; exact h.st) (by rw [e1]; exact h.kd) ?_ (Touch.refl _ _)
  have hx2 : Q[k] = x := by rw [List.getElem?_eq_getElem hk] at hx; cases hx; rfl
  have h9 := h.ls.redo hk (x := x) (by rw [hx2]) (by rw [hx2, hc, hn]) (fun h8 => by rw [hc] at h8; cases h8)
  rwa [← hx2, List.set_getElem_self] at h9
theorem NxT.of_put {Q0 : List Rw} (em : mvs Q0 = M) (len : Q0.length = n) (h : TrIs F W tb (Q0.set k ⟨x.m, true, q⟩) k lv sb kb) (hto : Touch F w W) (hk : k < Q0.length) (hx : Q0[k]? = some x) (hc : cntB (doneT ((mvs Q0).take k)) x.m = true) (hq : q = (whT (doneT ((mvs Q0).take k)) x.m.nd).getD zeroPl) (hs : SMap W' sb (putT (doneT ((mvs (Q0.set k ⟨x.m, true, q⟩)).take k)) (x.m.nd.1, x.m.nd.2) (plOf x.m))) (hkm : KMap W' kb (kidsN (putT (doneT ((mvs (Q0.set k ⟨x.m, true, q⟩)).take k)) (x.m.nd.1, x.m.nd.2) (plOf x.m)))) (ht : Touch (fun j => j = sb ∨ j = kb) W W') : NxT F w tb M k n lv sb kb (Q0.set k ⟨x.m, true, q⟩) W' := by
  have hx2 : Q0[k] = x := by rw [List.getElem?_eq_getElem hk] at hx; cases hx; rfl
  have e0 : mvs (Q0.set k ⟨x.m, true, q⟩) = mvs Q0 := mvs_set _ hk (by rw [hx2])
  have hk' : k < (Q0.set k ⟨x.m, true, q⟩).length := by rw [List.length_set]; exact hk
  have hx' : (Q0.set k ⟨x.m, true, q⟩)[k]? = some ⟨x.m, true, q⟩ := List.getElem?_set_self hk
  have hnz : plOf x.m ≠ zeroPl := plOf_nz (by have := h.ls.nz _ (List.mem_of_getElem? hx'); exact this)
  have e1 : doneT ((mvs (Q0.set k ⟨x.m, true, q⟩)).take (k + 1)) = putT (doneT ((mvs (Q0.set k ⟨x.m, true, q⟩)).take k)) (x.m.nd.1, x.m.nd.2) (plOf x.m) := by
    rw [LsD.done2 hk' hx']
    unfold doM putT
    rw [if_neg hnz, e0, if_pos hc]
  refine NxT.of h hto (e0.trans em) (by rw [List.length_set]; exact len) (by rw [e1]; exact hs) (by rw [e1]; exact hkm) ?_ ht
  have h9 := h.ls.redo hk' (x := ⟨x.m, true, q⟩) (by rw [List.getElem_set_self]) (by rw [List.getElem_set_self, e0]; exact hc.symm) (fun _ => by rw [List.getElem_set_self, e0]; exact hq)
  rwa [List.set_set] at h9
end
theorem step_store_mid {P : Program} {ops : Array Oper} {o : Oper} {a : Act} {w : World} {K : Act → World → Prop} {Q : Exit → Act → World → Prop} {E : Prop} (hgd : o.guard = none) (ty : TypeId) (x y : Operand) (ho : o.op = .store ty x y)
    (b off : Nat) (cells : Array Value) (hx : a.eval x = .pointer (some ⟨b, off, none⟩)) (hy : a.eval y = .agg cells) (ht : w.there b off cells.size)
    (hi : (P.info? ty).map (·.size) = some cells.size) (h1 : cells.all (·.oneCell') = true)
    (h : K (a.put o.dst undef) (w.setCells b off cells.toList)) : if Region.wanted o (yielded ops a.tmps) = true then Oper.wp P o a w K Q else E := by
  have hw : Region.wanted o (yielded ops a.tmps) = true := by simp [Region.wanted, hgd]
  rw [if_pos hw]
  exact wp_store_mid ty x y ho b off cells hx hy ht hi h1 h

set_option maxRecDepth 100000 in
set_option maxHeartbeats 8000000 in
theorem redone_any (F : Nat → Prop) (tb : Nat) (R : List Rw) (k0 : Nat) (lv : Value) (sb kb : Nat) (w : World) (h : TrIs F w tb R k0 lv sb kb) :
    Calls Try.prog 41 #[.pointer (some ⟨tb, 0, none⟩)] w fun e w' => e = .returned (.pointer (some ⟨tb, 0, none⟩)) ∧ (∃ P, TrIs F w' tb P P.length lv sb kb ∧ mvs P = mvs R) ∧ Touch F w w' := by
  obtain ⟨a0, cap, elv⟩ := h.own.form
  have hn0 := h.small
  have hk0 := h.ls.le
  obtain ⟨n, hn⟩ : ∃ n, n = R.length := ⟨_, rfl⟩
  rw [← hn] at elv
  subst elv
  have HF : Hid (TrIs F w tb R k0 (.slice a0 n cap) sb kb) := h
  have HRn : Hid (R.length = n) := hn.symm
  rw [← hn] at hn0 hk0
  clear h hn
  go_enter Try.func41, Try.ntmps41
  go_wp2
  go_step3
  go_wp2
  go_step3
  go_wp2
  go_loopg [9] (n - k0) (fun gk tv wr => ∃ (P : List Rw) (k : Nat), Hid (TrIs F wr tb P k (.slice a0 n cap) sb kb) ∧ Hid (Touch F w wr) ∧ Hid (mvs P = mvs R) ∧ Hid (P.length = n) ∧ gk = n - k)
  case atStart => exact ⟨R, k0, HF, Touch.refl _ _, rfl, HRn, rfl⟩
  case round =>
    obtain ⟨P, k, HT0, HTo0, HEm0, HLen0, hgk⟩ := hrel
    have hkn' : k ≤ n := by (have h9 := HT0.out.ls.le; have h8 := HLen0.out; omega)
    have hw1 : IntKind.i64.wrap ((k : Int) + 1) = (k : Int) + 1 := by rw [IntKind.wrap_i64]; omega
    clear HF HRn
    go_wp2
    refine wp_region_held_drew (S := fun W' => TrIs F W' tb P k (.slice a0 n cap) sb kb) (by kernel_rfl) HT0.out.drew (fun hHeld => ?_)
    obtain ⟨Ud1u0, eW⟩ : ∃ X, X = wr.drew := ⟨_, rfl⟩
    have hb : Below wr.heap.size wr Ud1u0 := by rw [eW]; exact (Below.refl _ _).drew
    replace HT0 : Hid (TrIs F Ud1u0 tb P k (.slice a0 n cap) sb kb) := HT0.out.below hb
    replace HTo0 : Hid (Touch F w Ud1u0) := HTo0.out.trans (Touch.of_below (F := fun _ => False) hb) (fun j h => h.elim)
    rw [← eW] at hHeld ⊢
    clear eW hb
    refine tkW 0 (some 9) (v := ?_) ?_ hHeld ?_
    rotate_left
    · (intro w _; go_simp; try with_reducible rfl)
    refine tkW 1 (some 10) (v := ?_) ?_ hHeld ?_
    rotate_left
    · (intro w hSw; (try dsimp only at hSw); have hS := hSw; have t0 := hS.t0; have t1 := hS.t1; go_simp; try with_reducible rfl)
    refine tkW 2 (some 11) (v := ?_) ?_ hHeld ?_
    rotate_left
    · (intro w _; go_simp; try with_reducible rfl)
    refine tkW 3 (some 12) (v := ?_) ?_ hHeld ?_
    rotate_left
    · (intro w hSw; (try dsimp only at hSw); have hS := hSw; have t0 := hS.t0; have t1 := hS.t1; go_simp; try with_reducible rfl)
    refine tkW 4 (some 13) (v := ?_) ?_ hHeld ?_
    rotate_left
    · (intro w _; go_simp; try with_reducible rfl)
    refine tkW 5 (some 14) (v := ?_) ?_ hHeld ?_
    rotate_left
    · (intro w hSw; (try dsimp only at hSw); have hS := hSw; have t0 := hS.t0; have t1 := hS.t1; go_simp; try with_reducible rfl)
    refine tkW 6 (some 15) (v := ?_) ?_ hHeld ?_
    rotate_left
    · (intro w _; go_simp; try with_reducible rfl)
    refine tkW 7 (some 16) (v := ?_) ?_ hHeld ?_
    rotate_left
    · (intro w hSw; (try dsimp only at hSw); have hS := hSw; have t0 := hS.t0; have t1 := hS.t1; go_simp; try with_reducible rfl)
    refine tkW 8 (some 17) (v := ?_) ?_ hHeld ?_
    rotate_left
    · (intro w hSw; (try dsimp only at hSw); have hS := hSw; have t0 := hS.t0; have t1 := hS.t1; go_simp; try with_reducible rfl)
    refine tkW 9 (some 18) (v := ?_) ?_ hHeld ?_
    rotate_left
    · (intro w hSw; (try dsimp only at hSw); have hS := hSw; have t0 := hS.t0; have t1 := hS.t1; go_simp; try with_reducible rfl)
    refine wpAnyH_done (by kernel_rfl) ?_ _
    clear hHeld
    by_cases hkn : k < n
    · have hkd : decide (k < n) = true := by simp [hkn]
      have HKn0 : Hid (k < P.length) := by (rw [HLen0.out]; exact hkn)
      obtain ⟨g, cap2, elv, hcp2, hrg2, hFg⟩ := HT0.out.at HKn0.out
      have HFg : Hid (F g) := hFg
      obtain ⟨e1, e2⟩ : a0 = some ⟨g, 0, none⟩ ∧ n = n := ⟨by injection elv, rfl⟩
      subst e1
      clear elv hFg e2 hcp2 hrg2 cap2
      obtain ⟨y, hy⟩ : ∃ y, P[k]? = some y := ⟨_, List.getElem?_eq_getElem HKn0.out⟩
      have HX0 : Hid (P[k]? = some y) := hy
      clear hy
      rw [hkd]
      clear hkd
      have km : (k : Int) < (n : Int) := by omega
      go_wp2_with fail
      refine wp_region_held_drew (S := fun W' => TrIs F W' tb P k (.slice (some ⟨g, 0, none⟩) n cap) sb kb) (by kernel_rfl) HT0.out.drew (fun hHeld => ?_)
      obtain ⟨Ue2u0, eW⟩ : ∃ X, X = Ud1u0.drew := ⟨_, rfl⟩
      have hb : Below Ud1u0.heap.size Ud1u0 Ue2u0 := by rw [eW]; exact (Below.refl _ _).drew
      replace HT0 : Hid (TrIs F Ue2u0 tb P k (.slice (some ⟨g, 0, none⟩) n cap) sb kb) := HT0.out.below hb
      replace HTo0 : Hid (Touch F w Ue2u0) := HTo0.out.trans (Touch.of_below (F := fun _ => False) hb) (fun j h => h.elim)
      rw [← eW] at hHeld ⊢
      clear eW hb
      refine tkW 0 (some 26) (v := ?_) ?_ hHeld ?_
      rotate_left
      · (intro w _; go_simp; try with_reducible rfl)
      refine tkW 1 (some 27) (v := ?_) ?_ hHeld ?_
      rotate_left
      · (intro w hSw; (try dsimp only at hSw); have hS := hSw; have t0 := hS.t0; have t1 := hS.t1; go_simp; try with_reducible rfl)
      refine tkW 2 (some 28) (v := ?_) ?_ hHeld ?_
      rotate_left
      · (intro w _; go_simp; try with_reducible rfl)
      refine tkW 3 (some 29) (v := ?_) ?_ hHeld ?_
      rotate_left
      · (intro w hSw; (try dsimp only at hSw); have hS := hSw; have t0 := hS.t0; have t1 := hS.t1; go_simp; try with_reducible rfl)
      refine tkW 4 (some 30) (v := ?_) ?_ hHeld ?_
      rotate_left
      · (intro w _; go_simp; try with_reducible rfl)
      refine tkW 5 (some 31) (v := ?_) ?_ hHeld ?_
      rotate_left
      · (intro w hSw; (try dsimp only at hSw); have hS := hSw; have t0 := hS.t0; have t1 := hS.t1; go_simp; try with_reducible rfl)
      refine tkW 6 (some 32) (v := ?_) ?_ hHeld ?_
      rotate_left
      · (intro w _; go_simp; try with_reducible rfl)
      refine tkW 7 (some 33) (v := ?_) ?_ hHeld ?_
      rotate_left
      · (intro w hSw; (try dsimp only at hSw); have hS := hSw; have t0 := hS.t0; have t1 := hS.t1; go_simp; try with_reducible rfl)
      refine tkW 8 (some 34) (v := ?_) ?_ hHeld ?_
      rotate_left
      · (intro w hSw; (try dsimp only at hSw); have hS := hSw; have t0 := hS.t0; have t1 := hS.t1; go_simp; try with_reducible rfl)
      refine tkW 9 (some 3) (v := ?_) ?_ hHeld ?_
      rotate_left
      · (intro w _; go_simp; try with_reducible rfl)
      refine wpAnyH_done (by kernel_rfl) ?_ _
      clear hHeld
      obtain ⟨W6, eW6⟩ : ∃ W6, W6 = Ue2u0.setCells g (k * 13 + 6) [.bool false] := ⟨_, rfl⟩
      obtain ⟨h9, hg9⟩ := HT0.out.over2 HKn0.out HX0.out (Nat.le_refl _) ⟨y.m, false, y.fr⟩ rfl 6 [.bool false] (by decide) rfl
      rw [← eW6] at h9 hg9
      have HTo : Hid (Touch F w W6) := HTo0.out.trans (Touch.of_grown hg9 (fun j e _ => by cases e; exact HFg.out)) (fun j hj => .inl hj)
      have e6m : mvs (P.set k ⟨y.m, false, y.fr⟩) = mvs P := mvs_set _ HKn0.out (getx (x := y) HX0.out)
      obtain ⟨Q, eQ⟩ : ∃ Q, Q = P.set k ⟨y.m, false, y.fr⟩ := ⟨_, rfl⟩
      obtain ⟨x, ex⟩ : ∃ x : Rw, x = ⟨y.m, false, y.fr⟩ := ⟨_, rfl⟩
      have HT : Hid (TrIs F W6 tb Q k (.slice (some ⟨g, 0, none⟩) n cap) sb kb) := by (rw [eQ]; exact h9)
      have HX : Hid (Q[k]? = some x) := by (rw [eQ, ex]; exact List.getElem?_set_self HKn0.out)
      have HEm : Hid (mvs Q = mvs R) := by (rw [eQ]; exact e6m.trans HEm0.out)
      have HLen : Hid (Q.length = n) := by (rw [eQ, List.length_set]; exact HLen0.out)
      have HKn : Hid (k < Q.length) := by (rw [eQ, List.length_set]; exact HKn0.out)
      have HC0 : Hid (x.cn = false) := by rw [ex]; rfl
      have hc6 := HT0.out.cellAt HKn0.out HX0.out 6 _ rfl
      have hz6 := HT0.out.fz (k * 13 + 6)
      have eW7 : W6 = Ue2u0.setCell ⟨g, k * 13 + 6, none⟩ (.bool false) := eW6
      clear h9 hg9 e6m eQ ex eW6 HT0 HTo0 HX0 HEm0 HLen0 HKn0
      go_wp2_with fail
      rw [← eW7]
      clear eW7 hc6 hz6
      refine wp_region_held_drew (S := fun W' => TrIs F W' tb Q k (.slice (some ⟨g, 0, none⟩) n cap) sb kb) (by kernel_rfl) HT.out.drew (fun hHeld => ?_)
      obtain ⟨Ug3u0, eW⟩ : ∃ X, X = W6.drew := ⟨_, rfl⟩
      have hb : Below W6.heap.size W6 Ug3u0 := by rw [eW]; exact (Below.refl _ _).drew
      replace HT : Hid (TrIs F Ug3u0 tb Q k (.slice (some ⟨g, 0, none⟩) n cap) sb kb) := HT.out.below hb
      replace HTo : Hid (Touch F w Ug3u0) := HTo.out.trans (Touch.of_below (F := fun _ => False) hb) (fun j h => h.elim)
      rw [← eW] at hHeld ⊢
      clear eW hb
      refine tkW 0 (some 38) (v := ?_) ?_ hHeld ?_
      rotate_left
      · (intro w _; go_simp; try with_reducible rfl)
      refine tkW 1 (some 39) (v := ?_) ?_ hHeld ?_
      rotate_left
      · (intro w hSw; (try dsimp only at hSw); have hS := hSw; have c2 : w.cell? ⟨g, k * 13 + 2, none⟩ = some (.int .i64 x.m.nd.1) := hS.cellAt HKn.out HX.out 2 _ rfl; have c3 : w.cell? ⟨g, k * 13 + 3, none⟩ = some (.int .i64 x.m.nd.2) := hS.cellAt HKn.out HX.out 3 _ rfl; have c4 : w.cell? ⟨g, k * 13 + 4, none⟩ = some (.int .i64 x.m.pr.1) := hS.cellAt HKn.out HX.out 4 _ rfl; have c5 : w.cell? ⟨g, k * 13 + 5, none⟩ = some (.int .i64 x.m.pr.2) := hS.cellAt HKn.out HX.out 5 _ rfl; go_simp; try with_reducible rfl)
      refine tkW 2 (some 40) (v := ?_) ?_ hHeld ?_
      rotate_left
      · (intro w _; go_simp; try with_reducible rfl)
      refine tkW 3 (some 41) (v := ?_) ?_ hHeld ?_
      rotate_left
      · (intro w hSw; (try dsimp only at hSw); have hS := hSw; have c2 : w.cell? ⟨g, k * 13 + 2, none⟩ = some (.int .i64 x.m.nd.1) := hS.cellAt HKn.out HX.out 2 _ rfl; have c3 : w.cell? ⟨g, k * 13 + 3, none⟩ = some (.int .i64 x.m.nd.2) := hS.cellAt HKn.out HX.out 3 _ rfl; have c4 : w.cell? ⟨g, k * 13 + 4, none⟩ = some (.int .i64 x.m.pr.1) := hS.cellAt HKn.out HX.out 4 _ rfl; have c5 : w.cell? ⟨g, k * 13 + 5, none⟩ = some (.int .i64 x.m.pr.2) := hS.cellAt HKn.out HX.out 5 _ rfl; go_simp; try with_reducible rfl)
      refine tkW 4 (some 42) (v := ?_) ?_ hHeld ?_
      rotate_left
      · (intro w _; go_simp; try with_reducible rfl)
      refine tkW 5 (some 43) (v := ?_) ?_ hHeld ?_
      rotate_left
      · (intro w hSw; (try dsimp only at hSw); have hS := hSw; have c2 : w.cell? ⟨g, k * 13 + 2, none⟩ = some (.int .i64 x.m.nd.1) := hS.cellAt HKn.out HX.out 2 _ rfl; have c3 : w.cell? ⟨g, k * 13 + 3, none⟩ = some (.int .i64 x.m.nd.2) := hS.cellAt HKn.out HX.out 3 _ rfl; have c4 : w.cell? ⟨g, k * 13 + 4, none⟩ = some (.int .i64 x.m.pr.1) := hS.cellAt HKn.out HX.out 4 _ rfl; have c5 : w.cell? ⟨g, k * 13 + 5, none⟩ = some (.int .i64 x.m.pr.2) := hS.cellAt HKn.out HX.out 5 _ rfl; go_simp; try with_reducible rfl)
      refine tkW 6 (some 44) (v := ?_) ?_ hHeld ?_
      rotate_left
      · (intro w _; go_simp; try with_reducible rfl)
      refine tkW 7 (some 45) (v := ?_) ?_ hHeld ?_
      rotate_left
      · (intro w hSw; (try dsimp only at hSw); have hS := hSw; have c2 : w.cell? ⟨g, k * 13 + 2, none⟩ = some (.int .i64 x.m.nd.1) := hS.cellAt HKn.out HX.out 2 _ rfl; have c3 : w.cell? ⟨g, k * 13 + 3, none⟩ = some (.int .i64 x.m.nd.2) := hS.cellAt HKn.out HX.out 3 _ rfl; have c4 : w.cell? ⟨g, k * 13 + 4, none⟩ = some (.int .i64 x.m.pr.1) := hS.cellAt HKn.out HX.out 4 _ rfl; have c5 : w.cell? ⟨g, k * 13 + 5, none⟩ = some (.int .i64 x.m.pr.2) := hS.cellAt HKn.out HX.out 5 _ rfl; go_simp; try with_reducible rfl)
      refine tkW 8 (some 46) (v := .bool (decide ((x.m.nd.1, x.m.nd.2) = (x.m.pr.1, x.m.pr.2)))) ?_ hHeld ?_
      · (intro w hSw; (try dsimp only at hSw); have hS := hSw; have c2 : w.cell? ⟨g, k * 13 + 2, none⟩ = some (.int .i64 x.m.nd.1) := hS.cellAt HKn.out HX.out 2 _ rfl; have c3 : w.cell? ⟨g, k * 13 + 3, none⟩ = some (.int .i64 x.m.nd.2) := hS.cellAt HKn.out HX.out 3 _ rfl; have c4 : w.cell? ⟨g, k * 13 + 4, none⟩ = some (.int .i64 x.m.pr.1) := hS.cellAt HKn.out HX.out 4 _ rfl; have c5 : w.cell? ⟨g, k * 13 + 5, none⟩ = some (.int .i64 x.m.pr.2) := hS.cellAt HKn.out HX.out 5 _ rfl; go_simp; by_cases e1 : x.m.nd.1 = x.m.pr.1 <;> by_cases e2 : x.m.nd.2 = x.m.pr.2 <;> simp [e1, e2])
      refine wpAnyH_done (by kernel_rfl) ?_ _
      clear hHeld
      by_cases hnp : x.m.nd = x.m.pr
      · have hnd : decide ((x.m.nd.1, x.m.nd.2) = (x.m.pr.1, x.m.pr.2)) = true := decide_eq_true hnp
        have HNc : Hid (cntB (doneT ((mvs Q).take k)) x.m = false) := cntB_same hnp
        clear hnp
        rw [hnd]
        clear hnd
        have HNx : Hid (NxT F w tb (mvs R) k n (.slice (some ⟨g, 0, none⟩) n cap) sb kb Q Ug3u0) := NxT.of_skip HEm.out HLen.out HT.out HTo.out HKn.out HX.out HC0.out HNc.out
        have t1 : Ug3u0.cell? ⟨tb, 1, none⟩ = some (.int .i64 (k : Int)) := HNx.out.t1
        have tz : Ug3u0.frozen? ⟨tb, 1, none⟩ = false := HNx.out.tz
        go_wp2
        go_roundg (n - (k + 1))
        case measure => omega
        case rel => exact ⟨_, k + 1, HNx.out.next.1, HNx.out.next.2, HNx.out.em, HNx.out.len, rfl⟩
      · have hnd : decide ((x.m.nd.1, x.m.nd.2) = (x.m.pr.1, x.m.pr.2)) = false := decide_eq_false hnp
        have HNp : Hid (x.m.nd ≠ x.m.pr) := hnp
        clear hnp
        rw [hnd]
        clear hnd
        go_wp2_with fail
        refine wp_region_held_drew (S := fun W' => TrIs F W' tb Q k (.slice (some ⟨g, 0, none⟩) n cap) sb kb) (by kernel_rfl) HT.out.drew (fun hHeld => ?_)
        obtain ⟨Uh4u0, eW⟩ : ∃ X, X = Ug3u0.drew := ⟨_, rfl⟩
        have hb : Below Ug3u0.heap.size Ug3u0 Uh4u0 := by rw [eW]; exact (Below.refl _ _).drew
        replace HT : Hid (TrIs F Uh4u0 tb Q k (.slice (some ⟨g, 0, none⟩) n cap) sb kb) := HT.out.below hb
        replace HTo : Hid (Touch F w Uh4u0) := HTo.out.trans (Touch.of_below (F := fun _ => False) hb) (fun j h => h.elim)
        rw [← eW] at hHeld ⊢
        clear eW hb
        refine tkW 0 (some 47) (v := ?_) ?_ hHeld ?_
        rotate_left
        · (intro w _; go_simp; try with_reducible rfl)
        refine tkW 1 (some 48) (v := ?_) ?_ hHeld ?_
        rotate_left
        · (intro w hSw; (try dsimp only at hSw); have hS := hSw; have t3 := hS.t3; have c2 : w.cell? ⟨g, k * 13 + 2, none⟩ = some (.int .i64 x.m.nd.1) := hS.cellAt HKn.out HX.out 2 _ rfl; have c3 : w.cell? ⟨g, k * 13 + 3, none⟩ = some (.int .i64 x.m.nd.2) := hS.cellAt HKn.out HX.out 3 _ rfl; have hlk : (Instr.lookup 63 (.map (some kb)) (.agg #[.int .i64 x.m.nd.1, .int .i64 x.m.nd.2]) false).run Try.prog w = .ok (.int .i64 (kidsN (doneT ((mvs Q).take k)) x.m.nd)) w := hS.kd.look x.m.nd; go_simp; try with_reducible rfl)
        refine tkW 2 (some 49) (v := ?_) ?_ hHeld ?_
        rotate_left
        · (intro w _; go_simp; try with_reducible rfl)
        refine tkW 3 (some 50) (v := ?_) ?_ hHeld ?_
        rotate_left
        · (intro w hSw; (try dsimp only at hSw); have hS := hSw; have t3 := hS.t3; have c2 : w.cell? ⟨g, k * 13 + 2, none⟩ = some (.int .i64 x.m.nd.1) := hS.cellAt HKn.out HX.out 2 _ rfl; have c3 : w.cell? ⟨g, k * 13 + 3, none⟩ = some (.int .i64 x.m.nd.2) := hS.cellAt HKn.out HX.out 3 _ rfl; have hlk : (Instr.lookup 63 (.map (some kb)) (.agg #[.int .i64 x.m.nd.1, .int .i64 x.m.nd.2]) false).run Try.prog w = .ok (.int .i64 (kidsN (doneT ((mvs Q).take k)) x.m.nd)) w := hS.kd.look x.m.nd; go_simp; try with_reducible rfl)
        refine tkW 4 (some 51) (v := ?_) ?_ hHeld ?_
        rotate_left
        · (intro w _; go_simp; try with_reducible rfl)
        refine tkW 5 (some 52) (v := ?_) ?_ hHeld ?_
        rotate_left
        · (intro w hSw; (try dsimp only at hSw); have hS := hSw; have t3 := hS.t3; have c2 : w.cell? ⟨g, k * 13 + 2, none⟩ = some (.int .i64 x.m.nd.1) := hS.cellAt HKn.out HX.out 2 _ rfl; have c3 : w.cell? ⟨g, k * 13 + 3, none⟩ = some (.int .i64 x.m.nd.2) := hS.cellAt HKn.out HX.out 3 _ rfl; have hlk : (Instr.lookup 63 (.map (some kb)) (.agg #[.int .i64 x.m.nd.1, .int .i64 x.m.nd.2]) false).run Try.prog w = .ok (.int .i64 (kidsN (doneT ((mvs Q).take k)) x.m.nd)) w := hS.kd.look x.m.nd; go_simp; try with_reducible rfl)
        refine tkW 6 (some 53) (v := ?_) ?_ hHeld ?_
        rotate_left
        · (intro w _; go_simp; try with_reducible rfl)
        refine tkW 7 (some 54) (v := ?_) ?_ hHeld ?_
        rotate_left
        · (intro w hSw; (try dsimp only at hSw); have hS := hSw; have t3 := hS.t3; have c2 : w.cell? ⟨g, k * 13 + 2, none⟩ = some (.int .i64 x.m.nd.1) := hS.cellAt HKn.out HX.out 2 _ rfl; have c3 : w.cell? ⟨g, k * 13 + 3, none⟩ = some (.int .i64 x.m.nd.2) := hS.cellAt HKn.out HX.out 3 _ rfl; have hlk : (Instr.lookup 63 (.map (some kb)) (.agg #[.int .i64 x.m.nd.1, .int .i64 x.m.nd.2]) false).run Try.prog w = .ok (.int .i64 (kidsN (doneT ((mvs Q).take k)) x.m.nd)) w := hS.kd.look x.m.nd; go_simp; try with_reducible rfl)
        refine tkW 8 (some 55) (v := ?_) ?_ hHeld ?_
        rotate_left
        · (intro w hSw; (try dsimp only at hSw); have hS := hSw; have t3 := hS.t3; have c2 : w.cell? ⟨g, k * 13 + 2, none⟩ = some (.int .i64 x.m.nd.1) := hS.cellAt HKn.out HX.out 2 _ rfl; have c3 : w.cell? ⟨g, k * 13 + 3, none⟩ = some (.int .i64 x.m.nd.2) := hS.cellAt HKn.out HX.out 3 _ rfl; have hlk : (Instr.lookup 63 (.map (some kb)) (.agg #[.int .i64 x.m.nd.1, .int .i64 x.m.nd.2]) false).run Try.prog w = .ok (.int .i64 (kidsN (doneT ((mvs Q).take k)) x.m.nd)) w := hS.kd.look x.m.nd; go_simp; try with_reducible rfl)
        refine tkW 9 (some 56) (v := ?_) ?_ hHeld ?_
        rotate_left
        · (intro w hSw; (try dsimp only at hSw); have hS := hSw; have t3 := hS.t3; have c2 : w.cell? ⟨g, k * 13 + 2, none⟩ = some (.int .i64 x.m.nd.1) := hS.cellAt HKn.out HX.out 2 _ rfl; have c3 : w.cell? ⟨g, k * 13 + 3, none⟩ = some (.int .i64 x.m.nd.2) := hS.cellAt HKn.out HX.out 3 _ rfl; have hlk : (Instr.lookup 63 (.map (some kb)) (.agg #[.int .i64 x.m.nd.1, .int .i64 x.m.nd.2]) false).run Try.prog w = .ok (.int .i64 (kidsN (doneT ((mvs Q).take k)) x.m.nd)) w := hS.kd.look x.m.nd; go_simp; try with_reducible rfl)
        refine wpAnyH_done (by kernel_rfl) ?_ _
        clear hHeld
        by_cases hkd : 0 < kidsN (doneT ((mvs Q).take k)) x.m.nd
        · have hkd2 : decide (0 < kidsN (doneT ((mvs Q).take k)) x.m.nd) = true := decide_eq_true hkd
          clear hkd
          rw [hkd2]
          clear hkd2
          go_wp2_with fail
          cases hw : whT (doneT ((mvs Q).take k)) x.m.pr with
          | some p =>
            have HW : Hid (whT (doneT ((mvs Q).take k)) x.m.pr = some p) := hw
            obtain ⟨l, hl⟩ := upStart (goodT ((mvs Q).take k)).acy hw
            have HUp : Hid (Up (doneT ((mvs Q).take k)) p.pr l ∧ (x.m.nd ∈ upL (doneT ((mvs Q).take k)) x.m.pr ↔ x.m.nd ∈ p.pr :: l)) := hl x.m.nd
            clear hw hl
            refine wp_region_held_drew (S := fun W' => TrIs F W' tb Q k (.slice (some ⟨g, 0, none⟩) n cap) sb kb) (by kernel_rfl) HT.out.drew (fun hHeld => ?_)
            obtain ⟨Ui5u0, eW⟩ : ∃ X, X = Uh4u0.drew := ⟨_, rfl⟩
            have hb : Below Uh4u0.heap.size Uh4u0 Ui5u0 := by rw [eW]; exact (Below.refl _ _).drew
            replace HT : Hid (TrIs F Ui5u0 tb Q k (.slice (some ⟨g, 0, none⟩) n cap) sb kb) := HT.out.below hb
            replace HTo : Hid (Touch F w Ui5u0) := HTo.out.trans (Touch.of_below (F := fun _ => False) hb) (fun j h => h.elim)
            rw [← eW] at hHeld ⊢
            clear eW hb
            refine tkW 0 (some 58) (v := ?_) ?_ hHeld ?_
            rotate_left
            · (intro w _; go_simp; try with_reducible rfl)
            refine tkW 1 (some 59) (v := ?_) ?_ hHeld ?_
            rotate_left
            · (intro w hSw; (try dsimp only at hSw); have hS := hSw; have t2 := hS.t2; have c4 : w.cell? ⟨g, k * 13 + 4, none⟩ = some (.int .i64 x.m.pr.1) := hS.cellAt HKn.out HX.out 4 _ rfl; have c5 : w.cell? ⟨g, k * 13 + 5, none⟩ = some (.int .i64 x.m.pr.2) := hS.cellAt HKn.out HX.out 5 _ rfl; have hlk : (Instr.lookup 62 (.map (some sb)) (.agg #[.int .i64 x.m.pr.1, .int .i64 x.m.pr.2]) true).run Try.prog w = .ok (.tuple #[plV p, .bool true]) w := (by have h0 := hS.st.look (goodT _).srt x.m.pr; rw [HW.out] at h0; exact h0); go_simp; try with_reducible rfl)
            refine tkW 2 (some 60) (v := ?_) ?_ hHeld ?_
            rotate_left
            · (intro w _; go_simp; try with_reducible rfl)
            refine tkW 3 (some 61) (v := ?_) ?_ hHeld ?_
            rotate_left
            · (intro w hSw; (try dsimp only at hSw); have hS := hSw; have t2 := hS.t2; have c4 : w.cell? ⟨g, k * 13 + 4, none⟩ = some (.int .i64 x.m.pr.1) := hS.cellAt HKn.out HX.out 4 _ rfl; have c5 : w.cell? ⟨g, k * 13 + 5, none⟩ = some (.int .i64 x.m.pr.2) := hS.cellAt HKn.out HX.out 5 _ rfl; have hlk : (Instr.lookup 62 (.map (some sb)) (.agg #[.int .i64 x.m.pr.1, .int .i64 x.m.pr.2]) true).run Try.prog w = .ok (.tuple #[plV p, .bool true]) w := (by have h0 := hS.st.look (goodT _).srt x.m.pr; rw [HW.out] at h0; exact h0); go_simp; try with_reducible rfl)
            refine tkW 4 (some 62) (v := ?_) ?_ hHeld ?_
            rotate_left
            · (intro w _; go_simp; try with_reducible rfl)
            refine tkW 5 (some 63) (v := ?_) ?_ hHeld ?_
            rotate_left
            · (intro w hSw; (try dsimp only at hSw); have hS := hSw; have t2 := hS.t2; have c4 : w.cell? ⟨g, k * 13 + 4, none⟩ = some (.int .i64 x.m.pr.1) := hS.cellAt HKn.out HX.out 4 _ rfl; have c5 : w.cell? ⟨g, k * 13 + 5, none⟩ = some (.int .i64 x.m.pr.2) := hS.cellAt HKn.out HX.out 5 _ rfl; have hlk : (Instr.lookup 62 (.map (some sb)) (.agg #[.int .i64 x.m.pr.1, .int .i64 x.m.pr.2]) true).run Try.prog w = .ok (.tuple #[plV p, .bool true]) w := (by have h0 := hS.st.look (goodT _).srt x.m.pr; rw [HW.out] at h0; exact h0); go_simp; try with_reducible rfl)
            refine tkW 6 (some 64) (v := ?_) ?_ hHeld ?_
            rotate_left
            · (intro w _; go_simp; try with_reducible rfl)
            refine tkW 7 (some 65) (v := ?_) ?_ hHeld ?_
            rotate_left
            · (intro w hSw; (try dsimp only at hSw); have hS := hSw; have t2 := hS.t2; have c4 : w.cell? ⟨g, k * 13 + 4, none⟩ = some (.int .i64 x.m.pr.1) := hS.cellAt HKn.out HX.out 4 _ rfl; have c5 : w.cell? ⟨g, k * 13 + 5, none⟩ = some (.int .i64 x.m.pr.2) := hS.cellAt HKn.out HX.out 5 _ rfl; have hlk : (Instr.lookup 62 (.map (some sb)) (.agg #[.int .i64 x.m.pr.1, .int .i64 x.m.pr.2]) true).run Try.prog w = .ok (.tuple #[plV p, .bool true]) w := (by have h0 := hS.st.look (goodT _).srt x.m.pr; rw [HW.out] at h0; exact h0); go_simp; try with_reducible rfl)
            refine tkW 8 (some 66) (v := ?_) ?_ hHeld ?_
            rotate_left
            · (intro w hSw; (try dsimp only at hSw); have hS := hSw; have t2 := hS.t2; have c4 : w.cell? ⟨g, k * 13 + 4, none⟩ = some (.int .i64 x.m.pr.1) := hS.cellAt HKn.out HX.out 4 _ rfl; have c5 : w.cell? ⟨g, k * 13 + 5, none⟩ = some (.int .i64 x.m.pr.2) := hS.cellAt HKn.out HX.out 5 _ rfl; have hlk : (Instr.lookup 62 (.map (some sb)) (.agg #[.int .i64 x.m.pr.1, .int .i64 x.m.pr.2]) true).run Try.prog w = .ok (.tuple #[plV p, .bool true]) w := (by have h0 := hS.st.look (goodT _).srt x.m.pr; rw [HW.out] at h0; exact h0); go_simp; try with_reducible rfl)
            refine tkW 9 (some 57) (v := ?_) ?_ hHeld ?_
            rotate_left
            · (intro w _; go_simp; try with_reducible rfl)
            refine tkW 10 (some 67) (v := ?_) ?_ hHeld ?_
            rotate_left
            · (intro w _; go_simp; try with_reducible rfl)
            refine tkW 11 (some 68) (v := ?_) ?_ hHeld ?_
            rotate_left
            · (intro w _; go_simp; try with_reducible rfl)
            refine wpAnyH_ready (rs := [12]) (by kernel_rfl) (by simp) ?_
            refine AllReadyH.cons (o := ⟨some 4, _, _, _, _, _⟩) rfl (fun K hK => ?_) AllReadyH.nil
            have HTb : Hid (∀ j, F j → j < Ui5u0.heap.size) := HT.out.lt
            have HWs : Hid (w.heap.size ≤ Ui5u0.heap.size) := HTo.out.size
            have hbx : Below Ui5u0.heap.size Ui5u0 (Ui5u0.alloc (.cells #[.int .i64 0, .int .i64 0, .int .i64 0, .int .i64 0, .int .i64 0, .int .i64 0] 43)) := (Below.refl _ _).alloc (Nat.le_refl _) _
            go_simp
            refine hK.out _ _ (hHeld.below hbx) (fun hHeld2 => ?_)
            clear hK K hHeld
            have hHeld := hHeld2
            clear hHeld2
            (try simp only [Act.put, List.setIfInBounds_toArray, List.set_cons_zero, List.set_cons_succ])
            obtain ⟨Ui5u1, eW⟩ : ∃ X, X = Ui5u0.alloc (.cells #[.int .i64 0, .int .i64 0, .int .i64 0, .int .i64 0, .int .i64 0, .int .i64 0] 43) := ⟨_, rfl⟩
            have hb : Below Ui5u0.heap.size Ui5u0 Ui5u1 := by rw [eW]; exact (Below.refl _ _).alloc (Nat.le_refl _) _
            replace HT : Hid (TrIs F Ui5u1 tb Q k (.slice (some ⟨g, 0, none⟩) n cap) sb kb) := HT.out.below hb
            replace HTo : Hid (Touch F w Ui5u1) := HTo.out.trans (Touch.of_below (F := fun _ => False) hb) (fun j h => h.elim)
            have HZ : Hid (Ui5u1.heap[Ui5u0.heap.size]? = some (.cells #[.int .i64 0, .int .i64 0, .int .i64 0, .int .i64 0, .int .i64 0, .int .i64 0] 43)) := by rw [eW]; exact heap_alloc_new _ _
            rw [← eW] at hHeld ⊢
            clear eW
            clear hbx
            obtain ⟨pb, enb⟩ : ∃ b, b = Ui5u0.heap.size := ⟨_, rfl⟩
            have HPn : Hid (∀ j, F j → j ≠ pb) := fun j hj e => by have := HTb.out j hj; omega
            have HPw : Hid (w.heap.size ≤ pb) := by rw [enb]; exact HWs.out
            rw [← enb] at HZ ⊢
            clear enb
            clear HTb HWs
            clear hb
            refine wpAnyH_ready (rs := [13]) (by kernel_rfl) (by simp) ?_
            refine AllReadyH.cons (o := ⟨none, _, _, _, _, _⟩) rfl (fun K hK => ?_) AllReadyH.nil
            refine step_store_row rfl 43 (.tmp 4) (.tmp 67) rfl pb 43 #[.int .i64 0, .int .i64 0, .int .i64 0, .int .i64 0, .int .i64 0, .int .i64 0] (plCells p).toArray rfl rfl HZ.out sizePlaced rfl (by simp [Value.oneCell', plCells]) ?_
            obtain ⟨Ui5u2, eW⟩ : ∃ Y, Y = Ui5u1.setRow pb (plCells p).toArray := ⟨_, rfl⟩
            have hg9 : Ui5u1.grownBy Ui5u2 (some pb) := by rw [eW]; exact grown_setRow _ _ _
            have HP : Hid (Ui5u2.heap[pb]? = some (.cells (plCells p).toArray 43)) := by rw [eW]; exact setRow_same HZ.out
            rw [← eW]
            replace HT : Hid (TrIs F Ui5u2 tb Q k (.slice (some ⟨g, 0, none⟩) n cap) sb kb) := HT.out.touch (G := fun j => j = pb) (Touch.of_grown hg9 fun j e _ => by cases e; rfl) (fun j hj e => HPn.out j hj e)
            replace HTo : Hid (Touch F w Ui5u2) := HTo.out.trans (Touch.of_grown (F := fun j => j = pb) hg9 fun j e _ => by cases e; rfl) (fun j e => .inr (by rw [e]; exact HPw.out))
            refine hK.out _ _ (HT.out) (fun hHeld2 => ?_)
            clear hK K hHeld
            have hHeld := hHeld2
            clear hHeld2
            (try simp only [Act.put, List.setIfInBounds_toArray, List.set_cons_zero, List.set_cons_succ])
            clear eW hg9 HZ
            refine tkW 14 (some 5) (v := ?_) ?_ hHeld ?_
            rotate_left
            · (intro w _; go_simp; try with_reducible rfl)
            refine wpAnyH_done (by kernel_rfl) ?_ _
            clear hHeld
            go_wp2
            go_loopg [4, 5] (l.length + 1) (fun gk pv ov wq => ∃ (pb : Nat) (p : Pl), pv = .pointer (some ⟨pb, 0, none⟩) ∧ Hid (TrIs F wq tb Q k (.slice (some ⟨g, 0, none⟩) n cap) sb kb) ∧ Hid (Touch F w wq) ∧ Hid (∀ j, F j → j ≠ pb) ∧ Hid (w.heap.size ≤ pb) ∧ Hid (wq.heap[pb]? = some (.cells (plCells p).toArray 43)) ∧ ((∃ l, ov = .bool true ∧ gk = l.length + 1 ∧ Hid (Up (doneT ((mvs Q).take k)) p.pr l ∧ (x.m.nd ∈ upL (doneT ((mvs Q).take k)) x.m.pr ↔ x.m.nd ∈ p.pr :: l))) ∨ (ov = .bool false ∧ gk = 0 ∧ Hid (x.m.nd ∉ upL (doneT ((mvs Q).take k)) x.m.pr))))
            case atStart => exact ⟨pb, p, rfl, HT, HTo, HPn, HPw, HP, .inl ⟨l, rfl, rfl, HUp⟩⟩
            case round =>
              rename World => wq
              clear HT HTo HPn HPw HP HUp HW
              obtain ⟨pb, p, rfl, HT, HTo, HPn, HPw, HP, hcase⟩ := hrel
              rcases hcase with ⟨l, rfl, hgk, HUp⟩ | ⟨rfl, hgk, HNo⟩
              · have HGk : Hid (gk = l.length + 1) := hgk
                clear hgk
                go_wp2
                refine wp_region_held_drew (S := fun W' => TrIs F W' tb Q k (.slice (some ⟨g, 0, none⟩) n cap) sb kb ∧ W'.cell? ⟨pb, 2, none⟩ = some (.int .i64 p.pr.1) ∧ W'.cell? ⟨pb, 3, none⟩ = some (.int .i64 p.pr.2)) (by kernel_rfl) ⟨HT.out.drew, by (show wq.cell? _ = _; rw [cell_of_row wq pb 2 _ _ _ HP.out]; rfl), by (show wq.cell? _ = _; rw [cell_of_row wq pb 3 _ _ _ HP.out]; rfl)⟩ (fun hHeld => ?_)
                obtain ⟨Ur6u0, eW⟩ : ∃ X, X = wq.drew := ⟨_, rfl⟩
                have hb : Below wq.heap.size wq Ur6u0 := by rw [eW]; exact (Below.refl _ _).drew
                replace HT : Hid (TrIs F Ur6u0 tb Q k (.slice (some ⟨g, 0, none⟩) n cap) sb kb) := HT.out.below hb
                replace HTo : Hid (Touch F w Ur6u0) := HTo.out.trans (Touch.of_below (F := fun _ => False) hb) (fun j h => h.elim)
                replace HP : Hid (Ur6u0.heap[pb]? = some (.cells (plCells p).toArray 43)) := (hb.block _ (row_lt HP.out)).trans HP.out
                rw [← eW] at hHeld ⊢
                clear eW hb
                refine tkW 0 (some 80) (v := ?_) ?_ hHeld ?_
                rotate_left
                · (intro w _; go_simp; try with_reducible rfl)
                refine tkW 1 (some 81) (v := ?_) ?_ hHeld ?_
                rotate_left
                · (intro w hSw; (try dsimp only at hSw); have hS := hSw; have c2 : w.cell? ⟨g, k * 13 + 2, none⟩ = some (.int .i64 x.m.nd.1) := hS.1.cellAt HKn.out HX.out 2 _ rfl; have c3 : w.cell? ⟨g, k * 13 + 3, none⟩ = some (.int .i64 x.m.nd.2) := hS.1.cellAt HKn.out HX.out 3 _ rfl; have q2 : w.cell? ⟨pb, 2, none⟩ = some (.int .i64 p.pr.1) := hS.2.1; have q3 : w.cell? ⟨pb, 3, none⟩ = some (.int .i64 p.pr.2) := hS.2.2; go_simp; try with_reducible rfl)
                refine tkW 2 (some 82) (v := ?_) ?_ hHeld ?_
                rotate_left
                · (intro w _; go_simp; try with_reducible rfl)
                refine tkW 3 (some 83) (v := ?_) ?_ hHeld ?_
                rotate_left
                · (intro w hSw; (try dsimp only at hSw); have hS := hSw; have c2 : w.cell? ⟨g, k * 13 + 2, none⟩ = some (.int .i64 x.m.nd.1) := hS.1.cellAt HKn.out HX.out 2 _ rfl; have c3 : w.cell? ⟨g, k * 13 + 3, none⟩ = some (.int .i64 x.m.nd.2) := hS.1.cellAt HKn.out HX.out 3 _ rfl; have q2 : w.cell? ⟨pb, 2, none⟩ = some (.int .i64 p.pr.1) := hS.2.1; have q3 : w.cell? ⟨pb, 3, none⟩ = some (.int .i64 p.pr.2) := hS.2.2; go_simp; try with_reducible rfl)
                refine tkW 4 (some 84) (v := ?_) ?_ hHeld ?_
                rotate_left
                · (intro w _; go_simp; try with_reducible rfl)
                refine tkW 5 (some 85) (v := ?_) ?_ hHeld ?_
                rotate_left
                · (intro w hSw; (try dsimp only at hSw); have hS := hSw; have c2 : w.cell? ⟨g, k * 13 + 2, none⟩ = some (.int .i64 x.m.nd.1) := hS.1.cellAt HKn.out HX.out 2 _ rfl; have c3 : w.cell? ⟨g, k * 13 + 3, none⟩ = some (.int .i64 x.m.nd.2) := hS.1.cellAt HKn.out HX.out 3 _ rfl; have q2 : w.cell? ⟨pb, 2, none⟩ = some (.int .i64 p.pr.1) := hS.2.1; have q3 : w.cell? ⟨pb, 3, none⟩ = some (.int .i64 p.pr.2) := hS.2.2; go_simp; try with_reducible rfl)
                refine tkW 6 (some 86) (v := .bool (decide ((p.pr.1, p.pr.2) = (x.m.nd.1, x.m.nd.2)))) ?_ hHeld ?_
                · (intro w hSw; (try dsimp only at hSw); have hS := hSw; have c2 : w.cell? ⟨g, k * 13 + 2, none⟩ = some (.int .i64 x.m.nd.1) := hS.1.cellAt HKn.out HX.out 2 _ rfl; have c3 : w.cell? ⟨g, k * 13 + 3, none⟩ = some (.int .i64 x.m.nd.2) := hS.1.cellAt HKn.out HX.out 3 _ rfl; have q2 : w.cell? ⟨pb, 2, none⟩ = some (.int .i64 p.pr.1) := hS.2.1; have q3 : w.cell? ⟨pb, 3, none⟩ = some (.int .i64 p.pr.2) := hS.2.2; go_simp; by_cases e1 : p.pr.1 = x.m.nd.1 <;> by_cases e2 : p.pr.2 = x.m.nd.2 <;> simp [e1, e2])
                refine wpAnyH_done (by kernel_rfl) ?_ _
                clear hHeld
                by_cases hpn : p.pr = x.m.nd
                · have hpd : decide ((p.pr.1, p.pr.2) = (x.m.nd.1, x.m.nd.2)) = true := decide_eq_true hpn
                  have HNc : Hid (cntB (doneT ((mvs Q).take k)) x.m = false) := cntB_no (HUp.out.2.2 (by rw [hpn]; exact List.mem_cons_self ..))
                  clear hpn
                  rw [hpd]
                  clear hpd
                  have HNx : Hid (NxT F w tb (mvs R) k n (.slice (some ⟨g, 0, none⟩) n cap) sb kb Q Ur6u0) := NxT.of_skip HEm.out HLen.out HT.out HTo.out HKn.out HX.out HC0.out HNc.out
                  have t1 : Ur6u0.cell? ⟨tb, 1, none⟩ = some (.int .i64 (k : Int)) := HNx.out.t1
                  have tz : Ur6u0.frozen? ⟨tb, 1, none⟩ = false := HNx.out.tz
                  go_wp2
                  go_roundg (n - (k + 1))
                  case measure => omega
                  case rel => exact ⟨_, k + 1, HNx.out.next.1, HNx.out.next.2, HNx.out.em, HNx.out.len, rfl⟩
                · have hpd : decide ((p.pr.1, p.pr.2) = (x.m.nd.1, x.m.nd.2)) = false := decide_eq_false hpn
                  have HPm : Hid (p.pr ≠ x.m.nd) := hpn
                  clear hpn
                  rw [hpd]
                  clear hpd
                  have p0 : Ur6u0.cell? ⟨pb, 0, none⟩ = some (.int .i64 p.nd.1) := by rw [cell_of_row Ur6u0 pb 0 _ _ _ HP.out]; rfl
                  have p1 : Ur6u0.cell? ⟨pb, 1, none⟩ = some (.int .i64 p.nd.2) := by rw [cell_of_row Ur6u0 pb 1 _ _ _ HP.out]; rfl
                  have p2 : Ur6u0.cell? ⟨pb, 2, none⟩ = some (.int .i64 p.pr.1) := by rw [cell_of_row Ur6u0 pb 2 _ _ _ HP.out]; rfl
                  have p3 : Ur6u0.cell? ⟨pb, 3, none⟩ = some (.int .i64 p.pr.2) := by rw [cell_of_row Ur6u0 pb 3 _ _ _ HP.out]; rfl
                  have p4 : Ur6u0.cell? ⟨pb, 4, none⟩ = some (.int .i64 p.sl.1) := by rw [cell_of_row Ur6u0 pb 4 _ _ _ HP.out]; rfl
                  have p5 : Ur6u0.cell? ⟨pb, 5, none⟩ = some (.int .i64 p.sl.2) := by rw [cell_of_row Ur6u0 pb 5 _ _ _ HP.out]; rfl
                  obtain ⟨W5, eW5⟩ : ∃ W5, W5 = (Ur6u0.alloc (.cells #[.int .i64 0, .int .i64 0, .int .i64 0, .int .i64 0, .int .i64 0, .int .i64 0] 43)).setRow Ur6u0.heap.size (plCells p).toArray := ⟨_, rfl⟩
                  have hb5 : Below Ur6u0.heap.size Ur6u0 W5 := by rw [eW5]; exact below_setRow ((Below.refl _ _).alloc (Nat.le_refl _) _) (Nat.le_refl _) _
                  have HP5 : Hid (W5.heap[Ur6u0.heap.size]? = some (.cells (plCells p).toArray 43)) := by rw [eW5]; exact setRow_same (heap_alloc_new Ur6u0 _)
                  have HT5 : Hid (TrIs F W5 tb Q k (.slice (some ⟨g, 0, none⟩) n cap) sb kb) := HT.out.below hb5
                  have HTo5 : Hid (Touch F w W5) := HTo.out.trans (Touch.of_below (F := fun _ => False) hb5) (fun j h => h.elim)
                  have HPn5 : Hid (∀ j, F j → j ≠ Ur6u0.heap.size) := fun j hj e => by have := HT.out.lt j hj; omega
                  have HPw5 : Hid (w.heap.size ≤ Ur6u0.heap.size) := HTo.out.size
                  clear hb5
                  go_wp2_with (first | (refine wpList_store_row rfl 43 (.tmp 4) (.tmp 87) rfl _ 43 #[.int .i64 0, .int .i64 0, .int .i64 0, .int .i64 0, .int .i64 0, .int .i64 0] (plCells p).toArray rfl rfl (heap_alloc_new _ _) sizePlaced rfl (by simp [Value.oneCell', plCells]) ?_) | fail)
                  rw [← eW5]
                  clear eW5 p0 p1 p2 p3 p4 p5 HT HTo HP HPn HPw
                  obtain ⟨pc, epc⟩ : ∃ b, b = Ur6u0.heap.size := ⟨_, rfl⟩
                  rw [← epc] at HP5 HPn5 HPw5 ⊢
                  clear epc
                  cases hw2 : whT (doneT ((mvs Q).take k)) p.pr with
                  | some p2 =>
                    have HW2 : Hid (whT (doneT ((mvs Q).take k)) p.pr = some p2) := hw2
                    obtain ⟨l2, hl2⟩ := upStep HUp.out hw2 HPm.out
                    have HL2 : Hid (l = p2.pr :: l2 ∧ Hid (Up (doneT ((mvs Q).take k)) p2.pr l2 ∧ (x.m.nd ∈ upL (doneT ((mvs Q).take k)) x.m.pr ↔ x.m.nd ∈ p2.pr :: l2))) := hl2
                    clear hw2 hl2
                    refine wp_region_held_drew (S := fun W' => TrIs F W' tb Q k (.slice (some ⟨g, 0, none⟩) n cap) sb kb) (by kernel_rfl) HT5.out.drew (fun hHeld => ?_)
                    obtain ⟨Us7u0, eW⟩ : ∃ X, X = W5.drew := ⟨_, rfl⟩
                    have hb : Below W5.heap.size W5 Us7u0 := by rw [eW]; exact (Below.refl _ _).drew
                    replace HP5 : Hid (Us7u0.heap[pc]? = some (.cells (plCells p).toArray 43)) := (hb.block _ (row_lt HP5.out)).trans HP5.out
                    replace HTo5 : Hid (Touch F w Us7u0) := HTo5.out.trans (Touch.of_below (F := fun _ => False) hb) (fun j h => h.elim)
                    rw [← eW] at hHeld ⊢
                    clear eW hb
                    refine tkW 0 (some 71) (v := ?_) ?_ hHeld ?_
                    rotate_left
                    · (intro w _; go_simp; try with_reducible rfl)
                    refine tkW 1 (some 72) (v := ?_) ?_ hHeld ?_
                    rotate_left
                    · (intro w hSw; (try dsimp only at hSw); have hS := hSw; have t2 := hS.t2; have hlk : (Instr.lookup 62 (.map (some sb)) (.agg #[.int .i64 p.pr.1, .int .i64 p.pr.2]) true).run Try.prog w = .ok (.tuple #[plV p2, .bool true]) w := (by have h0 := hS.st.look (goodT _).srt p.pr; rw [HW2.out] at h0; exact h0); go_simp; try with_reducible rfl)
                    refine tkW 2 (some 73) (v := ?_) ?_ hHeld ?_
                    rotate_left
                    · (intro w _; go_simp; try with_reducible rfl)
                    refine tkW 3 (some 74) (v := ?_) ?_ hHeld ?_
                    rotate_left
                    · (intro w hSw; (try dsimp only at hSw); have hS := hSw; have t2 := hS.t2; have hlk : (Instr.lookup 62 (.map (some sb)) (.agg #[.int .i64 p.pr.1, .int .i64 p.pr.2]) true).run Try.prog w = .ok (.tuple #[plV p2, .bool true]) w := (by have h0 := hS.st.look (goodT _).srt p.pr; rw [HW2.out] at h0; exact h0); go_simp; try with_reducible rfl)
                    refine tkW 4 (some 75) (v := ?_) ?_ hHeld ?_
                    rotate_left
                    · (intro w _; go_simp; try with_reducible rfl)
                    refine wpAnyH_ready (rs := [5]) (by kernel_rfl) (by simp) ?_
                    refine AllReadyH.cons (o := ⟨some 76, _, _, _, _, _⟩) rfl (fun K hK => ?_) AllReadyH.nil
                    have q2 : Us7u0.cell? ⟨pc, 2, none⟩ = some (.int .i64 p.pr.1) := by rw [cell_of_row Us7u0 pc 2 _ _ _ HP5.out]; rfl
                    have q3 : Us7u0.cell? ⟨pc, 3, none⟩ = some (.int .i64 p.pr.2) := by rw [cell_of_row Us7u0 pc 3 _ _ _ HP5.out]; rfl
                    go_simp
                    refine hK.out _ _ (hHeld) (fun hHeld2 => ?_)
                    clear hK K hHeld
                    have hHeld := hHeld2
                    clear hHeld2
                    (try simp only [Act.put, List.setIfInBounds_toArray, List.set_cons_zero, List.set_cons_succ])
                    clear q2 q3
                    refine tkW 6 (some 77) (v := ?_) ?_ hHeld ?_
                    rotate_left
                    · (intro w hSw; (try dsimp only at hSw); have hS := hSw; have t2 := hS.t2; have hlk : (Instr.lookup 62 (.map (some sb)) (.agg #[.int .i64 p.pr.1, .int .i64 p.pr.2]) true).run Try.prog w = .ok (.tuple #[plV p2, .bool true]) w := (by have h0 := hS.st.look (goodT _).srt p.pr; rw [HW2.out] at h0; exact h0); go_simp; try with_reducible rfl)
                    refine tkW 7 (some 70) (v := ?_) ?_ hHeld ?_
                    rotate_left
                    · (intro w _; go_simp; try with_reducible rfl)
                    refine tkW 8 (some 78) (v := ?_) ?_ hHeld ?_
                    rotate_left
                    · (intro w _; go_simp; try with_reducible rfl)
                    refine tkW 9 (some 79) (v := ?_) ?_ hHeld ?_
                    rotate_left
                    · (intro w _; go_simp; try with_reducible rfl)
                    refine wpAnyH_ready (rs := [10]) (by kernel_rfl) (by simp) ?_
                    refine AllReadyH.cons (o := ⟨none, _, _, _, _, _⟩) rfl (fun K hK => ?_) AllReadyH.nil
                    refine step_store_row rfl 43 (.tmp 4) (.tmp 78) rfl pc 43 (plCells p).toArray (plCells p2).toArray rfl rfl HP5.out sizePlaced rfl (by simp [Value.oneCell', plCells]) ?_
                    obtain ⟨Us7u2, eW⟩ : ∃ Y, Y = Us7u0.setRow pc (plCells p2).toArray := ⟨_, rfl⟩
                    have hg9 : Us7u0.grownBy Us7u2 (some pc) := by rw [eW]; exact grown_setRow _ _ _
                    have HP6 : Hid (Us7u2.heap[pc]? = some (.cells (plCells p2).toArray 43)) := by rw [eW]; exact setRow_same HP5.out
                    rw [← eW]
                    have HT6 : Hid (TrIs F Us7u2 tb Q k (.slice (some ⟨g, 0, none⟩) n cap) sb kb) := hHeld.touch (G := fun j => j = pc) (Touch.of_grown hg9 fun j e _ => by cases e; rfl) (fun j hj e => HPn5.out j hj e)
                    have HTo6 : Hid (Touch F w Us7u2) := HTo5.out.trans (Touch.of_grown (F := fun j => j = pc) hg9 fun j e _ => by cases e; rfl) (fun j e => .inr (by rw [e]; exact HPw5.out))
                    refine hK.out _ _ (HT6.out) (fun hHeld2 => ?_)
                    clear hK K hHeld
                    have hHeld := hHeld2
                    clear hHeld2
                    (try simp only [Act.put, List.setIfInBounds_toArray, List.set_cons_zero, List.set_cons_succ])
                    clear eW hg9 HP5 HTo5
                    refine tkW 11 (some 5) (v := ?_) ?_ hHeld ?_
                    rotate_left
                    · (intro w _; go_simp; try with_reducible rfl)
                    refine wpAnyH_done (by kernel_rfl) ?_ _
                    clear hHeld
                    go_wp2
                    go_roundg (l2.length + 1)
                    case measure => rw [HGk.out, HL2.out.1]; simp
                    case rel => exact ⟨pc, p2, rfl, HT6, HTo6, HPn5, HPw5, HP6, .inl ⟨l2, rfl, rfl, HL2.out.2⟩⟩
                  | none =>
                    have HW2 : Hid (whT (doneT ((mvs Q).take k)) p.pr = none) := hw2
                    have HNo : Hid (x.m.nd ∉ upL (doneT ((mvs Q).take k)) x.m.pr) := upTop HUp.out hw2 HPm.out
                    clear hw2
                    refine wp_region_held_drew (S := fun W' => TrIs F W' tb Q k (.slice (some ⟨g, 0, none⟩) n cap) sb kb) (by kernel_rfl) HT5.out.drew (fun hHeld => ?_)
                    obtain ⟨Us8u0, eW⟩ : ∃ X, X = W5.drew := ⟨_, rfl⟩
                    have hb : Below W5.heap.size W5 Us8u0 := by rw [eW]; exact (Below.refl _ _).drew
                    replace HP5 : Hid (Us8u0.heap[pc]? = some (.cells (plCells p).toArray 43)) := (hb.block _ (row_lt HP5.out)).trans HP5.out
                    replace HTo5 : Hid (Touch F w Us8u0) := HTo5.out.trans (Touch.of_below (F := fun _ => False) hb) (fun j h => h.elim)
                    rw [← eW] at hHeld ⊢
                    clear eW hb
                    refine tkW 0 (some 71) (v := ?_) ?_ hHeld ?_
                    rotate_left
                    · (intro w _; go_simp; try with_reducible rfl)
                    refine tkW 1 (some 72) (v := ?_) ?_ hHeld ?_
                    rotate_left
                    · (intro w hSw; (try dsimp only at hSw); have hS := hSw; have t2 := hS.t2; have hlk : (Instr.lookup 62 (.map (some sb)) (.agg #[.int .i64 p.pr.1, .int .i64 p.pr.2]) true).run Try.prog w = .ok (.tuple #[plV zeroPl, .bool false]) w := (by have h0 := hS.st.look (goodT _).srt p.pr; rw [HW2.out] at h0; exact h0); go_simp; try with_reducible rfl)
                    refine tkW 2 (some 73) (v := ?_) ?_ hHeld ?_
                    rotate_left
                    · (intro w _; go_simp; try with_reducible rfl)
                    refine tkW 3 (some 74) (v := ?_) ?_ hHeld ?_
                    rotate_left
                    · (intro w hSw; (try dsimp only at hSw); have hS := hSw; have t2 := hS.t2; have hlk : (Instr.lookup 62 (.map (some sb)) (.agg #[.int .i64 p.pr.1, .int .i64 p.pr.2]) true).run Try.prog w = .ok (.tuple #[plV zeroPl, .bool false]) w := (by have h0 := hS.st.look (goodT _).srt p.pr; rw [HW2.out] at h0; exact h0); go_simp; try with_reducible rfl)
                    refine tkW 4 (some 75) (v := ?_) ?_ hHeld ?_
                    rotate_left
                    · (intro w _; go_simp; try with_reducible rfl)
                    refine wpAnyH_ready (rs := [5]) (by kernel_rfl) (by simp) ?_
                    refine AllReadyH.cons (o := ⟨some 76, _, _, _, _, _⟩) rfl (fun K hK => ?_) AllReadyH.nil
                    have q2 : Us8u0.cell? ⟨pc, 2, none⟩ = some (.int .i64 p.pr.1) := by rw [cell_of_row Us8u0 pc 2 _ _ _ HP5.out]; rfl
                    have q3 : Us8u0.cell? ⟨pc, 3, none⟩ = some (.int .i64 p.pr.2) := by rw [cell_of_row Us8u0 pc 3 _ _ _ HP5.out]; rfl
                    go_simp
                    refine hK.out _ _ (hHeld) (fun hHeld2 => ?_)
                    clear hK K hHeld
                    have hHeld := hHeld2
                    clear hHeld2
                    (try simp only [Act.put, List.setIfInBounds_toArray, List.set_cons_zero, List.set_cons_succ])
                    clear q2 q3
                    refine tkW 6 (some 77) (v := ?_) ?_ hHeld ?_
                    rotate_left
                    · (intro w hSw; (try dsimp only at hSw); have hS := hSw; have t2 := hS.t2; have hlk : (Instr.lookup 62 (.map (some sb)) (.agg #[.int .i64 p.pr.1, .int .i64 p.pr.2]) true).run Try.prog w = .ok (.tuple #[plV zeroPl, .bool false]) w := (by have h0 := hS.st.look (goodT _).srt p.pr; rw [HW2.out] at h0; exact h0); go_simp; try with_reducible rfl)
                    refine tkW 7 (some 70) (v := ?_) ?_ hHeld ?_
                    rotate_left
                    · (intro w _; go_simp; try with_reducible rfl)
                    refine tkW 8 (some 78) (v := ?_) ?_ hHeld ?_
                    rotate_left
                    · (intro w _; go_simp; try with_reducible rfl)
                    refine tkW 9 (some 79) (v := ?_) ?_ hHeld ?_
                    rotate_left
                    · (intro w _; go_simp; try with_reducible rfl)
                    refine wpAnyH_ready (rs := [10]) (by kernel_rfl) (by simp) ?_
                    refine AllReadyH.cons (o := ⟨none, _, _, _, _, _⟩) rfl (fun K hK => ?_) AllReadyH.nil
                    refine step_store_row rfl 43 (.tmp 4) (.tmp 78) rfl pc 43 (plCells p).toArray (plCells zeroPl).toArray rfl rfl HP5.out sizePlaced rfl (by simp [Value.oneCell', plCells]) ?_
                    obtain ⟨Us8u2, eW⟩ : ∃ Y, Y = Us8u0.setRow pc (plCells zeroPl).toArray := ⟨_, rfl⟩
                    have hg9 : Us8u0.grownBy Us8u2 (some pc) := by rw [eW]; exact grown_setRow _ _ _
                    have HP6 : Hid (Us8u2.heap[pc]? = some (.cells (plCells zeroPl).toArray 43)) := by rw [eW]; exact setRow_same HP5.out
                    rw [← eW]
                    have HT6 : Hid (TrIs F Us8u2 tb Q k (.slice (some ⟨g, 0, none⟩) n cap) sb kb) := hHeld.touch (G := fun j => j = pc) (Touch.of_grown hg9 fun j e _ => by cases e; rfl) (fun j hj e => HPn5.out j hj e)
                    have HTo6 : Hid (Touch F w Us8u2) := HTo5.out.trans (Touch.of_grown (F := fun j => j = pc) hg9 fun j e _ => by cases e; rfl) (fun j e => .inr (by rw [e]; exact HPw5.out))
                    refine hK.out _ _ (HT6.out) (fun hHeld2 => ?_)
                    clear hK K hHeld
                    have hHeld := hHeld2
                    clear hHeld2
                    (try simp only [Act.put, List.setIfInBounds_toArray, List.set_cons_zero, List.set_cons_succ])
                    clear eW hg9 HP5 HTo5
                    refine tkW 11 (some 5) (v := ?_) ?_ hHeld ?_
                    rotate_left
                    · (intro w _; go_simp; try with_reducible rfl)
                    refine wpAnyH_done (by kernel_rfl) ?_ _
                    clear hHeld
                    go_wp2
                    go_roundg 0
                    case measure => rw [HGk.out]; omega
                    case rel => exact ⟨pc, zeroPl, rfl, HT6, HTo6, HPn5, HPw5, HP6, .inr ⟨rfl, rfl, HNo⟩⟩
              · clear hgk HPn HPw HP
                have HCt : Hid (cntB (doneT ((mvs Q).take k)) x.m = true) := cntB_yes HNp.out HNo.out
                go_wp2
                obtain ⟨q, eq⟩ : ∃ q, q = (whT (doneT ((mvs Q).take k)) x.m.nd).getD zeroPl := ⟨_, rfl⟩
                have HQv : Hid (q = (whT (doneT ((mvs Q).take k)) x.m.nd).getD zeroPl) := eq
                clear eq
                go_wp2_with fail
                refine wp_region_held_drew (S := fun W' => CtS tb g k x sb (doneT ((mvs Q).take k)) W') (by kernel_rfl) (CtS.of (Q := Q) HT.out HX.out rfl rfl).drew (fun hHeld => ?_)
                obtain ⟨Up9u0, eW⟩ : ∃ X, X = wq.drew := ⟨_, rfl⟩
                have hb : Below wq.heap.size wq Up9u0 := by rw [eW]; exact (Below.refl _ _).drew
                replace HT : Hid (TrIs F Up9u0 tb Q k (.slice (some ⟨g, 0, none⟩) n cap) sb kb) := HT.out.below hb
                replace HTo : Hid (Touch F w Up9u0) := HTo.out.trans (Touch.of_below (F := fun _ => False) hb) (fun j h => h.elim)
                rw [← eW] at hHeld ⊢
                clear eW hb
                refine tkW 0 (some 88) (v := ?_) ?_ hHeld ?_
                rotate_left
                · (intro w _; go_simp; try with_reducible rfl)
                refine tkW 1 (some 89) (v := ?_) ?_ hHeld ?_
                rotate_left
                · (intro w _; go_simp; try with_reducible rfl)
                refine tkW 2 (some 90) (v := ?_) ?_ hHeld ?_
                rotate_left
                · (intro w _; go_simp; try with_reducible rfl)
                refine tkW 3 (some 91) (v := ?_) ?_ hHeld ?_
                rotate_left
                · (intro w hSw; (try dsimp only at hSw); have hS := hSw; have t2 := hS.t2; have c2 := hS.c2; have c3 := hS.c3; have hlk : (Instr.lookup 62 (.map (some sb)) (.agg #[.int .i64 x.m.nd.1, .int .i64 x.m.nd.2]) false).run Try.prog w = .ok (plV q) w := (by have h0 := hS.sm.look1 (goodT _).srt x.m.nd; rw [← HQv.out] at h0; exact h0); go_simp; try with_reducible rfl)
                refine tkW 4 (some 92) (v := ?_) ?_ hHeld ?_
                rotate_left
                · (intro w _; go_simp; try with_reducible rfl)
                refine tkW 5 (some 93) (v := ?_) ?_ hHeld ?_
                rotate_left
                · (intro w hSw; (try dsimp only at hSw); have hS := hSw; have t2 := hS.t2; have c2 := hS.c2; have c3 := hS.c3; have hlk : (Instr.lookup 62 (.map (some sb)) (.agg #[.int .i64 x.m.nd.1, .int .i64 x.m.nd.2]) false).run Try.prog w = .ok (plV q) w := (by have h0 := hS.sm.look1 (goodT _).srt x.m.nd; rw [← HQv.out] at h0; exact h0); go_simp; try with_reducible rfl)
                refine tkW 6 (some 94) (v := ?_) ?_ hHeld ?_
                rotate_left
                · (intro w _; go_simp; try with_reducible rfl)
                refine tkW 7 (some 95) (v := ?_) ?_ hHeld ?_
                rotate_left
                · (intro w hSw; (try dsimp only at hSw); have hS := hSw; have t2 := hS.t2; have c2 := hS.c2; have c3 := hS.c3; have hlk : (Instr.lookup 62 (.map (some sb)) (.agg #[.int .i64 x.m.nd.1, .int .i64 x.m.nd.2]) false).run Try.prog w = .ok (plV q) w := (by have h0 := hS.sm.look1 (goodT _).srt x.m.nd; rw [← HQv.out] at h0; exact h0); go_simp; try with_reducible rfl)
                refine tkW 8 (some 96) (v := ?_) ?_ hHeld ?_
                rotate_left
                · (intro w _; go_simp; try with_reducible rfl)
                refine tkW 9 (some 97) (v := ?_) ?_ hHeld ?_
                rotate_left
                · (intro w hSw; (try dsimp only at hSw); have hS := hSw; have t2 := hS.t2; have c2 := hS.c2; have c3 := hS.c3; have hlk : (Instr.lookup 62 (.map (some sb)) (.agg #[.int .i64 x.m.nd.1, .int .i64 x.m.nd.2]) false).run Try.prog w = .ok (plV q) w := (by have h0 := hS.sm.look1 (goodT _).srt x.m.nd; rw [← HQv.out] at h0; exact h0); go_simp; try with_reducible rfl)
                refine tkW 10 (some 98) (v := ?_) ?_ hHeld ?_
                rotate_left
                · (intro w hSw; (try dsimp only at hSw); have hS := hSw; have t2 := hS.t2; have c2 := hS.c2; have c3 := hS.c3; have hlk : (Instr.lookup 62 (.map (some sb)) (.agg #[.int .i64 x.m.nd.1, .int .i64 x.m.nd.2]) false).run Try.prog w = .ok (plV q) w := (by have h0 := hS.sm.look1 (goodT _).srt x.m.nd; rw [← HQv.out] at h0; exact h0); go_simp; try with_reducible rfl)
                refine tkW 11 (some 99) (v := ?_) ?_ hHeld ?_
                rotate_left
                · (intro w hSw; (try dsimp only at hSw); have hS := hSw; have t2 := hS.t2; have c2 := hS.c2; have c3 := hS.c3; have hlk : (Instr.lookup 62 (.map (some sb)) (.agg #[.int .i64 x.m.nd.1, .int .i64 x.m.nd.2]) false).run Try.prog w = .ok (plV q) w := (by have h0 := hS.sm.look1 (goodT _).srt x.m.nd; rw [← HQv.out] at h0; exact h0); go_simp; try with_reducible rfl)
                refine tkW 12 (some 100) (v := ?_) ?_ hHeld ?_
                rotate_left
                · (intro w _; go_simp; try with_reducible rfl)
                refine wpAnyH_ready (rs := [13]) (by kernel_rfl) (by simp) ?_
                refine AllReadyH.cons (o := ⟨none, _, _, _, _, _⟩) rfl (fun K hK => ?_) AllReadyH.nil
                obtain ⟨Up9u1, eW⟩ : ∃ Y, Y = Up9u0.setCells g (k * 13 + 6) [.bool true] := ⟨_, rfl⟩
                obtain ⟨h9, hg9⟩ := HT.out.over2 HKn.out HX.out (Nat.le_refl _) ⟨x.m, true, x.fr⟩ rfl 6 [.bool true] (by decide) rfl
                rw [← eW] at h9 hg9
                have HX1 : Hid ((Q.set k ⟨x.m, true, x.fr⟩)[k]? = some ⟨x.m, true, x.fr⟩) := List.getElem?_set_self HKn.out
                have HT1 : Hid (TrIs F Up9u1 tb (Q.set k ⟨x.m, true, x.fr⟩) k (.slice (some ⟨g, 0, none⟩) n cap) sb kb) := h9
                have HTo1 : Hid (Touch F w Up9u1) := HTo.out.trans (Touch.of_grown hg9 (fun j e _ => by cases e; exact HFg.out)) (fun j hj => .inl hj)
                have hS2 : CtS tb g k x sb (doneT ((mvs Q).take k)) Up9u1 := CtS.of (x := x) (Q := Q) h9 HX1.out rfl (mvs_set _ HKn.out (getx (x := x) HX.out))
                clear h9 hg9
                have hc6 := HT.out.cellAt HKn.out HX.out 6 _ rfl
                have hz6 := HT.out.fz (k * 13 + 6)
                have eW2 : Up9u1 = Up9u0.setCell ⟨g, k * 13 + 6, none⟩ (.bool true) := eW
                go_simp
                rw [← eW2]
                refine hK.out _ _ (hS2) (fun hHeld2 => ?_)
                clear hK K hHeld
                have hHeld := hHeld2
                clear hHeld2
                (try simp only [Act.put, List.setIfInBounds_toArray, List.set_cons_zero, List.set_cons_succ])
                clear eW eW2 hS2 HT HTo hc6 hz6
                refine tkW 14 (some 101) (v := ?_) ?_ hHeld ?_
                rotate_left
                · (intro w hSw; (try dsimp only at hSw); have hS := hSw; have t2 := hS.t2; have c2 := hS.c2; have c3 := hS.c3; have hlk : (Instr.lookup 62 (.map (some sb)) (.agg #[.int .i64 x.m.nd.1, .int .i64 x.m.nd.2]) false).run Try.prog w = .ok (plV q) w := (by have h0 := hS.sm.look1 (goodT _).srt x.m.nd; rw [← HQv.out] at h0; exact h0); go_simp; try with_reducible rfl)
                refine tkW 15 (some 102) (v := ?_) ?_ hHeld ?_
                rotate_left
                · (intro w _; go_simp; try with_reducible rfl)
                refine wpAnyH_ready (rs := [16]) (by kernel_rfl) (by simp) ?_
                refine AllReadyH.cons (o := ⟨none, _, _, _, _, _⟩) rfl (fun K hK => ?_) AllReadyH.nil
                obtain ⟨Up9u2, eW⟩ : ∃ Y, Y = Up9u1.setCells g (k * 13 + 7) (plCells q) := ⟨_, rfl⟩
                obtain ⟨h9, hg9⟩ := HT1.out.over2 (by rw [List.length_set]; exact HKn.out) HX1.out (Nat.le_refl _) ⟨x.m, true, q⟩ rfl 7 (plCells q) (Nat.le_refl 13) rfl
                rw [List.set_set] at h9
                rw [← eW] at h9 hg9
                have HX2 : Hid ((Q.set k ⟨x.m, true, q⟩)[k]? = some ⟨x.m, true, q⟩) := List.getElem?_set_self HKn.out
                have HT2 : Hid (TrIs F Up9u2 tb (Q.set k ⟨x.m, true, q⟩) k (.slice (some ⟨g, 0, none⟩) n cap) sb kb) := h9
                have HTo2 : Hid (Touch F w Up9u2) := HTo1.out.trans (Touch.of_grown hg9 (fun j e _ => by cases e; exact HFg.out)) (fun j hj => .inl hj)
                have hS2 : CtS tb g k x sb (doneT ((mvs Q).take k)) Up9u2 := CtS.of (x := x) (Q := Q) h9 HX2.out rfl (mvs_set _ HKn.out (getx (x := x) HX.out))
                clear h9 hg9
                refine step_store_mid rfl 43 (.tmp 102) (.tmp 98) rfl g (k * 13 + 7) (plCells q).toArray rfl rfl (HT1.out.there (by rw [List.length_set]; exact HKn.out) 7 6 (by decide)) sizePlaced (by simp [Value.oneCell', plCells]) ?_
                rw [← eW]
                refine hK.out _ _ (hS2) (fun hHeld2 => ?_)
                clear hK K hHeld
                have hHeld := hHeld2
                clear hHeld2
                (try simp only [Act.put, List.setIfInBounds_toArray, List.set_cons_zero, List.set_cons_succ])
                clear eW hS2 HT1 HTo1 HX1
                refine wpAnyH_done (by kernel_rfl) ?_ _
                clear hHeld
                go_wp2_with fail
                refine wp_region_held_drew (S := fun W' => CmS g k x W') (by kernel_rfl) (CmS.of (x := x) (Q := Q.set k ⟨x.m, true, q⟩) HT2.out HX2.out rfl).drew (fun hHeld => ?_)
                obtain ⟨Uq10u0, eW⟩ : ∃ X, X = Up9u2.drew := ⟨_, rfl⟩
                have hb : Below Up9u2.heap.size Up9u2 Uq10u0 := by rw [eW]; exact (Below.refl _ _).drew
                replace HT2 : Hid (TrIs F Uq10u0 tb (Q.set k ⟨x.m, true, q⟩) k (.slice (some ⟨g, 0, none⟩) n cap) sb kb) := HT2.out.below hb
                replace HTo2 : Hid (Touch F w Uq10u0) := HTo2.out.trans (Touch.of_below (F := fun _ => False) hb) (fun j h => h.elim)
                rw [← eW] at hHeld ⊢
                clear eW hb
                refine tkW 0 (some 103) (v := ?_) ?_ hHeld ?_
                rotate_left
                · (intro w _; go_simp; try with_reducible rfl)
                refine tkW 1 (some 104) (v := ?_) ?_ hHeld ?_
                rotate_left
                · (intro w _; go_simp; try with_reducible rfl)
                refine tkW 2 (some 105) (v := ?_) ?_ hHeld ?_
                rotate_left
                · (intro w hSw; (try dsimp only at hSw); have hS := hSw; have c0 := hS.c0; have c1 := hS.c1; have c2 := hS.c2; have c3 := hS.c3; have c4 := hS.c4; have c5 := hS.c5; go_simp; try with_reducible rfl)
                refine tkW 3 (some 106) (v := ?_) ?_ hHeld ?_
                rotate_left
                · (intro w _; go_simp; try with_reducible rfl)
                refine tkW 4 (some 107) (v := ?_) ?_ hHeld ?_
                rotate_left
                · (intro w hSw; (try dsimp only at hSw); have hS := hSw; have c0 := hS.c0; have c1 := hS.c1; have c2 := hS.c2; have c3 := hS.c3; have c4 := hS.c4; have c5 := hS.c5; go_simp; try with_reducible rfl)
                refine tkW 5 (some 108) (v := ?_) ?_ hHeld ?_
                rotate_left
                · (intro w _; go_simp; try with_reducible rfl)
                refine tkW 6 (some 109) (v := ?_) ?_ hHeld ?_
                rotate_left
                · (intro w hSw; (try dsimp only at hSw); have hS := hSw; have c0 := hS.c0; have c1 := hS.c1; have c2 := hS.c2; have c3 := hS.c3; have c4 := hS.c4; have c5 := hS.c5; go_simp; try with_reducible rfl)
                refine tkW 7 (some 110) (v := ?_) ?_ hHeld ?_
                rotate_left
                · (intro w _; go_simp; try with_reducible rfl)
                refine tkW 8 (some 111) (v := ?_) ?_ hHeld ?_
                rotate_left
                · (intro w hSw; (try dsimp only at hSw); have hS := hSw; have c0 := hS.c0; have c1 := hS.c1; have c2 := hS.c2; have c3 := hS.c3; have c4 := hS.c4; have c5 := hS.c5; go_simp; try with_reducible rfl)
                refine tkW 9 (some 112) (v := ?_) ?_ hHeld ?_
                rotate_left
                · (intro w _; go_simp; try with_reducible rfl)
                refine tkW 10 (some 113) (v := ?_) ?_ hHeld ?_
                rotate_left
                · (intro w hSw; (try dsimp only at hSw); have hS := hSw; have c0 := hS.c0; have c1 := hS.c1; have c2 := hS.c2; have c3 := hS.c3; have c4 := hS.c4; have c5 := hS.c5; go_simp; try with_reducible rfl)
                refine tkW 11 (some 114) (v := ?_) ?_ hHeld ?_
                rotate_left
                · (intro w _; go_simp; try with_reducible rfl)
                refine tkW 12 (some 115) (v := ?_) ?_ hHeld ?_
                rotate_left
                · (intro w hSw; (try dsimp only at hSw); have hS := hSw; have c0 := hS.c0; have c1 := hS.c1; have c2 := hS.c2; have c3 := hS.c3; have c4 := hS.c4; have c5 := hS.c5; go_simp; try with_reducible rfl)
                refine tkW 13 (some 116) (v := ?_) ?_ hHeld ?_
                rotate_left
                · (intro w _; go_simp; try with_reducible rfl)
                refine tkW 14 (some 117) (v := ?_) ?_ hHeld ?_
                rotate_left
                · (intro w hSw; (try dsimp only at hSw); have hS := hSw; have c0 := hS.c0; have c1 := hS.c1; have c2 := hS.c2; have c3 := hS.c3; have c4 := hS.c4; have c5 := hS.c5; go_simp; try with_reducible rfl)
                refine tkW 15 (some 118) (v := ?_) ?_ hHeld ?_
                rotate_left
                · (intro w _; go_simp; try with_reducible rfl)
                refine tkW 16 (some 119) (v := ?_) ?_ hHeld ?_
                rotate_left
                · (intro w hSw; (try dsimp only at hSw); have hS := hSw; have c0 := hS.c0; have c1 := hS.c1; have c2 := hS.c2; have c3 := hS.c3; have c4 := hS.c4; have c5 := hS.c5; go_simp; try with_reducible rfl)
                refine tkW 17 (some 120) (v := ?_) ?_ hHeld ?_
                rotate_left
                · (intro w hSw; (try dsimp only at hSw); have hS := hSw; have c0 := hS.c0; have c1 := hS.c1; have c2 := hS.c2; have c3 := hS.c3; have c4 := hS.c4; have c5 := hS.c5; go_simp; try with_reducible rfl)
                refine wpAnyH_ready (rs := [18]) (by kernel_rfl) (by simp) ?_
                refine AllReadyH.cons (o := ⟨some 121, _, _, _, _, _⟩) rfl (fun K hK => ?_) AllReadyH.nil
                go_simp
                refine (put_any tb sb kb (.slice (some ⟨g, 0, none⟩) n cap) (.int .i64 (k : Int)) x.m.nd.1 x.m.nd.2 (plOf x.m) (doneT ((mvs (Q.set k ⟨x.m, true, q⟩)).take k)) _ HT2.out.row HT2.out.st HT2.out.kd HT2.out.ne (goodT _).srt (Nat.le_trans (doneT_small HT2.out.small k) (by decide)) (fun _ => rfl)).mono ?_
                rintro e Uq10u1 ⟨⟨v3, rfl⟩, hd3, hk3, ht3⟩
                (try go_wp2_with fail)
                have HNx : Hid (NxT F w tb (mvs R) k n (.slice (some ⟨g, 0, none⟩) n cap) sb kb (Q.set k ⟨x.m, true, q⟩) Uq10u1) := NxT.of_put HEm.out HLen.out HT2.out HTo2.out HKn.out HX.out HCt.out HQv.out hd3 hk3 ht3
                have hS2 : CmS g k x Uq10u1 := hHeld.touch ht3 (fun j hj => by have := HT2.out.lt3 (g := g) rfl; rcases hj with rfl | rfl; exact fun e => this.2.1 e.symm; exact fun e => this.2.2 e.symm)
                refine hK.out _ _ (hS2) (fun hHeld2 => ?_)
                clear hK K hHeld
                have hHeld := hHeld2
                clear hHeld2
                (try simp only [Act.put, List.setIfInBounds_toArray, List.set_cons_zero, List.set_cons_succ])
                clear hd3 hk3 ht3 hS2 HT2 HTo2
                refine wpAnyH_done (by kernel_rfl) ?_ _
                clear hHeld
                have t1 : Uq10u1.cell? ⟨tb, 1, none⟩ = some (.int .i64 (k : Int)) := HNx.out.t1
                have tz : Uq10u1.frozen? ⟨tb, 1, none⟩ = false := HNx.out.tz
                go_wp2
                go_roundg (n - (k + 1))
                case measure => omega
                case rel => exact ⟨_, k + 1, HNx.out.next.1, HNx.out.next.2, HNx.out.em, HNx.out.len, rfl⟩
          | none =>
            have HW : Hid (whT (doneT ((mvs Q).take k)) x.m.pr = none) := hw
            have HUp : Hid (x.m.nd ∉ upL (doneT ((mvs Q).take k)) x.m.pr) := by (show _ ∉ _; rw [upL_of (Up.top hw)]; simp)
            clear hw
            refine wp_region_held_drew (S := fun W' => TrIs F W' tb Q k (.slice (some ⟨g, 0, none⟩) n cap) sb kb) (by kernel_rfl) HT.out.drew (fun hHeld => ?_)
            obtain ⟨Ui11u0, eW⟩ : ∃ X, X = Uh4u0.drew := ⟨_, rfl⟩
            have hb : Below Uh4u0.heap.size Uh4u0 Ui11u0 := by rw [eW]; exact (Below.refl _ _).drew
            replace HT : Hid (TrIs F Ui11u0 tb Q k (.slice (some ⟨g, 0, none⟩) n cap) sb kb) := HT.out.below hb
            replace HTo : Hid (Touch F w Ui11u0) := HTo.out.trans (Touch.of_below (F := fun _ => False) hb) (fun j h => h.elim)
            rw [← eW] at hHeld ⊢
            clear eW hb
            refine tkW 0 (some 58) (v := ?_) ?_ hHeld ?_
            rotate_left
            · (intro w _; go_simp; try with_reducible rfl)
            refine tkW 1 (some 59) (v := ?_) ?_ hHeld ?_
            rotate_left
            · (intro w hSw; (try dsimp only at hSw); have hS := hSw; have t2 := hS.t2; have c4 : w.cell? ⟨g, k * 13 + 4, none⟩ = some (.int .i64 x.m.pr.1) := hS.cellAt HKn.out HX.out 4 _ rfl; have c5 : w.cell? ⟨g, k * 13 + 5, none⟩ = some (.int .i64 x.m.pr.2) := hS.cellAt HKn.out HX.out 5 _ rfl; have hlk : (Instr.lookup 62 (.map (some sb)) (.agg #[.int .i64 x.m.pr.1, .int .i64 x.m.pr.2]) true).run Try.prog w = .ok (.tuple #[plV zeroPl, .bool false]) w := (by have h0 := hS.st.look (goodT _).srt x.m.pr; rw [HW.out] at h0; exact h0); go_simp; try with_reducible rfl)
            refine tkW 2 (some 60) (v := ?_) ?_ hHeld ?_
            rotate_left
            · (intro w _; go_simp; try with_reducible rfl)
            refine tkW 3 (some 61) (v := ?_) ?_ hHeld ?_
            rotate_left
            · (intro w hSw; (try dsimp only at hSw); have hS := hSw; have t2 := hS.t2; have c4 : w.cell? ⟨g, k * 13 + 4, none⟩ = some (.int .i64 x.m.pr.1) := hS.cellAt HKn.out HX.out 4 _ rfl; have c5 : w.cell? ⟨g, k * 13 + 5, none⟩ = some (.int .i64 x.m.pr.2) := hS.cellAt HKn.out HX.out 5 _ rfl; have hlk : (Instr.lookup 62 (.map (some sb)) (.agg #[.int .i64 x.m.pr.1, .int .i64 x.m.pr.2]) true).run Try.prog w = .ok (.tuple #[plV zeroPl, .bool false]) w := (by have h0 := hS.st.look (goodT _).srt x.m.pr; rw [HW.out] at h0; exact h0); go_simp; try with_reducible rfl)
            refine tkW 4 (some 62) (v := ?_) ?_ hHeld ?_
            rotate_left
            · (intro w _; go_simp; try with_reducible rfl)
            refine tkW 5 (some 63) (v := ?_) ?_ hHeld ?_
            rotate_left
            · (intro w hSw; (try dsimp only at hSw); have hS := hSw; have t2 := hS.t2; have c4 : w.cell? ⟨g, k * 13 + 4, none⟩ = some (.int .i64 x.m.pr.1) := hS.cellAt HKn.out HX.out 4 _ rfl; have c5 : w.cell? ⟨g, k * 13 + 5, none⟩ = some (.int .i64 x.m.pr.2) := hS.cellAt HKn.out HX.out 5 _ rfl; have hlk : (Instr.lookup 62 (.map (some sb)) (.agg #[.int .i64 x.m.pr.1, .int .i64 x.m.pr.2]) true).run Try.prog w = .ok (.tuple #[plV zeroPl, .bool false]) w := (by have h0 := hS.st.look (goodT _).srt x.m.pr; rw [HW.out] at h0; exact h0); go_simp; try with_reducible rfl)
            refine tkW 6 (some 64) (v := ?_) ?_ hHeld ?_
            rotate_left
            · (intro w _; go_simp; try with_reducible rfl)
            refine tkW 7 (some 65) (v := ?_) ?_ hHeld ?_
            rotate_left
            · (intro w hSw; (try dsimp only at hSw); have hS := hSw; have t2 := hS.t2; have c4 : w.cell? ⟨g, k * 13 + 4, none⟩ = some (.int .i64 x.m.pr.1) := hS.cellAt HKn.out HX.out 4 _ rfl; have c5 : w.cell? ⟨g, k * 13 + 5, none⟩ = some (.int .i64 x.m.pr.2) := hS.cellAt HKn.out HX.out 5 _ rfl; have hlk : (Instr.lookup 62 (.map (some sb)) (.agg #[.int .i64 x.m.pr.1, .int .i64 x.m.pr.2]) true).run Try.prog w = .ok (.tuple #[plV zeroPl, .bool false]) w := (by have h0 := hS.st.look (goodT _).srt x.m.pr; rw [HW.out] at h0; exact h0); go_simp; try with_reducible rfl)
            refine tkW 8 (some 66) (v := ?_) ?_ hHeld ?_
            rotate_left
            · (intro w hSw; (try dsimp only at hSw); have hS := hSw; have t2 := hS.t2; have c4 : w.cell? ⟨g, k * 13 + 4, none⟩ = some (.int .i64 x.m.pr.1) := hS.cellAt HKn.out HX.out 4 _ rfl; have c5 : w.cell? ⟨g, k * 13 + 5, none⟩ = some (.int .i64 x.m.pr.2) := hS.cellAt HKn.out HX.out 5 _ rfl; have hlk : (Instr.lookup 62 (.map (some sb)) (.agg #[.int .i64 x.m.pr.1, .int .i64 x.m.pr.2]) true).run Try.prog w = .ok (.tuple #[plV zeroPl, .bool false]) w := (by have h0 := hS.st.look (goodT _).srt x.m.pr; rw [HW.out] at h0; exact h0); go_simp; try with_reducible rfl)
            refine tkW 9 (some 57) (v := ?_) ?_ hHeld ?_
            rotate_left
            · (intro w _; go_simp; try with_reducible rfl)
            refine tkW 10 (some 67) (v := ?_) ?_ hHeld ?_
            rotate_left
            · (intro w _; go_simp; try with_reducible rfl)
            refine tkW 11 (some 68) (v := ?_) ?_ hHeld ?_
            rotate_left
            · (intro w _; go_simp; try with_reducible rfl)
            refine wpAnyH_ready (rs := [12]) (by kernel_rfl) (by simp) ?_
            refine AllReadyH.cons (o := ⟨some 4, _, _, _, _, _⟩) rfl (fun K hK => ?_) AllReadyH.nil
            have HTb : Hid (∀ j, F j → j < Ui11u0.heap.size) := HT.out.lt
            have HWs : Hid (w.heap.size ≤ Ui11u0.heap.size) := HTo.out.size
            have hbx : Below Ui11u0.heap.size Ui11u0 (Ui11u0.alloc (.cells #[.int .i64 0, .int .i64 0, .int .i64 0, .int .i64 0, .int .i64 0, .int .i64 0] 43)) := (Below.refl _ _).alloc (Nat.le_refl _) _
            go_simp
            refine hK.out _ _ (hHeld.below hbx) (fun hHeld2 => ?_)
            clear hK K hHeld
            have hHeld := hHeld2
            clear hHeld2
            (try simp only [Act.put, List.setIfInBounds_toArray, List.set_cons_zero, List.set_cons_succ])
            obtain ⟨Ui11u1, eW⟩ : ∃ X, X = Ui11u0.alloc (.cells #[.int .i64 0, .int .i64 0, .int .i64 0, .int .i64 0, .int .i64 0, .int .i64 0] 43) := ⟨_, rfl⟩
            have hb : Below Ui11u0.heap.size Ui11u0 Ui11u1 := by rw [eW]; exact (Below.refl _ _).alloc (Nat.le_refl _) _
            replace HT : Hid (TrIs F Ui11u1 tb Q k (.slice (some ⟨g, 0, none⟩) n cap) sb kb) := HT.out.below hb
            replace HTo : Hid (Touch F w Ui11u1) := HTo.out.trans (Touch.of_below (F := fun _ => False) hb) (fun j h => h.elim)
            have HZ : Hid (Ui11u1.heap[Ui11u0.heap.size]? = some (.cells #[.int .i64 0, .int .i64 0, .int .i64 0, .int .i64 0, .int .i64 0, .int .i64 0] 43)) := by rw [eW]; exact heap_alloc_new _ _
            rw [← eW] at hHeld ⊢
            clear eW
            clear hbx
            obtain ⟨pb, enb⟩ : ∃ b, b = Ui11u0.heap.size := ⟨_, rfl⟩
            have HPn : Hid (∀ j, F j → j ≠ pb) := fun j hj e => by have := HTb.out j hj; omega
            have HPw : Hid (w.heap.size ≤ pb) := by rw [enb]; exact HWs.out
            rw [← enb] at HZ ⊢
            clear enb
            clear HTb HWs
            clear hb
            refine wpAnyH_ready (rs := [13]) (by kernel_rfl) (by simp) ?_
            refine AllReadyH.cons (o := ⟨none, _, _, _, _, _⟩) rfl (fun K hK => ?_) AllReadyH.nil
            refine step_store_row rfl 43 (.tmp 4) (.tmp 67) rfl pb 43 #[.int .i64 0, .int .i64 0, .int .i64 0, .int .i64 0, .int .i64 0, .int .i64 0] (plCells zeroPl).toArray rfl rfl HZ.out sizePlaced rfl (by simp [Value.oneCell', plCells]) ?_
            obtain ⟨Ui11u2, eW⟩ : ∃ Y, Y = Ui11u1.setRow pb (plCells zeroPl).toArray := ⟨_, rfl⟩
            have hg9 : Ui11u1.grownBy Ui11u2 (some pb) := by rw [eW]; exact grown_setRow _ _ _
            have HP : Hid (Ui11u2.heap[pb]? = some (.cells (plCells zeroPl).toArray 43)) := by rw [eW]; exact setRow_same HZ.out
            rw [← eW]
            replace HT : Hid (TrIs F Ui11u2 tb Q k (.slice (some ⟨g, 0, none⟩) n cap) sb kb) := HT.out.touch (G := fun j => j = pb) (Touch.of_grown hg9 fun j e _ => by cases e; rfl) (fun j hj e => HPn.out j hj e)
            replace HTo : Hid (Touch F w Ui11u2) := HTo.out.trans (Touch.of_grown (F := fun j => j = pb) hg9 fun j e _ => by cases e; rfl) (fun j e => .inr (by rw [e]; exact HPw.out))
            refine hK.out _ _ (HT.out) (fun hHeld2 => ?_)
            clear hK K hHeld
            have hHeld := hHeld2
            clear hHeld2
            (try simp only [Act.put, List.setIfInBounds_toArray, List.set_cons_zero, List.set_cons_succ])
            clear eW hg9 HZ
            refine tkW 14 (some 5) (v := ?_) ?_ hHeld ?_
            rotate_left
            · (intro w _; go_simp; try with_reducible rfl)
            refine wpAnyH_done (by kernel_rfl) ?_ _
            clear hHeld
            go_wp2
            go_loopg [4, 5] (0) (fun gk pv ov wq => ∃ (pb : Nat) (p : Pl), pv = .pointer (some ⟨pb, 0, none⟩) ∧ Hid (TrIs F wq tb Q k (.slice (some ⟨g, 0, none⟩) n cap) sb kb) ∧ Hid (Touch F w wq) ∧ Hid (∀ j, F j → j ≠ pb) ∧ Hid (w.heap.size ≤ pb) ∧ Hid (wq.heap[pb]? = some (.cells (plCells p).toArray 43)) ∧ ((∃ l, ov = .bool true ∧ gk = l.length + 1 ∧ Hid (Up (doneT ((mvs Q).take k)) p.pr l ∧ (x.m.nd ∈ upL (doneT ((mvs Q).take k)) x.m.pr ↔ x.m.nd ∈ p.pr :: l))) ∨ (ov = .bool false ∧ gk = 0 ∧ Hid (x.m.nd ∉ upL (doneT ((mvs Q).take k)) x.m.pr))))
            case atStart => exact ⟨pb, zeroPl, rfl, HT, HTo, HPn, HPw, HP, .inr ⟨rfl, rfl, HUp⟩⟩
            case round =>
              rename World => wq
              clear HT HTo HPn HPw HP HUp HW
              obtain ⟨pb, p, rfl, HT, HTo, HPn, HPw, HP, hcase⟩ := hrel
              rcases hcase with ⟨l, rfl, hgk, HUp⟩ | ⟨rfl, hgk, HNo⟩
              · have HGk : Hid (gk = l.length + 1) := hgk
                clear hgk
                go_wp2
                refine wp_region_held_drew (S := fun W' => TrIs F W' tb Q k (.slice (some ⟨g, 0, none⟩) n cap) sb kb ∧ W'.cell? ⟨pb, 2, none⟩ = some (.int .i64 p.pr.1) ∧ W'.cell? ⟨pb, 3, none⟩ = some (.int .i64 p.pr.2)) (by kernel_rfl) ⟨HT.out.drew, by (show wq.cell? _ = _; rw [cell_of_row wq pb 2 _ _ _ HP.out]; rfl), by (show wq.cell? _ = _; rw [cell_of_row wq pb 3 _ _ _ HP.out]; rfl)⟩ (fun hHeld => ?_)
                obtain ⟨Ur12u0, eW⟩ : ∃ X, X = wq.drew := ⟨_, rfl⟩
                have hb : Below wq.heap.size wq Ur12u0 := by rw [eW]; exact (Below.refl _ _).drew
                replace HT : Hid (TrIs F Ur12u0 tb Q k (.slice (some ⟨g, 0, none⟩) n cap) sb kb) := HT.out.below hb
                replace HTo : Hid (Touch F w Ur12u0) := HTo.out.trans (Touch.of_below (F := fun _ => False) hb) (fun j h => h.elim)
                replace HP : Hid (Ur12u0.heap[pb]? = some (.cells (plCells p).toArray 43)) := (hb.block _ (row_lt HP.out)).trans HP.out
                rw [← eW] at hHeld ⊢
                clear eW hb
                refine tkW 0 (some 80) (v := ?_) ?_ hHeld ?_
                rotate_left
                · (intro w _; go_simp; try with_reducible rfl)
                refine tkW 1 (some 81) (v := ?_) ?_ hHeld ?_
                rotate_left
                · (intro w hSw; (try dsimp only at hSw); have hS := hSw; have c2 : w.cell? ⟨g, k * 13 + 2, none⟩ = some (.int .i64 x.m.nd.1) := hS.1.cellAt HKn.out HX.out 2 _ rfl; have c3 : w.cell? ⟨g, k * 13 + 3, none⟩ = some (.int .i64 x.m.nd.2) := hS.1.cellAt HKn.out HX.out 3 _ rfl; have q2 : w.cell? ⟨pb, 2, none⟩ = some (.int .i64 p.pr.1) := hS.2.1; have q3 : w.cell? ⟨pb, 3, none⟩ = some (.int .i64 p.pr.2) := hS.2.2; go_simp; try with_reducible rfl)
                refine tkW 2 (some 82) (v := ?_) ?_ hHeld ?_
                rotate_left
                · (intro w _; go_simp; try with_reducible rfl)
                refine tkW 3 (some 83) (v := ?_) ?_ hHeld ?_
                rotate_left
                · (intro w hSw; (try dsimp only at hSw); have hS := hSw; have c2 : w.cell? ⟨g, k * 13 + 2, none⟩ = some (.int .i64 x.m.nd.1) := hS.1.cellAt HKn.out HX.out 2 _ rfl; have c3 : w.cell? ⟨g, k * 13 + 3, none⟩ = some (.int .i64 x.m.nd.2) := hS.1.cellAt HKn.out HX.out 3 _ rfl; have q2 : w.cell? ⟨pb, 2, none⟩ = some (.int .i64 p.pr.1) := hS.2.1; have q3 : w.cell? ⟨pb, 3, none⟩ = some (.int .i64 p.pr.2) := hS.2.2; go_simp; try with_reducible rfl)
                refine tkW 4 (some 84) (v := ?_) ?_ hHeld ?_
                rotate_left
                · (intro w _; go_simp; try with_reducible rfl)
                refine tkW 5 (some 85) (v := ?_) ?_ hHeld ?_
                rotate_left
                · (intro w hSw; (try dsimp only at hSw); have hS := hSw; have c2 : w.cell? ⟨g, k * 13 + 2, none⟩ = some (.int .i64 x.m.nd.1) := hS.1.cellAt HKn.out HX.out 2 _ rfl; have c3 : w.cell? ⟨g, k * 13 + 3, none⟩ = some (.int .i64 x.m.nd.2) := hS.1.cellAt HKn.out HX.out 3 _ rfl; have q2 : w.cell? ⟨pb, 2, none⟩ = some (.int .i64 p.pr.1) := hS.2.1; have q3 : w.cell? ⟨pb, 3, none⟩ = some (.int .i64 p.pr.2) := hS.2.2; go_simp; try with_reducible rfl)
                refine tkW 6 (some 86) (v := .bool (decide ((p.pr.1, p.pr.2) = (x.m.nd.1, x.m.nd.2)))) ?_ hHeld ?_
                · (intro w hSw; (try dsimp only at hSw); have hS := hSw; have c2 : w.cell? ⟨g, k * 13 + 2, none⟩ = some (.int .i64 x.m.nd.1) := hS.1.cellAt HKn.out HX.out 2 _ rfl; have c3 : w.cell? ⟨g, k * 13 + 3, none⟩ = some (.int .i64 x.m.nd.2) := hS.1.cellAt HKn.out HX.out 3 _ rfl; have q2 : w.cell? ⟨pb, 2, none⟩ = some (.int .i64 p.pr.1) := hS.2.1; have q3 : w.cell? ⟨pb, 3, none⟩ = some (.int .i64 p.pr.2) := hS.2.2; go_simp; by_cases e1 : p.pr.1 = x.m.nd.1 <;> by_cases e2 : p.pr.2 = x.m.nd.2 <;> simp [e1, e2])
                refine wpAnyH_done (by kernel_rfl) ?_ _
                clear hHeld
                by_cases hpn : p.pr = x.m.nd
                · have hpd : decide ((p.pr.1, p.pr.2) = (x.m.nd.1, x.m.nd.2)) = true := decide_eq_true hpn
                  have HNc : Hid (cntB (doneT ((mvs Q).take k)) x.m = false) := cntB_no (HUp.out.2.2 (by rw [hpn]; exact List.mem_cons_self ..))
                  clear hpn
                  rw [hpd]
                  clear hpd
                  have HNx : Hid (NxT F w tb (mvs R) k n (.slice (some ⟨g, 0, none⟩) n cap) sb kb Q Ur12u0) := NxT.of_skip HEm.out HLen.out HT.out HTo.out HKn.out HX.out HC0.out HNc.out
                  have t1 : Ur12u0.cell? ⟨tb, 1, none⟩ = some (.int .i64 (k : Int)) := HNx.out.t1
                  have tz : Ur12u0.frozen? ⟨tb, 1, none⟩ = false := HNx.out.tz
                  go_wp2
                  go_roundg (n - (k + 1))
                  case measure => omega
                  case rel => exact ⟨_, k + 1, HNx.out.next.1, HNx.out.next.2, HNx.out.em, HNx.out.len, rfl⟩
                · have hpd : decide ((p.pr.1, p.pr.2) = (x.m.nd.1, x.m.nd.2)) = false := decide_eq_false hpn
                  have HPm : Hid (p.pr ≠ x.m.nd) := hpn
                  clear hpn
                  rw [hpd]
                  clear hpd
                  have p0 : Ur12u0.cell? ⟨pb, 0, none⟩ = some (.int .i64 p.nd.1) := by rw [cell_of_row Ur12u0 pb 0 _ _ _ HP.out]; rfl
                  have p1 : Ur12u0.cell? ⟨pb, 1, none⟩ = some (.int .i64 p.nd.2) := by rw [cell_of_row Ur12u0 pb 1 _ _ _ HP.out]; rfl
                  have p2 : Ur12u0.cell? ⟨pb, 2, none⟩ = some (.int .i64 p.pr.1) := by rw [cell_of_row Ur12u0 pb 2 _ _ _ HP.out]; rfl
                  have p3 : Ur12u0.cell? ⟨pb, 3, none⟩ = some (.int .i64 p.pr.2) := by rw [cell_of_row Ur12u0 pb 3 _ _ _ HP.out]; rfl
                  have p4 : Ur12u0.cell? ⟨pb, 4, none⟩ = some (.int .i64 p.sl.1) := by rw [cell_of_row Ur12u0 pb 4 _ _ _ HP.out]; rfl
                  have p5 : Ur12u0.cell? ⟨pb, 5, none⟩ = some (.int .i64 p.sl.2) := by rw [cell_of_row Ur12u0 pb 5 _ _ _ HP.out]; rfl
                  obtain ⟨W5, eW5⟩ : ∃ W5, W5 = (Ur12u0.alloc (.cells #[.int .i64 0, .int .i64 0, .int .i64 0, .int .i64 0, .int .i64 0, .int .i64 0] 43)).setRow Ur12u0.heap.size (plCells p).toArray := ⟨_, rfl⟩
                  have hb5 : Below Ur12u0.heap.size Ur12u0 W5 := by rw [eW5]; exact below_setRow ((Below.refl _ _).alloc (Nat.le_refl _) _) (Nat.le_refl _) _
                  have HP5 : Hid (W5.heap[Ur12u0.heap.size]? = some (.cells (plCells p).toArray 43)) := by rw [eW5]; exact setRow_same (heap_alloc_new Ur12u0 _)
                  have HT5 : Hid (TrIs F W5 tb Q k (.slice (some ⟨g, 0, none⟩) n cap) sb kb) := HT.out.below hb5
                  have HTo5 : Hid (Touch F w W5) := HTo.out.trans (Touch.of_below (F := fun _ => False) hb5) (fun j h => h.elim)
                  have HPn5 : Hid (∀ j, F j → j ≠ Ur12u0.heap.size) := fun j hj e => by have := HT.out.lt j hj; omega
                  have HPw5 : Hid (w.heap.size ≤ Ur12u0.heap.size) := HTo.out.size
                  clear hb5
                  go_wp2_with (first | (refine wpList_store_row rfl 43 (.tmp 4) (.tmp 87) rfl _ 43 #[.int .i64 0, .int .i64 0, .int .i64 0, .int .i64 0, .int .i64 0, .int .i64 0] (plCells p).toArray rfl rfl (heap_alloc_new _ _) sizePlaced rfl (by simp [Value.oneCell', plCells]) ?_) | fail)
                  rw [← eW5]
                  clear eW5 p0 p1 p2 p3 p4 p5 HT HTo HP HPn HPw
                  obtain ⟨pc, epc⟩ : ∃ b, b = Ur12u0.heap.size := ⟨_, rfl⟩
                  rw [← epc] at HP5 HPn5 HPw5 ⊢
                  clear epc
                  cases hw2 : whT (doneT ((mvs Q).take k)) p.pr with
                  | some p2 =>
                    have HW2 : Hid (whT (doneT ((mvs Q).take k)) p.pr = some p2) := hw2
                    obtain ⟨l2, hl2⟩ := upStep HUp.out hw2 HPm.out
                    have HL2 : Hid (l = p2.pr :: l2 ∧ Hid (Up (doneT ((mvs Q).take k)) p2.pr l2 ∧ (x.m.nd ∈ upL (doneT ((mvs Q).take k)) x.m.pr ↔ x.m.nd ∈ p2.pr :: l2))) := hl2
                    clear hw2 hl2
                    refine wp_region_held_drew (S := fun W' => TrIs F W' tb Q k (.slice (some ⟨g, 0, none⟩) n cap) sb kb) (by kernel_rfl) HT5.out.drew (fun hHeld => ?_)
                    obtain ⟨Us13u0, eW⟩ : ∃ X, X = W5.drew := ⟨_, rfl⟩
                    have hb : Below W5.heap.size W5 Us13u0 := by rw [eW]; exact (Below.refl _ _).drew
                    replace HP5 : Hid (Us13u0.heap[pc]? = some (.cells (plCells p).toArray 43)) := (hb.block _ (row_lt HP5.out)).trans HP5.out
                    replace HTo5 : Hid (Touch F w Us13u0) := HTo5.out.trans (Touch.of_below (F := fun _ => False) hb) (fun j h => h.elim)
                    rw [← eW] at hHeld ⊢
                    clear eW hb
                    refine tkW 0 (some 71) (v := ?_) ?_ hHeld ?_
                    rotate_left
                    · (intro w _; go_simp; try with_reducible rfl)
                    refine tkW 1 (some 72) (v := ?_) ?_ hHeld ?_
                    rotate_left
                    · (intro w hSw; (try dsimp only at hSw); have hS := hSw; have t2 := hS.t2; have hlk : (Instr.lookup 62 (.map (some sb)) (.agg #[.int .i64 p.pr.1, .int .i64 p.pr.2]) true).run Try.prog w = .ok (.tuple #[plV p2, .bool true]) w := (by have h0 := hS.st.look (goodT _).srt p.pr; rw [HW2.out] at h0; exact h0); go_simp; try with_reducible rfl)
                    refine tkW 2 (some 73) (v := ?_) ?_ hHeld ?_
                    rotate_left
                    · (intro w _; go_simp; try with_reducible rfl)
                    refine tkW 3 (some 74) (v := ?_) ?_ hHeld ?_
                    rotate_left
                    · (intro w hSw; (try dsimp only at hSw); have hS := hSw; have t2 := hS.t2; have hlk : (Instr.lookup 62 (.map (some sb)) (.agg #[.int .i64 p.pr.1, .int .i64 p.pr.2]) true).run Try.prog w = .ok (.tuple #[plV p2, .bool true]) w := (by have h0 := hS.st.look (goodT _).srt p.pr; rw [HW2.out] at h0; exact h0); go_simp; try with_reducible rfl)
                    refine tkW 4 (some 75) (v := ?_) ?_ hHeld ?_
                    rotate_left
                    · (intro w _; go_simp; try with_reducible rfl)
                    refine wpAnyH_ready (rs := [5]) (by kernel_rfl) (by simp) ?_
                    refine AllReadyH.cons (o := ⟨some 76, _, _, _, _, _⟩) rfl (fun K hK => ?_) AllReadyH.nil
                    have q2 : Us13u0.cell? ⟨pc, 2, none⟩ = some (.int .i64 p.pr.1) := by rw [cell_of_row Us13u0 pc 2 _ _ _ HP5.out]; rfl
                    have q3 : Us13u0.cell? ⟨pc, 3, none⟩ = some (.int .i64 p.pr.2) := by rw [cell_of_row Us13u0 pc 3 _ _ _ HP5.out]; rfl
                    go_simp
                    refine hK.out _ _ (hHeld) (fun hHeld2 => ?_)
                    clear hK K hHeld
                    have hHeld := hHeld2
                    clear hHeld2
                    (try simp only [Act.put, List.setIfInBounds_toArray, List.set_cons_zero, List.set_cons_succ])
                    clear q2 q3
                    refine tkW 6 (some 77) (v := ?_) ?_ hHeld ?_
                    rotate_left
                    · (intro w hSw; (try dsimp only at hSw); have hS := hSw; have t2 := hS.t2; have hlk : (Instr.lookup 62 (.map (some sb)) (.agg #[.int .i64 p.pr.1, .int .i64 p.pr.2]) true).run Try.prog w = .ok (.tuple #[plV p2, .bool true]) w := (by have h0 := hS.st.look (goodT _).srt p.pr; rw [HW2.out] at h0; exact h0); go_simp; try with_reducible rfl)
                    refine tkW 7 (some 70) (v := ?_) ?_ hHeld ?_
                    rotate_left
                    · (intro w _; go_simp; try with_reducible rfl)
                    refine tkW 8 (some 78) (v := ?_) ?_ hHeld ?_
                    rotate_left
                    · (intro w _; go_simp; try with_reducible rfl)
                    refine tkW 9 (some 79) (v := ?_) ?_ hHeld ?_
                    rotate_left
                    · (intro w _; go_simp; try with_reducible rfl)
                    refine wpAnyH_ready (rs := [10]) (by kernel_rfl) (by simp) ?_
                    refine AllReadyH.cons (o := ⟨none, _, _, _, _, _⟩) rfl (fun K hK => ?_) AllReadyH.nil
                    refine step_store_row rfl 43 (.tmp 4) (.tmp 78) rfl pc 43 (plCells p).toArray (plCells p2).toArray rfl rfl HP5.out sizePlaced rfl (by simp [Value.oneCell', plCells]) ?_
                    obtain ⟨Us13u2, eW⟩ : ∃ Y, Y = Us13u0.setRow pc (plCells p2).toArray := ⟨_, rfl⟩
                    have hg9 : Us13u0.grownBy Us13u2 (some pc) := by rw [eW]; exact grown_setRow _ _ _
                    have HP6 : Hid (Us13u2.heap[pc]? = some (.cells (plCells p2).toArray 43)) := by rw [eW]; exact setRow_same HP5.out
                    rw [← eW]
                    have HT6 : Hid (TrIs F Us13u2 tb Q k (.slice (some ⟨g, 0, none⟩) n cap) sb kb) := hHeld.touch (G := fun j => j = pc) (Touch.of_grown hg9 fun j e _ => by cases e; rfl) (fun j hj e => HPn5.out j hj e)
                    have HTo6 : Hid (Touch F w Us13u2) := HTo5.out.trans (Touch.of_grown (F := fun j => j = pc) hg9 fun j e _ => by cases e; rfl) (fun j e => .inr (by rw [e]; exact HPw5.out))
                    refine hK.out _ _ (HT6.out) (fun hHeld2 => ?_)
                    clear hK K hHeld
                    have hHeld := hHeld2
                    clear hHeld2
                    (try simp only [Act.put, List.setIfInBounds_toArray, List.set_cons_zero, List.set_cons_succ])
                    clear eW hg9 HP5 HTo5
                    refine tkW 11 (some 5) (v := ?_) ?_ hHeld ?_
                    rotate_left
                    · (intro w _; go_simp; try with_reducible rfl)
                    refine wpAnyH_done (by kernel_rfl) ?_ _
                    clear hHeld
                    go_wp2
                    go_roundg (l2.length + 1)
                    case measure => rw [HGk.out, HL2.out.1]; simp
                    case rel => exact ⟨pc, p2, rfl, HT6, HTo6, HPn5, HPw5, HP6, .inl ⟨l2, rfl, rfl, HL2.out.2⟩⟩
                  | none =>
                    have HW2 : Hid (whT (doneT ((mvs Q).take k)) p.pr = none) := hw2
                    have HNo : Hid (x.m.nd ∉ upL (doneT ((mvs Q).take k)) x.m.pr) := upTop HUp.out hw2 HPm.out
                    clear hw2
                    refine wp_region_held_drew (S := fun W' => TrIs F W' tb Q k (.slice (some ⟨g, 0, none⟩) n cap) sb kb) (by kernel_rfl) HT5.out.drew (fun hHeld => ?_)
                    obtain ⟨Us14u0, eW⟩ : ∃ X, X = W5.drew := ⟨_, rfl⟩
                    have hb : Below W5.heap.size W5 Us14u0 := by rw [eW]; exact (Below.refl _ _).drew
                    replace HP5 : Hid (Us14u0.heap[pc]? = some (.cells (plCells p).toArray 43)) := (hb.block _ (row_lt HP5.out)).trans HP5.out
                    replace HTo5 : Hid (Touch F w Us14u0) := HTo5.out.trans (Touch.of_below (F := fun _ => False) hb) (fun j h => h.elim)
                    rw [← eW] at hHeld ⊢
                    clear eW hb
                    refine tkW 0 (some 71) (v := ?_) ?_ hHeld ?_
                    rotate_left
                    · (intro w _; go_simp; try with_reducible rfl)
                    refine tkW 1 (some 72) (v := ?_) ?_ hHeld ?_
                    rotate_left
                    · (intro w hSw; (try dsimp only at hSw); have hS := hSw; have t2 := hS.t2; have hlk : (Instr.lookup 62 (.map (some sb)) (.agg #[.int .i64 p.pr.1, .int .i64 p.pr.2]) true).run Try.prog w = .ok (.tuple #[plV zeroPl, .bool false]) w := (by have h0 := hS.st.look (goodT _).srt p.pr; rw [HW2.out] at h0; exact h0); go_simp; try with_reducible rfl)
                    refine tkW 2 (some 73) (v := ?_) ?_ hHeld ?_
                    rotate_left
                    · (intro w _; go_simp; try with_reducible rfl)
                    refine tkW 3 (some 74) (v := ?_) ?_ hHeld ?_
                    rotate_left
                    · (intro w hSw; (try dsimp only at hSw); have hS := hSw; have t2 := hS.t2; have hlk : (Instr.lookup 62 (.map (some sb)) (.agg #[.int .i64 p.pr.1, .int .i64 p.pr.2]) true).run Try.prog w = .ok (.tuple #[plV zeroPl, .bool false]) w := (by have h0 := hS.st.look (goodT _).srt p.pr; rw [HW2.out] at h0; exact h0); go_simp; try with_reducible rfl)
                    refine tkW 4 (some 75) (v := ?_) ?_ hHeld ?_
                    rotate_left
                    · (intro w _; go_simp; try with_reducible rfl)
                    refine wpAnyH_ready (rs := [5]) (by kernel_rfl) (by simp) ?_
                    refine AllReadyH.cons (o := ⟨some 76, _, _, _, _, _⟩) rfl (fun K hK => ?_) AllReadyH.nil
                    have q2 : Us14u0.cell? ⟨pc, 2, none⟩ = some (.int .i64 p.pr.1) := by rw [cell_of_row Us14u0 pc 2 _ _ _ HP5.out]; rfl
                    have q3 : Us14u0.cell? ⟨pc, 3, none⟩ = some (.int .i64 p.pr.2) := by rw [cell_of_row Us14u0 pc 3 _ _ _ HP5.out]; rfl
                    go_simp
                    refine hK.out _ _ (hHeld) (fun hHeld2 => ?_)
                    clear hK K hHeld
                    have hHeld := hHeld2
                    clear hHeld2
                    (try simp only [Act.put, List.setIfInBounds_toArray, List.set_cons_zero, List.set_cons_succ])
                    clear q2 q3
                    refine tkW 6 (some 77) (v := ?_) ?_ hHeld ?_
                    rotate_left
                    · (intro w hSw; (try dsimp only at hSw); have hS := hSw; have t2 := hS.t2; have hlk : (Instr.lookup 62 (.map (some sb)) (.agg #[.int .i64 p.pr.1, .int .i64 p.pr.2]) true).run Try.prog w = .ok (.tuple #[plV zeroPl, .bool false]) w := (by have h0 := hS.st.look (goodT _).srt p.pr; rw [HW2.out] at h0; exact h0); go_simp; try with_reducible rfl)
                    refine tkW 7 (some 70) (v := ?_) ?_ hHeld ?_
                    rotate_left
                    · (intro w _; go_simp; try with_reducible rfl)
                    refine tkW 8 (some 78) (v := ?_) ?_ hHeld ?_
                    rotate_left
                    · (intro w _; go_simp; try with_reducible rfl)
                    refine tkW 9 (some 79) (v := ?_) ?_ hHeld ?_
                    rotate_left
                    · (intro w _; go_simp; try with_reducible rfl)
                    refine wpAnyH_ready (rs := [10]) (by kernel_rfl) (by simp) ?_
                    refine AllReadyH.cons (o := ⟨none, _, _, _, _, _⟩) rfl (fun K hK => ?_) AllReadyH.nil
                    refine step_store_row rfl 43 (.tmp 4) (.tmp 78) rfl pc 43 (plCells p).toArray (plCells zeroPl).toArray rfl rfl HP5.out sizePlaced rfl (by simp [Value.oneCell', plCells]) ?_
                    obtain ⟨Us14u2, eW⟩ : ∃ Y, Y = Us14u0.setRow pc (plCells zeroPl).toArray := ⟨_, rfl⟩
                    have hg9 : Us14u0.grownBy Us14u2 (some pc) := by rw [eW]; exact grown_setRow _ _ _
                    have HP6 : Hid (Us14u2.heap[pc]? = some (.cells (plCells zeroPl).toArray 43)) := by rw [eW]; exact setRow_same HP5.out
                    rw [← eW]
                    have HT6 : Hid (TrIs F Us14u2 tb Q k (.slice (some ⟨g, 0, none⟩) n cap) sb kb) := hHeld.touch (G := fun j => j = pc) (Touch.of_grown hg9 fun j e _ => by cases e; rfl) (fun j hj e => HPn5.out j hj e)
                    have HTo6 : Hid (Touch F w Us14u2) := HTo5.out.trans (Touch.of_grown (F := fun j => j = pc) hg9 fun j e _ => by cases e; rfl) (fun j e => .inr (by rw [e]; exact HPw5.out))
                    refine hK.out _ _ (HT6.out) (fun hHeld2 => ?_)
                    clear hK K hHeld
                    have hHeld := hHeld2
                    clear hHeld2
                    (try simp only [Act.put, List.setIfInBounds_toArray, List.set_cons_zero, List.set_cons_succ])
                    clear eW hg9 HP5 HTo5
                    refine tkW 11 (some 5) (v := ?_) ?_ hHeld ?_
                    rotate_left
                    · (intro w _; go_simp; try with_reducible rfl)
                    refine wpAnyH_done (by kernel_rfl) ?_ _
                    clear hHeld
                    go_wp2
                    go_roundg 0
                    case measure => rw [HGk.out]; omega
                    case rel => exact ⟨pc, zeroPl, rfl, HT6, HTo6, HPn5, HPw5, HP6, .inr ⟨rfl, rfl, HNo⟩⟩
              · clear hgk HPn HPw HP
                have HCt : Hid (cntB (doneT ((mvs Q).take k)) x.m = true) := cntB_yes HNp.out HNo.out
                go_wp2
                obtain ⟨q, eq⟩ : ∃ q, q = (whT (doneT ((mvs Q).take k)) x.m.nd).getD zeroPl := ⟨_, rfl⟩
                have HQv : Hid (q = (whT (doneT ((mvs Q).take k)) x.m.nd).getD zeroPl) := eq
                clear eq
                go_wp2_with fail
                refine wp_region_held_drew (S := fun W' => CtS tb g k x sb (doneT ((mvs Q).take k)) W') (by kernel_rfl) (CtS.of (Q := Q) HT.out HX.out rfl rfl).drew (fun hHeld => ?_)
                obtain ⟨Up15u0, eW⟩ : ∃ X, X = wq.drew := ⟨_, rfl⟩
                have hb : Below wq.heap.size wq Up15u0 := by rw [eW]; exact (Below.refl _ _).drew
                replace HT : Hid (TrIs F Up15u0 tb Q k (.slice (some ⟨g, 0, none⟩) n cap) sb kb) := HT.out.below hb
                replace HTo : Hid (Touch F w Up15u0) := HTo.out.trans (Touch.of_below (F := fun _ => False) hb) (fun j h => h.elim)
                rw [← eW] at hHeld ⊢
                clear eW hb
                refine tkW 0 (some 88) (v := ?_) ?_ hHeld ?_
                rotate_left
                · (intro w _; go_simp; try with_reducible rfl)
                refine tkW 1 (some 89) (v := ?_) ?_ hHeld ?_
                rotate_left
                · (intro w _; go_simp; try with_reducible rfl)
                refine tkW 2 (some 90) (v := ?_) ?_ hHeld ?_
                rotate_left
                · (intro w _; go_simp; try with_reducible rfl)
                refine tkW 3 (some 91) (v := ?_) ?_ hHeld ?_
                rotate_left
                · (intro w hSw; (try dsimp only at hSw); have hS := hSw; have t2 := hS.t2; have c2 := hS.c2; have c3 := hS.c3; have hlk : (Instr.lookup 62 (.map (some sb)) (.agg #[.int .i64 x.m.nd.1, .int .i64 x.m.nd.2]) false).run Try.prog w = .ok (plV q) w := (by have h0 := hS.sm.look1 (goodT _).srt x.m.nd; rw [← HQv.out] at h0; exact h0); go_simp; try with_reducible rfl)
                refine tkW 4 (some 92) (v := ?_) ?_ hHeld ?_
                rotate_left
                · (intro w _; go_simp; try with_reducible rfl)
                refine tkW 5 (some 93) (v := ?_) ?_ hHeld ?_
                rotate_left
                · (intro w hSw; (try dsimp only at hSw); have hS := hSw; have t2 := hS.t2; have c2 := hS.c2; have c3 := hS.c3; have hlk : (Instr.lookup 62 (.map (some sb)) (.agg #[.int .i64 x.m.nd.1, .int .i64 x.m.nd.2]) false).run Try.prog w = .ok (plV q) w := (by have h0 := hS.sm.look1 (goodT _).srt x.m.nd; rw [← HQv.out] at h0; exact h0); go_simp; try with_reducible rfl)
                refine tkW 6 (some 94) (v := ?_) ?_ hHeld ?_
                rotate_left
                · (intro w _; go_simp; try with_reducible rfl)
                refine tkW 7 (some 95) (v := ?_) ?_ hHeld ?_
                rotate_left
                · (intro w hSw; (try dsimp only at hSw); have hS := hSw; have t2 := hS.t2; have c2 := hS.c2; have c3 := hS.c3; have hlk : (Instr.lookup 62 (.map (some sb)) (.agg #[.int .i64 x.m.nd.1, .int .i64 x.m.nd.2]) false).run Try.prog w = .ok (plV q) w := (by have h0 := hS.sm.look1 (goodT _).srt x.m.nd; rw [← HQv.out] at h0; exact h0); go_simp; try with_reducible rfl)
                refine tkW 8 (some 96) (v := ?_) ?_ hHeld ?_
                rotate_left
                · (intro w _; go_simp; try with_reducible rfl)
                refine tkW 9 (some 97) (v := ?_) ?_ hHeld ?_
                rotate_left
                · (intro w hSw; (try dsimp only at hSw); have hS := hSw; have t2 := hS.t2; have c2 := hS.c2; have c3 := hS.c3; have hlk : (Instr.lookup 62 (.map (some sb)) (.agg #[.int .i64 x.m.nd.1, .int .i64 x.m.nd.2]) false).run Try.prog w = .ok (plV q) w := (by have h0 := hS.sm.look1 (goodT _).srt x.m.nd; rw [← HQv.out] at h0; exact h0); go_simp; try with_reducible rfl)
                refine tkW 10 (some 98) (v := ?_) ?_ hHeld ?_
                rotate_left
                · (intro w hSw; (try dsimp only at hSw); have hS := hSw; have t2 := hS.t2; have c2 := hS.c2; have c3 := hS.c3; have hlk : (Instr.lookup 62 (.map (some sb)) (.agg #[.int .i64 x.m.nd.1, .int .i64 x.m.nd.2]) false).run Try.prog w = .ok (plV q) w := (by have h0 := hS.sm.look1 (goodT _).srt x.m.nd; rw [← HQv.out] at h0; exact h0); go_simp; try with_reducible rfl)
                refine tkW 11 (some 99) (v := ?_) ?_ hHeld ?_
                rotate_left
                · (intro w hSw; (try dsimp only at hSw); have hS := hSw; have t2 := hS.t2; have c2 := hS.c2; have c3 := hS.c3; have hlk : (Instr.lookup 62 (.map (some sb)) (.agg #[.int .i64 x.m.nd.1, .int .i64 x.m.nd.2]) false).run Try.prog w = .ok (plV q) w := (by have h0 := hS.sm.look1 (goodT _).srt x.m.nd; rw [← HQv.out] at h0; exact h0); go_simp; try with_reducible rfl)
                refine tkW 12 (some 100) (v := ?_) ?_ hHeld ?_
                rotate_left
                · (intro w _; go_simp; try with_reducible rfl)
                refine wpAnyH_ready (rs := [13]) (by kernel_rfl) (by simp) ?_
                refine AllReadyH.cons (o := ⟨none, _, _, _, _, _⟩) rfl (fun K hK => ?_) AllReadyH.nil
                obtain ⟨Up15u1, eW⟩ : ∃ Y, Y = Up15u0.setCells g (k * 13 + 6) [.bool true] := ⟨_, rfl⟩
                obtain ⟨h9, hg9⟩ := HT.out.over2 HKn.out HX.out (Nat.le_refl _) ⟨x.m, true, x.fr⟩ rfl 6 [.bool true] (by decide) rfl
                rw [← eW] at h9 hg9
                have HX1 : Hid ((Q.set k ⟨x.m, true, x.fr⟩)[k]? = some ⟨x.m, true, x.fr⟩) := List.getElem?_set_self HKn.out
                have HT1 : Hid (TrIs F Up15u1 tb (Q.set k ⟨x.m, true, x.fr⟩) k (.slice (some ⟨g, 0, none⟩) n cap) sb kb) := h9
                have HTo1 : Hid (Touch F w Up15u1) := HTo.out.trans (Touch.of_grown hg9 (fun j e _ => by cases e; exact HFg.out)) (fun j hj => .inl hj)
                have hS2 : CtS tb g k x sb (doneT ((mvs Q).take k)) Up15u1 := CtS.of (x := x) (Q := Q) h9 HX1.out rfl (mvs_set _ HKn.out (getx (x := x) HX.out))
                clear h9 hg9
                have hc6 := HT.out.cellAt HKn.out HX.out 6 _ rfl
                have hz6 := HT.out.fz (k * 13 + 6)
                have eW2 : Up15u1 = Up15u0.setCell ⟨g, k * 13 + 6, none⟩ (.bool true) := eW
                go_simp
                rw [← eW2]
                refine hK.out _ _ (hS2) (fun hHeld2 => ?_)
                clear hK K hHeld
                have hHeld := hHeld2
                clear hHeld2
                (try simp only [Act.put, List.setIfInBounds_toArray, List.set_cons_zero, List.set_cons_succ])
                clear eW eW2 hS2 HT HTo hc6 hz6
                refine tkW 14 (some 101) (v := ?_) ?_ hHeld ?_
                rotate_left
                · (intro w hSw; (try dsimp only at hSw); have hS := hSw; have t2 := hS.t2; have c2 := hS.c2; have c3 := hS.c3; have hlk : (Instr.lookup 62 (.map (some sb)) (.agg #[.int .i64 x.m.nd.1, .int .i64 x.m.nd.2]) false).run Try.prog w = .ok (plV q) w := (by have h0 := hS.sm.look1 (goodT _).srt x.m.nd; rw [← HQv.out] at h0; exact h0); go_simp; try with_reducible rfl)
                refine tkW 15 (some 102) (v := ?_) ?_ hHeld ?_
                rotate_left
                · (intro w _; go_simp; try with_reducible rfl)
                refine wpAnyH_ready (rs := [16]) (by kernel_rfl) (by simp) ?_
                refine AllReadyH.cons (o := ⟨none, _, _, _, _, _⟩) rfl (fun K hK => ?_) AllReadyH.nil
                obtain ⟨Up15u2, eW⟩ : ∃ Y, Y = Up15u1.setCells g (k * 13 + 7) (plCells q) := ⟨_, rfl⟩
                obtain ⟨h9, hg9⟩ := HT1.out.over2 (by rw [List.length_set]; exact HKn.out) HX1.out (Nat.le_refl _) ⟨x.m, true, q⟩ rfl 7 (plCells q) (Nat.le_refl 13) rfl
                rw [List.set_set] at h9
                rw [← eW] at h9 hg9
                have HX2 : Hid ((Q.set k ⟨x.m, true, q⟩)[k]? = some ⟨x.m, true, q⟩) := List.getElem?_set_self HKn.out
                have HT2 : Hid (TrIs F Up15u2 tb (Q.set k ⟨x.m, true, q⟩) k (.slice (some ⟨g, 0, none⟩) n cap) sb kb) := h9
                have HTo2 : Hid (Touch F w Up15u2) := HTo1.out.trans (Touch.of_grown hg9 (fun j e _ => by cases e; exact HFg.out)) (fun j hj => .inl hj)
                have hS2 : CtS tb g k x sb (doneT ((mvs Q).take k)) Up15u2 := CtS.of (x := x) (Q := Q) h9 HX2.out rfl (mvs_set _ HKn.out (getx (x := x) HX.out))
                clear h9 hg9
                refine step_store_mid rfl 43 (.tmp 102) (.tmp 98) rfl g (k * 13 + 7) (plCells q).toArray rfl rfl (HT1.out.there (by rw [List.length_set]; exact HKn.out) 7 6 (by decide)) sizePlaced (by simp [Value.oneCell', plCells]) ?_
                rw [← eW]
                refine hK.out _ _ (hS2) (fun hHeld2 => ?_)
                clear hK K hHeld
                have hHeld := hHeld2
                clear hHeld2
                (try simp only [Act.put, List.setIfInBounds_toArray, List.set_cons_zero, List.set_cons_succ])
                clear eW hS2 HT1 HTo1 HX1
                refine wpAnyH_done (by kernel_rfl) ?_ _
                clear hHeld
                go_wp2_with fail
                refine wp_region_held_drew (S := fun W' => CmS g k x W') (by kernel_rfl) (CmS.of (x := x) (Q := Q.set k ⟨x.m, true, q⟩) HT2.out HX2.out rfl).drew (fun hHeld => ?_)
                obtain ⟨Uq16u0, eW⟩ : ∃ X, X = Up15u2.drew := ⟨_, rfl⟩
                have hb : Below Up15u2.heap.size Up15u2 Uq16u0 := by rw [eW]; exact (Below.refl _ _).drew
                replace HT2 : Hid (TrIs F Uq16u0 tb (Q.set k ⟨x.m, true, q⟩) k (.slice (some ⟨g, 0, none⟩) n cap) sb kb) := HT2.out.below hb
                replace HTo2 : Hid (Touch F w Uq16u0) := HTo2.out.trans (Touch.of_below (F := fun _ => False) hb) (fun j h => h.elim)
                rw [← eW] at hHeld ⊢
                clear eW hb
                refine tkW 0 (some 103) (v := ?_) ?_ hHeld ?_
                rotate_left
                · (intro w _; go_simp; try with_reducible rfl)
                refine tkW 1 (some 104) (v := ?_) ?_ hHeld ?_
                rotate_left
                · (intro w _; go_simp; try with_reducible rfl)
                refine tkW 2 (some 105) (v := ?_) ?_ hHeld ?_
                rotate_left
                · (intro w hSw; (try dsimp only at hSw); have hS := hSw; have c0 := hS.c0; have c1 := hS.c1; have c2 := hS.c2; have c3 := hS.c3; have c4 := hS.c4; have c5 := hS.c5; go_simp; try with_reducible rfl)
                refine tkW 3 (some 106) (v := ?_) ?_ hHeld ?_
                rotate_left
                · (intro w _; go_simp; try with_reducible rfl)
                refine tkW 4 (some 107) (v := ?_) ?_ hHeld ?_
                rotate_left
                · (intro w hSw; (try dsimp only at hSw); have hS := hSw; have c0 := hS.c0; have c1 := hS.c1; have c2 := hS.c2; have c3 := hS.c3; have c4 := hS.c4; have c5 := hS.c5; go_simp; try with_reducible rfl)
                refine tkW 5 (some 108) (v := ?_) ?_ hHeld ?_
                rotate_left
                · (intro w _; go_simp; try with_reducible rfl)
                refine tkW 6 (some 109) (v := ?_) ?_ hHeld ?_
                rotate_left
                · (intro w hSw; (try dsimp only at hSw); have hS := hSw; have c0 := hS.c0; have c1 := hS.c1; have c2 := hS.c2; have c3 := hS.c3; have c4 := hS.c4; have c5 := hS.c5; go_simp; try with_reducible rfl)
                refine tkW 7 (some 110) (v := ?_) ?_ hHeld ?_
                rotate_left
                · (intro w _; go_simp; try with_reducible rfl)
                refine tkW 8 (some 111) (v := ?_) ?_ hHeld ?_
                rotate_left
                · (intro w hSw; (try dsimp only at hSw); have hS := hSw; have c0 := hS.c0; have c1 := hS.c1; have c2 := hS.c2; have c3 := hS.c3; have c4 := hS.c4; have c5 := hS.c5; go_simp; try with_reducible rfl)
                refine tkW 9 (some 112) (v := ?_) ?_ hHeld ?_
                rotate_left
                · (intro w _; go_simp; try with_reducible rfl)
                refine tkW 10 (some 113) (v := ?_) ?_ hHeld ?_
                rotate_left
                · (intro w hSw; (try dsimp only at hSw); have hS := hSw; have c0 := hS.c0; have c1 := hS.c1; have c2 := hS.c2; have c3 := hS.c3; have c4 := hS.c4; have c5 := hS.c5; go_simp; try with_reducible rfl)
                refine tkW 11 (some 114) (v := ?_) ?_ hHeld ?_
                rotate_left
                · (intro w _; go_simp; try with_reducible rfl)
                refine tkW 12 (some 115) (v := ?_) ?_ hHeld ?_
                rotate_left
                · (intro w hSw; (try dsimp only at hSw); have hS := hSw; have c0 := hS.c0; have c1 := hS.c1; have c2 := hS.c2; have c3 := hS.c3; have c4 := hS.c4; have c5 := hS.c5; go_simp; try with_reducible rfl)
                refine tkW 13 (some 116) (v := ?_) ?_ hHeld ?_
                rotate_left
                · (intro w _; go_simp; try with_reducible rfl)
                refine tkW 14 (some 117) (v := ?_) ?_ hHeld ?_
                rotate_left
                · (intro w hSw; (try dsimp only at hSw); have hS := hSw; have c0 := hS.c0; have c1 := hS.c1; have c2 := hS.c2; have c3 := hS.c3; have c4 := hS.c4; have c5 := hS.c5; go_simp; try with_reducible rfl)
                refine tkW 15 (some 118) (v := ?_) ?_ hHeld ?_
                rotate_left
                · (intro w _; go_simp; try with_reducible rfl)
                refine tkW 16 (some 119) (v := ?_) ?_ hHeld ?_
                rotate_left
                · (intro w hSw; (try dsimp only at hSw); have hS := hSw; have c0 := hS.c0; have c1 := hS.c1; have c2 := hS.c2; have c3 := hS.c3; have c4 := hS.c4; have c5 := hS.c5; go_simp; try with_reducible rfl)
                refine tkW 17 (some 120) (v := ?_) ?_ hHeld ?_
                rotate_left
                · (intro w hSw; (try dsimp only at hSw); have hS := hSw; have c0 := hS.c0; have c1 := hS.c1; have c2 := hS.c2; have c3 := hS.c3; have c4 := hS.c4; have c5 := hS.c5; go_simp; try with_reducible rfl)
                refine wpAnyH_ready (rs := [18]) (by kernel_rfl) (by simp) ?_
                refine AllReadyH.cons (o := ⟨some 121, _, _, _, _, _⟩) rfl (fun K hK => ?_) AllReadyH.nil
                go_simp
                refine (put_any tb sb kb (.slice (some ⟨g, 0, none⟩) n cap) (.int .i64 (k : Int)) x.m.nd.1 x.m.nd.2 (plOf x.m) (doneT ((mvs (Q.set k ⟨x.m, true, q⟩)).take k)) _ HT2.out.row HT2.out.st HT2.out.kd HT2.out.ne (goodT _).srt (Nat.le_trans (doneT_small HT2.out.small k) (by decide)) (fun _ => rfl)).mono ?_
                rintro e Uq16u1 ⟨⟨v3, rfl⟩, hd3, hk3, ht3⟩
                (try go_wp2_with fail)
                have HNx : Hid (NxT F w tb (mvs R) k n (.slice (some ⟨g, 0, none⟩) n cap) sb kb (Q.set k ⟨x.m, true, q⟩) Uq16u1) := NxT.of_put HEm.out HLen.out HT2.out HTo2.out HKn.out HX.out HCt.out HQv.out hd3 hk3 ht3
                have hS2 : CmS g k x Uq16u1 := hHeld.touch ht3 (fun j hj => by have := HT2.out.lt3 (g := g) rfl; rcases hj with rfl | rfl; exact fun e => this.2.1 e.symm; exact fun e => this.2.2 e.symm)
                refine hK.out _ _ (hS2) (fun hHeld2 => ?_)
                clear hK K hHeld
                have hHeld := hHeld2
                clear hHeld2
                (try simp only [Act.put, List.setIfInBounds_toArray, List.set_cons_zero, List.set_cons_succ])
                clear hd3 hk3 ht3 hS2 HT2 HTo2
                refine wpAnyH_done (by kernel_rfl) ?_ _
                clear hHeld
                have t1 : Uq16u1.cell? ⟨tb, 1, none⟩ = some (.int .i64 (k : Int)) := HNx.out.t1
                have tz : Uq16u1.frozen? ⟨tb, 1, none⟩ = false := HNx.out.tz
                go_wp2
                go_roundg (n - (k + 1))
                case measure => omega
                case rel => exact ⟨_, k + 1, HNx.out.next.1, HNx.out.next.2, HNx.out.em, HNx.out.len, rfl⟩
        · have hkd2 : decide (0 < kidsN (doneT ((mvs Q).take k)) x.m.nd) = false := decide_eq_false hkd
          have HCt : Hid (cntB (doneT ((mvs Q).take k)) x.m = true) := cntB_kids HNp.out hkd (goodT _).acy
          clear hkd
          rw [hkd2]
          clear hkd2
          go_wp2_with fail
          obtain ⟨q, eq⟩ : ∃ q, q = (whT (doneT ((mvs Q).take k)) x.m.nd).getD zeroPl := ⟨_, rfl⟩
          have HQv : Hid (q = (whT (doneT ((mvs Q).take k)) x.m.nd).getD zeroPl) := eq
          clear eq
          go_wp2_with fail
          refine wp_region_held_drew (S := fun W' => CtS tb g k x sb (doneT ((mvs Q).take k)) W') (by kernel_rfl) (CtS.of (Q := Q) HT.out HX.out rfl rfl).drew (fun hHeld => ?_)
          obtain ⟨Up17u0, eW⟩ : ∃ X, X = Uh4u0.drew := ⟨_, rfl⟩
          have hb : Below Uh4u0.heap.size Uh4u0 Up17u0 := by rw [eW]; exact (Below.refl _ _).drew
          replace HT : Hid (TrIs F Up17u0 tb Q k (.slice (some ⟨g, 0, none⟩) n cap) sb kb) := HT.out.below hb
          replace HTo : Hid (Touch F w Up17u0) := HTo.out.trans (Touch.of_below (F := fun _ => False) hb) (fun j h => h.elim)
          rw [← eW] at hHeld ⊢
          clear eW hb
          refine tkW 0 (some 88) (v := ?_) ?_ hHeld ?_
          rotate_left
          · (intro w _; go_simp; try with_reducible rfl)
          refine tkW 1 (some 89) (v := ?_) ?_ hHeld ?_
          rotate_left
          · (intro w _; go_simp; try with_reducible rfl)
          refine tkW 2 (some 90) (v := ?_) ?_ hHeld ?_
          rotate_left
          · (intro w _; go_simp; try with_reducible rfl)
          refine tkW 3 (some 91) (v := ?_) ?_ hHeld ?_
          rotate_left
          · (intro w hSw; (try dsimp only at hSw); have hS := hSw; have t2 := hS.t2; have c2 := hS.c2; have c3 := hS.c3; have hlk : (Instr.lookup 62 (.map (some sb)) (.agg #[.int .i64 x.m.nd.1, .int .i64 x.m.nd.2]) false).run Try.prog w = .ok (plV q) w := (by have h0 := hS.sm.look1 (goodT _).srt x.m.nd; rw [← HQv.out] at h0; exact h0); go_simp; try with_reducible rfl)
          refine tkW 4 (some 92) (v := ?_) ?_ hHeld ?_
          rotate_left
          · (intro w _; go_simp; try with_reducible rfl)
          refine tkW 5 (some 93) (v := ?_) ?_ hHeld ?_
          rotate_left
          · (intro w hSw; (try dsimp only at hSw); have hS := hSw; have t2 := hS.t2; have c2 := hS.c2; have c3 := hS.c3; have hlk : (Instr.lookup 62 (.map (some sb)) (.agg #[.int .i64 x.m.nd.1, .int .i64 x.m.nd.2]) false).run Try.prog w = .ok (plV q) w := (by have h0 := hS.sm.look1 (goodT _).srt x.m.nd; rw [← HQv.out] at h0; exact h0); go_simp; try with_reducible rfl)
          refine tkW 6 (some 94) (v := ?_) ?_ hHeld ?_
          rotate_left
          · (intro w _; go_simp; try with_reducible rfl)
          refine tkW 7 (some 95) (v := ?_) ?_ hHeld ?_
          rotate_left
          · (intro w hSw; (try dsimp only at hSw); have hS := hSw; have t2 := hS.t2; have c2 := hS.c2; have c3 := hS.c3; have hlk : (Instr.lookup 62 (.map (some sb)) (.agg #[.int .i64 x.m.nd.1, .int .i64 x.m.nd.2]) false).run Try.prog w = .ok (plV q) w := (by have h0 := hS.sm.look1 (goodT _).srt x.m.nd; rw [← HQv.out] at h0; exact h0); go_simp; try with_reducible rfl)
          refine tkW 8 (some 96) (v := ?_) ?_ hHeld ?_
          rotate_left
          · (intro w _; go_simp; try with_reducible rfl)
          refine tkW 9 (some 97) (v := ?_) ?_ hHeld ?_
          rotate_left
          · (intro w hSw; (try dsimp only at hSw); have hS := hSw; have t2 := hS.t2; have c2 := hS.c2; have c3 := hS.c3; have hlk : (Instr.lookup 62 (.map (some sb)) (.agg #[.int .i64 x.m.nd.1, .int .i64 x.m.nd.2]) false).run Try.prog w = .ok (plV q) w := (by have h0 := hS.sm.look1 (goodT _).srt x.m.nd; rw [← HQv.out] at h0; exact h0); go_simp; try with_reducible rfl)
          refine tkW 10 (some 98) (v := ?_) ?_ hHeld ?_
          rotate_left
          · (intro w hSw; (try dsimp only at hSw); have hS := hSw; have t2 := hS.t2; have c2 := hS.c2; have c3 := hS.c3; have hlk : (Instr.lookup 62 (.map (some sb)) (.agg #[.int .i64 x.m.nd.1, .int .i64 x.m.nd.2]) false).run Try.prog w = .ok (plV q) w := (by have h0 := hS.sm.look1 (goodT _).srt x.m.nd; rw [← HQv.out] at h0; exact h0); go_simp; try with_reducible rfl)
          refine tkW 11 (some 99) (v := ?_) ?_ hHeld ?_
          rotate_left
          · (intro w hSw; (try dsimp only at hSw); have hS := hSw; have t2 := hS.t2; have c2 := hS.c2; have c3 := hS.c3; have hlk : (Instr.lookup 62 (.map (some sb)) (.agg #[.int .i64 x.m.nd.1, .int .i64 x.m.nd.2]) false).run Try.prog w = .ok (plV q) w := (by have h0 := hS.sm.look1 (goodT _).srt x.m.nd; rw [← HQv.out] at h0; exact h0); go_simp; try with_reducible rfl)
          refine tkW 12 (some 100) (v := ?_) ?_ hHeld ?_
          rotate_left
          · (intro w _; go_simp; try with_reducible rfl)
          refine wpAnyH_ready (rs := [13]) (by kernel_rfl) (by simp) ?_
          refine AllReadyH.cons (o := ⟨none, _, _, _, _, _⟩) rfl (fun K hK => ?_) AllReadyH.nil
          obtain ⟨Up17u1, eW⟩ : ∃ Y, Y = Up17u0.setCells g (k * 13 + 6) [.bool true] := ⟨_, rfl⟩
          obtain ⟨h9, hg9⟩ := HT.out.over2 HKn.out HX.out (Nat.le_refl _) ⟨x.m, true, x.fr⟩ rfl 6 [.bool true] (by decide) rfl
          rw [← eW] at h9 hg9
          have HX1 : Hid ((Q.set k ⟨x.m, true, x.fr⟩)[k]? = some ⟨x.m, true, x.fr⟩) := List.getElem?_set_self HKn.out
          have HT1 : Hid (TrIs F Up17u1 tb (Q.set k ⟨x.m, true, x.fr⟩) k (.slice (some ⟨g, 0, none⟩) n cap) sb kb) := h9
          have HTo1 : Hid (Touch F w Up17u1) := HTo.out.trans (Touch.of_grown hg9 (fun j e _ => by cases e; exact HFg.out)) (fun j hj => .inl hj)
          have hS2 : CtS tb g k x sb (doneT ((mvs Q).take k)) Up17u1 := CtS.of (x := x) (Q := Q) h9 HX1.out rfl (mvs_set _ HKn.out (getx (x := x) HX.out))
          clear h9 hg9
          have hc6 := HT.out.cellAt HKn.out HX.out 6 _ rfl
          have hz6 := HT.out.fz (k * 13 + 6)
          have eW2 : Up17u1 = Up17u0.setCell ⟨g, k * 13 + 6, none⟩ (.bool true) := eW
          go_simp
          rw [← eW2]
          refine hK.out _ _ (hS2) (fun hHeld2 => ?_)
          clear hK K hHeld
          have hHeld := hHeld2
          clear hHeld2
          (try simp only [Act.put, List.setIfInBounds_toArray, List.set_cons_zero, List.set_cons_succ])
          clear eW eW2 hS2 HT HTo hc6 hz6
          refine tkW 14 (some 101) (v := ?_) ?_ hHeld ?_
          rotate_left
          · (intro w hSw; (try dsimp only at hSw); have hS := hSw; have t2 := hS.t2; have c2 := hS.c2; have c3 := hS.c3; have hlk : (Instr.lookup 62 (.map (some sb)) (.agg #[.int .i64 x.m.nd.1, .int .i64 x.m.nd.2]) false).run Try.prog w = .ok (plV q) w := (by have h0 := hS.sm.look1 (goodT _).srt x.m.nd; rw [← HQv.out] at h0; exact h0); go_simp; try with_reducible rfl)
          refine tkW 15 (some 102) (v := ?_) ?_ hHeld ?_
          rotate_left
          · (intro w _; go_simp; try with_reducible rfl)
          refine wpAnyH_ready (rs := [16]) (by kernel_rfl) (by simp) ?_
          refine AllReadyH.cons (o := ⟨none, _, _, _, _, _⟩) rfl (fun K hK => ?_) AllReadyH.nil
          obtain ⟨Up17u2, eW⟩ : ∃ Y, Y = Up17u1.setCells g (k * 13 + 7) (plCells q) := ⟨_, rfl⟩
          obtain ⟨h9, hg9⟩ := HT1.out.over2 (by rw [List.length_set]; exact HKn.out) HX1.out (Nat.le_refl _) ⟨x.m, true, q⟩ rfl 7 (plCells q) (Nat.le_refl 13) rfl
          rw [List.set_set] at h9
          rw [← eW] at h9 hg9
          have HX2 : Hid ((Q.set k ⟨x.m, true, q⟩)[k]? = some ⟨x.m, true, q⟩) := List.getElem?_set_self HKn.out
          have HT2 : Hid (TrIs F Up17u2 tb (Q.set k ⟨x.m, true, q⟩) k (.slice (some ⟨g, 0, none⟩) n cap) sb kb) := h9
          have HTo2 : Hid (Touch F w Up17u2) := HTo1.out.trans (Touch.of_grown hg9 (fun j e _ => by cases e; exact HFg.out)) (fun j hj => .inl hj)
          have hS2 : CtS tb g k x sb (doneT ((mvs Q).take k)) Up17u2 := CtS.of (x := x) (Q := Q) h9 HX2.out rfl (mvs_set _ HKn.out (getx (x := x) HX.out))
          clear h9 hg9
          refine step_store_mid rfl 43 (.tmp 102) (.tmp 98) rfl g (k * 13 + 7) (plCells q).toArray rfl rfl (HT1.out.there (by rw [List.length_set]; exact HKn.out) 7 6 (by decide)) sizePlaced (by simp [Value.oneCell', plCells]) ?_
          rw [← eW]
          refine hK.out _ _ (hS2) (fun hHeld2 => ?_)
          clear hK K hHeld
          have hHeld := hHeld2
          clear hHeld2
          (try simp only [Act.put, List.setIfInBounds_toArray, List.set_cons_zero, List.set_cons_succ])
          clear eW hS2 HT1 HTo1 HX1
          refine wpAnyH_done (by kernel_rfl) ?_ _
          clear hHeld
          go_wp2_with fail
          refine wp_region_held_drew (S := fun W' => CmS g k x W') (by kernel_rfl) (CmS.of (x := x) (Q := Q.set k ⟨x.m, true, q⟩) HT2.out HX2.out rfl).drew (fun hHeld => ?_)
          obtain ⟨Uq18u0, eW⟩ : ∃ X, X = Up17u2.drew := ⟨_, rfl⟩
          have hb : Below Up17u2.heap.size Up17u2 Uq18u0 := by rw [eW]; exact (Below.refl _ _).drew
          replace HT2 : Hid (TrIs F Uq18u0 tb (Q.set k ⟨x.m, true, q⟩) k (.slice (some ⟨g, 0, none⟩) n cap) sb kb) := HT2.out.below hb
          replace HTo2 : Hid (Touch F w Uq18u0) := HTo2.out.trans (Touch.of_below (F := fun _ => False) hb) (fun j h => h.elim)
          rw [← eW] at hHeld ⊢
          clear eW hb
          refine tkW 0 (some 103) (v := ?_) ?_ hHeld ?_
          rotate_left
          · (intro w _; go_simp; try with_reducible rfl)
          refine tkW 1 (some 104) (v := ?_) ?_ hHeld ?_
          rotate_left
          · (intro w _; go_simp; try with_reducible rfl)
          refine tkW 2 (some 105) (v := ?_) ?_ hHeld ?_
          rotate_left
          · (intro w hSw; (try dsimp only at hSw); have hS := hSw; have c0 := hS.c0; have c1 := hS.c1; have c2 := hS.c2; have c3 := hS.c3; have c4 := hS.c4; have c5 := hS.c5; go_simp; try with_reducible rfl)
          refine tkW 3 (some 106) (v := ?_) ?_ hHeld ?_
          rotate_left
          · (intro w _; go_simp; try with_reducible rfl)
          refine tkW 4 (some 107) (v := ?_) ?_ hHeld ?_
          rotate_left
          · (intro w hSw; (try dsimp only at hSw); have hS := hSw; have c0 := hS.c0; have c1 := hS.c1; have c2 := hS.c2; have c3 := hS.c3; have c4 := hS.c4; have c5 := hS.c5; go_simp; try with_reducible rfl)
          refine tkW 5 (some 108) (v := ?_) ?_ hHeld ?_
          rotate_left
          · (intro w _; go_simp; try with_reducible rfl)
          refine tkW 6 (some 109) (v := ?_) ?_ hHeld ?_
          rotate_left
          · (intro w hSw; (try dsimp only at hSw); have hS := hSw; have c0 := hS.c0; have c1 := hS.c1; have c2 := hS.c2; have c3 := hS.c3; have c4 := hS.c4; have c5 := hS.c5; go_simp; try with_reducible rfl)
          refine tkW 7 (some 110) (v := ?_) ?_ hHeld ?_
          rotate_left
          · (intro w _; go_simp; try with_reducible rfl)
          refine tkW 8 (some 111) (v := ?_) ?_ hHeld ?_
          rotate_left
          · (intro w hSw; (try dsimp only at hSw); have hS := hSw; have c0 := hS.c0; have c1 := hS.c1; have c2 := hS.c2; have c3 := hS.c3; have c4 := hS.c4; have c5 := hS.c5; go_simp; try with_reducible rfl)
          refine tkW 9 (some 112) (v := ?_) ?_ hHeld ?_
          rotate_left
          · (intro w _; go_simp; try with_reducible rfl)
          refine tkW 10 (some 113) (v := ?_) ?_ hHeld ?_
          rotate_left
          · (intro w hSw; (try dsimp only at hSw); have hS := hSw; have c0 := hS.c0; have c1 := hS.c1; have c2 := hS.c2; have c3 := hS.c3; have c4 := hS.c4; have c5 := hS.c5; go_simp; try with_reducible rfl)
          refine tkW 11 (some 114) (v := ?_) ?_ hHeld ?_
          rotate_left
          · (intro w _; go_simp; try with_reducible rfl)
          refine tkW 12 (some 115) (v := ?_) ?_ hHeld ?_
          rotate_left
          · (intro w hSw; (try dsimp only at hSw); have hS := hSw; have c0 := hS.c0; have c1 := hS.c1; have c2 := hS.c2; have c3 := hS.c3; have c4 := hS.c4; have c5 := hS.c5; go_simp; try with_reducible rfl)
          refine tkW 13 (some 116) (v := ?_) ?_ hHeld ?_
          rotate_left
          · (intro w _; go_simp; try with_reducible rfl)
          refine tkW 14 (some 117) (v := ?_) ?_ hHeld ?_
          rotate_left
          · (intro w hSw; (try dsimp only at hSw); have hS := hSw; have c0 := hS.c0; have c1 := hS.c1; have c2 := hS.c2; have c3 := hS.c3; have c4 := hS.c4; have c5 := hS.c5; go_simp; try with_reducible rfl)
          refine tkW 15 (some 118) (v := ?_) ?_ hHeld ?_
          rotate_left
          · (intro w _; go_simp; try with_reducible rfl)
          refine tkW 16 (some 119) (v := ?_) ?_ hHeld ?_
          rotate_left
          · (intro w hSw; (try dsimp only at hSw); have hS := hSw; have c0 := hS.c0; have c1 := hS.c1; have c2 := hS.c2; have c3 := hS.c3; have c4 := hS.c4; have c5 := hS.c5; go_simp; try with_reducible rfl)
          refine tkW 17 (some 120) (v := ?_) ?_ hHeld ?_
          rotate_left
          · (intro w hSw; (try dsimp only at hSw); have hS := hSw; have c0 := hS.c0; have c1 := hS.c1; have c2 := hS.c2; have c3 := hS.c3; have c4 := hS.c4; have c5 := hS.c5; go_simp; try with_reducible rfl)
          refine wpAnyH_ready (rs := [18]) (by kernel_rfl) (by simp) ?_
          refine AllReadyH.cons (o := ⟨some 121, _, _, _, _, _⟩) rfl (fun K hK => ?_) AllReadyH.nil
          go_simp
          refine (put_any tb sb kb (.slice (some ⟨g, 0, none⟩) n cap) (.int .i64 (k : Int)) x.m.nd.1 x.m.nd.2 (plOf x.m) (doneT ((mvs (Q.set k ⟨x.m, true, q⟩)).take k)) _ HT2.out.row HT2.out.st HT2.out.kd HT2.out.ne (goodT _).srt (Nat.le_trans (doneT_small HT2.out.small k) (by decide)) (fun _ => rfl)).mono ?_
          rintro e Uq18u1 ⟨⟨v3, rfl⟩, hd3, hk3, ht3⟩
          (try go_wp2_with fail)
          have HNx : Hid (NxT F w tb (mvs R) k n (.slice (some ⟨g, 0, none⟩) n cap) sb kb (Q.set k ⟨x.m, true, q⟩) Uq18u1) := NxT.of_put HEm.out HLen.out HT2.out HTo2.out HKn.out HX.out HCt.out HQv.out hd3 hk3 ht3
          have hS2 : CmS g k x Uq18u1 := hHeld.touch ht3 (fun j hj => by have := HT2.out.lt3 (g := g) rfl; rcases hj with rfl | rfl; exact fun e => this.2.1 e.symm; exact fun e => this.2.2 e.symm)
          refine hK.out _ _ (hS2) (fun hHeld2 => ?_)
          clear hK K hHeld
          have hHeld := hHeld2
          clear hHeld2
          (try simp only [Act.put, List.setIfInBounds_toArray, List.set_cons_zero, List.set_cons_succ])
          clear hd3 hk3 ht3 hS2 HT2 HTo2
          refine wpAnyH_done (by kernel_rfl) ?_ _
          clear hHeld
          have t1 : Uq18u1.cell? ⟨tb, 1, none⟩ = some (.int .i64 (k : Int)) := HNx.out.t1
          have tz : Uq18u1.frozen? ⟨tb, 1, none⟩ = false := HNx.out.tz
          go_wp2
          go_roundg (n - (k + 1))
          case measure => omega
          case rel => exact ⟨_, k + 1, HNx.out.next.1, HNx.out.next.2, HNx.out.em, HNx.out.len, rfl⟩
    · have hkd : decide (k < n) = false := by simp; omega
      rw [hkd]
      clear hkd
      have HE : Hid (∃ P, TrIs F Ud1u0 tb P P.length (.slice a0 n cap) sb kb ∧ mvs P = mvs R) := ⟨P, by (have h9 := HT0.out.ls.le; have h8 := HLen0.out; have e9 : k = P.length := (by omega); have h7 := HT0.out; rw [e9] at h7; exact h7), HEm0.out⟩
      go_wp2
      rw [Exit.noGoto_ret]
      go_ret
      exact ⟨rfl, HE.out, HTo0.out⟩

end Go.Proofs.Ytljepindfdhbbaa
