/- A tree, or a nil one, asked: redone, Where, Counts. -/
import Derived.Test.YtljepindfdhbbaaTrJ
namespace Go.Proofs.Ytljepindfdhbbaa
open Go.RowKit
set_option linter.unusedVariables false
set_option linter.unusedSimpArgs false

theorem wpAnyH_mono {P : Program} {md : Region.Mode} {ops : Array Oper} {Q : Exit → Act → World → Prop} {S S' : World → Prop} (hSS : ∀ w, S' w → S w) :
    ∀ (fuel : Nat) (listed : Array Bool) (a : Act) (w : World), wpAnyH P md ops Q S' fuel listed a w → wpAnyH P md ops Q S fuel listed a w
  | 0, _, _, _, h => h
  | fuel + 1, _, _, _, h => ⟨h.1, fun i hi => wpOp_mono (fun a' w' h' => ⟨hSS _ h'.1, wpAnyH_mono hSS fuel _ a' w' h'.2⟩) (h.2 i hi)⟩
theorem results_cell_row2 {P : Program} {fn : Func} {p u : Tmp} {ty : TypeId} (h : fn.results = #[.cell p ty, .tmp u]) (tmps : Array Value) (w : World) (g : Nat) (t : TypeId) (cs : Array Value) (fr : Nat × Nat) (d : TypeDesc)
    (hp : tmps.getD p undef = .pointer (some ⟨g, 0, none⟩)) (hg : w.heap[g]? = some (.cells cs t fr))
    (hu : P.underlying ty = some d) (hd : (match d with | .struct _ | .array _ _ => true | _ => false) = true) (hi : (P.info? ty).map (·.size) = some cs.size) {k : Value} (hk : tmps.getD u undef = k) :
    (results fn tmps).run P w = .ok (.tuple #[.agg cs, k]) w := by
  rw [results_cell_tmp h, hp, hk]
  simp [asAddr, run_loadVar_row w g t ty cs fr d hg hu hd hi]
theorem SMap.look2 {w : World} {b : Nat} {T : List Pl} (h : SMap w b T) (hs : SrtT T) (s : St) : (Instr.lookup 62 (.map (some b)) (stV s) true).run Try.prog w = .ok (.tuple #[plV ((whT T s).getD zeroPl), .bool (whT T s).isSome]) w := by
  rw [h.look hs s]
  cases whT T s <;> rfl
/-- A tree of these moves, or a nil one of none. -/
def TreeV (F : Nat → Prop) (w : World) (v : Value) (L : List Mv) : Prop := (∃ tb, v = .pointer (some ⟨tb, 0, none⟩) ∧ TreeOk F w tb L) ∨ (v = .pointer none ∧ L = [])
section
variable {F : Nat → Prop} {w w' : World} {v : Value} {L : List Mv}
theorem TreeV.touch (h : TreeV F w v L) {G : Nat → Prop} (ht : Touch G w w') (hG : ∀ k, F k → ¬ G k) : TreeV F w' v L := h.imp (fun ⟨tb, e, h⟩ => ⟨tb, e, h.touch ht hG⟩) id
theorem TreeV.below (h : TreeV F w v L) (hb : Below w.heap.size w w') : TreeV F w' v L := h.imp (fun ⟨tb, e, h⟩ => ⟨tb, e, h.below hb⟩) id
theorem TreeOk.tv {tb : Nat} (h : TreeOk F w tb L) : TreeV F w (.pointer (some ⟨tb, 0, none⟩)) L := .inl ⟨tb, rfl, h⟩
theorem TreeV.ok {tb : Nat} (h : TreeV F w (.pointer (some ⟨tb, 0, none⟩)) L) : TreeOk F w tb L := by
  rcases h with ⟨t, e, h⟩ | ⟨e, _⟩
  · cases e; exact h
  · cases e
end
/-- Where redone is asked. -/
def RedP (F : Nat → Prop) (w : World) (v : Value) (L : List Mv) (e : Ending) (w' : World) : Prop := ∃ tb F2 P lv sb kb, e = .returned (.pointer (some ⟨tb, 0, none⟩)) ∧ TrIs F2 w' tb P P.length lv sb kb ∧ mvs P = L ∧ Touch F w w' ∧ TreeV F w' v L ∧ ∀ j, F2 j → F j ∨ w.heap.size ≤ j

set_option maxHeartbeats 1000000 in
theorem redone_nil (w : World) : Calls Try.prog 41 #[.pointer none] w fun e w' => ∃ tb F, e = .returned (.pointer (some ⟨tb, 0, none⟩)) ∧ TreeOk F w' tb [] ∧ (∀ k, F k → w.heap.size ≤ k) ∧ Below w.heap.size w w' := by
  go_enter Try.func41, Try.ntmps41
  go_wp2
  go_step3
  go_wp2_with fail
  refine (new_any _).mono ?_
  rintro e w' ⟨tb, F, rfl, h1, h2, h3⟩
  have H1 : Hid (TreeOk F w' tb [] ∧ (∀ k, F k → w.heap.size ≤ k) ∧ Below w.heap.size w w') := ⟨h1, h2, h3⟩
  clear h1 h2 h3
  go_wp2
  (try rw [Exit.noGoto_ret])
  go_ret
  exact ⟨tb, F, rfl, H1.out⟩
theorem redone_v (F : Nat → Prop) (v : Value) (L : List Mv) (w : World) (h : TreeV F w v L) : Calls Try.prog 41 #[v] w fun e w' => RedP F w v L e w' := by
  rcases h with ⟨tb, rfl, R, k, lv, sb, kb, h, rfl⟩ | ⟨rfl, rfl⟩
  · refine (redone_any F tb R k lv sb kb w h).mono ?_
    rintro e w' ⟨rfl, ⟨P, h1, h2⟩, h3⟩
    exact ⟨tb, F, P, lv, sb, kb, rfl, h1, h2, h3, .inl ⟨tb, rfl, P, P.length, lv, sb, kb, h1, h2⟩, fun j hj => .inl hj⟩
  · refine (redone_nil w).mono ?_
    rintro e w' ⟨tb, F2, rfl, ⟨R, k, lv, sb, kb, h1, h2⟩, h3, h4⟩
    have hR : R = [] := by simpa using h2
    subst hR
    have hk : k = 0 := by have := h1.ls.le; simpa using this
    subst hk
    exact ⟨tb, F2, [], lv, sb, kb, rfl, h1, h2, Touch.of_below h4, .inr ⟨rfl, rfl⟩, fun j hj => .inr (h3 j hj)⟩
/-- A stamp and a place in boxes. -/
structure Bx2 (N : Nat) (s : St) (W : World) : Prop where
  r0 : W.heap[N]? = some (.cells (stCells s).toArray 27)
  r1 : W.heap[N + 1]? = some (.cells #[.int .i64 0, .int .i64 0, .int .i64 0, .int .i64 0, .int .i64 0, .int .i64 0] 43)
section
variable {N : Nat} {s : St} {W W' : World}
theorem Bx2.keep (h : Bx2 N s W) (hk : ∀ j, N ≤ j → j ≤ N + 1 → W'.heap[j]? = W.heap[j]?) : Bx2 N s W' := ⟨(hk _ (by omega) (by omega)).trans h.r0, (hk _ (by omega) (by omega)).trans h.r1⟩
theorem Bx2.touch (h : Bx2 N s W) {F : Nat → Prop} (ht : Touch F W W') (hF : ∀ j, F j → j < N ∨ N + 1 < j) : Bx2 N s W' := h.keep fun j h1 h2 => ht.block j (by have := row_lt h.r1; omega) (fun h3 => by have := hF j h3; omega)
theorem Bx2.below (h : Bx2 N s W) (hb : Below W.heap.size W W') : Bx2 N s W' := h.keep fun j h1 h2 => hb.block j (by have := row_lt h.r1; omega)
theorem Bx2.drew (h : Bx2 N s W) : Bx2 N s W.drew := h.below (Below.refl _ _).drew
theorem Bx2.n0 (h : Bx2 N s W) : W.cell? ⟨N, 0, none⟩ = some (.int .i64 s.1) := by rw [cell_of_row W _ 0 _ _ _ h.r0]; rfl
theorem Bx2.n1 (h : Bx2 N s W) : W.cell? ⟨N, 1, none⟩ = some (.int .i64 s.2) := by rw [cell_of_row W _ 1 _ _ _ h.r0]; rfl
theorem Bx2.new (w : World) (s : St) : Bx2 w.heap.size s ((w.alloc (.cells (stCells s).toArray 27)).alloc (.cells #[.int .i64 0, .int .i64 0, .int .i64 0, .int .i64 0, .int .i64 0, .int .i64 0] 43)) := by
  refine ⟨?_, ?_⟩
  · exact (Below.heap_alloc _ _ _ (by simp)).trans (heap_alloc_new w _)
  · have := heap_alloc_new (w.alloc (.cells (stCells s).toArray 27)) (.cells #[.int .i64 0, .int .i64 0, .int .i64 0, .int .i64 0, .int .i64 0, .int .i64 0] 43)
    simpa using this
end
/-- A tree is as it was, but for what is redone. -/
def AskP (F : Nat → Prop) (w : World) (v : Value) (L : List Mv) (w' : World) : Prop := TreeV F w' v L ∧ Touch F w w'

set_option maxRecDepth 100000 in
set_option maxHeartbeats 4000000 in
theorem where_any (F : Nat → Prop) (v : Value) (L : List Mv) (s : St) (w : World) (h : TreeV F w v L) (hF : ∀ j, F j → j < w.heap.size) :
    Calls Try.prog 17 #[v, .agg #[.int .i64 s.1, .int .i64 s.2]] w fun e w' => e = .returned (.tuple #[plV ((whT (doneT L) s).getD zeroPl), .bool (whT (doneT L) s).isSome]) ∧ AskP F w v L w' := by
  obtain ⟨W0, eW⟩ : ∃ X, X = (w.alloc (.cells (stCells s).toArray 27)).alloc (.cells #[.int .i64 0, .int .i64 0, .int .i64 0, .int .i64 0, .int .i64 0, .int .i64 0] 43) := ⟨_, rfl⟩
  have hb0 : Below w.heap.size w W0 := by rw [eW]; exact ((Below.refl _ _).alloc (Nat.le_refl _) _).alloc (by simp) _
  have HBs0 : Hid (Bx2 w.heap.size s W0) := by rw [eW]; exact Bx2.new w s
  have HV : Hid (TreeV F W0 v L) := h.below hb0
  have HTo : Hid (Touch F w W0) := Touch.of_below hb0
  obtain ⟨q, eq⟩ : ∃ q, q = (whT (doneT L) s).getD zeroPl := ⟨_, rfl⟩
  obtain ⟨b, eb⟩ : ∃ b, b = (whT (doneT L) s).isSome := ⟨_, rfl⟩
  have HQ : Hid (q = (whT (doneT L) s).getD zeroPl ∧ b = (whT (doneT L) s).isSome) := ⟨eq, eb⟩
  rw [← eq, ← eb]
  obtain ⟨bx, ebx⟩ : ∃ b, b = w.heap.size := ⟨_, rfl⟩
  have HFb : Hid (∀ j, F j → j < bx) := by (rw [ebx]; exact hF)
  have HBx : Hid (w.heap.size ≤ bx) := by rw [ebx]; exact Nat.le_refl _
  have HBs : Hid (Bx2 bx s W0) := by (rw [ebx]; exact HBs0.out)
  have HeB : Hid (bx = w.heap.size) := ebx
  clear h hb0 eq eb ebx HBs0 hF
  obtain ⟨p, rfl⟩ : ∃ p, v = .pointer p := by rcases HV.out with ⟨tb, rfl, _⟩ | ⟨rfl, _⟩ <;> exact ⟨_, rfl⟩
  go_enter Try.func17, Try.ntmps17
  go_wp2
  have eW2 := eW
  simp only [stCells] at eW2
  rw [← eW2, ← HeB.out]
  clear eW2 eW HeB
  refine wp_region_held_drew (S := fun W' => Bx2 bx s W') (by kernel_rfl) HBs.out.drew (fun hHeld => ?_)
  obtain ⟨Ua1u0, eW⟩ : ∃ X, X = W0.drew := ⟨_, rfl⟩
  have hb : Below W0.heap.size W0 Ua1u0 := by rw [eW]; exact (Below.refl _ _).drew
  replace HV : Hid (TreeV F Ua1u0 (.pointer p) L) := HV.out.below hb
  replace HTo : Hid (Touch F w Ua1u0) := HTo.out.trans (Touch.of_below (F := fun _ => False) hb) (fun j h => h.elim)
  rw [← eW] at hHeld ⊢
  clear eW hb
  refine tkW 0 (some 9) (v := ?_) ?_ hHeld ?_
  rotate_left
  · (intro ww _; go_simp; try with_reducible rfl)
  refine tkW 5 (some 14) (v := ?_) ?_ hHeld ?_
  rotate_left
  · (intro ww hSw; (try dsimp only at hSw); have n0 := hSw.n0; have n1 := hSw.n1; go_simp; try with_reducible rfl)
  refine wpAnyH_ready (rs := [1, 10]) (by kernel_rfl) (by simp) ?_
  refine AllReadyH.cons (o := ⟨some 10, _, _, _, _, _⟩) rfl (fun K hK => ?_) (AllReadyH.cons (o := ⟨some 6, _, _, _, _, _⟩) rfl (fun K hK => ?_) AllReadyH.nil)
  · go_simp
    refine (redone_v F (.pointer p) L _ HV.out).mono ?_
    rintro e Ua1u1 ⟨tb, F2, P, lv, sb, kb, rfl, h1, h2, h3, h4, h5⟩
    (try go_wp2_with fail)
    have HTr : Hid (TrIs F2 Ua1u1 tb P P.length lv sb kb) := h1
    have HPm : Hid (mvs P = L) := h2
    replace HTo : Hid (Touch F w Ua1u1) := HTo.out.trans h3 (fun j hj => .inl hj)
    replace HV : Hid (TreeV F Ua1u1 (.pointer p) L) := h4
    have HF2 : Hid (∀ j, F2 j → j < bx ∨ bx + 1 < j) := fun j hj => by rcases h5 j hj with h6 | h6; exact .inl (HFb.out j h6); exact .inr (by have := row_lt hHeld.r1; omega)
    have hS1 : Bx2 bx s Ua1u1 := hHeld.touch h3 (fun j hj => .inl (HFb.out j hj))
    refine hK.out _ _ (hS1) (fun hHeld2 => ?_)
    clear hK K hHeld
    have hHeld := hHeld2
    clear hHeld2
    (try simp only [Act.put, List.setIfInBounds_toArray, List.set_cons_zero, List.set_cons_succ])
    clear h1 h2 h3 h4 h5 hS1
    refine wpAnyH_mono (S' := fun W' => Bx2 bx s W' ∧ TrIs F2 W' tb P P.length lv sb kb) (fun _ h => h.1) _ _ _ _ ?_
    replace hHeld := And.intro hHeld HTr.out
    clear HTr
    refine tkW 2 (some 11) (v := ?_) ?_ hHeld ?_
    rotate_left
    · (intro ww hSw; (try dsimp only at hSw); have t2 := hSw.2.t2; have hlk : (Instr.lookup 62 (.map (some sb)) (.agg #[.int .i64 s.1, .int .i64 s.2]) true).run Try.prog ww = .ok (.tuple #[plV q, .bool b]) ww := (by have h0 := hSw.2.st.look2 (goodT _).srt s; rw [List.take_of_length_le (by simp), HPm.out, ← HQ.out.1, ← HQ.out.2] at h0; exact h0); go_simp; try with_reducible rfl)
    refine tkW 3 (some 12) (v := ?_) ?_ hHeld ?_
    rotate_left
    · (intro ww hSw; (try dsimp only at hSw); have t2 := hSw.2.t2; have hlk : (Instr.lookup 62 (.map (some sb)) (.agg #[.int .i64 s.1, .int .i64 s.2]) true).run Try.prog ww = .ok (.tuple #[plV q, .bool b]) ww := (by have h0 := hSw.2.st.look2 (goodT _).srt s; rw [List.take_of_length_le (by simp), HPm.out, ← HQ.out.1, ← HQ.out.2] at h0; exact h0); go_simp; try with_reducible rfl)
    refine tkW 4 (some 13) (v := ?_) ?_ hHeld ?_
    rotate_left
    · (intro ww hSw; (try dsimp only at hSw); have t2 := hSw.2.t2; have hlk : (Instr.lookup 62 (.map (some sb)) (.agg #[.int .i64 s.1, .int .i64 s.2]) true).run Try.prog ww = .ok (.tuple #[plV q, .bool b]) ww := (by have h0 := hSw.2.st.look2 (goodT _).srt s; rw [List.take_of_length_le (by simp), HPm.out, ← HQ.out.1, ← HQ.out.2] at h0; exact h0); go_simp; try with_reducible rfl)
    refine tkW 6 (some 15) (v := ?_) ?_ hHeld ?_
    rotate_left
    · (intro ww hSw; (try dsimp only at hSw); have t2 := hSw.2.t2; have hlk : (Instr.lookup 62 (.map (some sb)) (.agg #[.int .i64 s.1, .int .i64 s.2]) true).run Try.prog ww = .ok (.tuple #[plV q, .bool b]) ww := (by have h0 := hSw.2.st.look2 (goodT _).srt s; rw [List.take_of_length_le (by simp), HPm.out, ← HQ.out.1, ← HQ.out.2] at h0; exact h0); go_simp; try with_reducible rfl)
    refine tkW 7 (some 8) (v := ?_) ?_ hHeld ?_
    rotate_left
    · (intro ww hSw; (try dsimp only at hSw); have t2 := hSw.2.t2; have hlk : (Instr.lookup 62 (.map (some sb)) (.agg #[.int .i64 s.1, .int .i64 s.2]) true).run Try.prog ww = .ok (.tuple #[plV q, .bool b]) ww := (by have h0 := hSw.2.st.look2 (goodT _).srt s; rw [List.take_of_length_le (by simp), HPm.out, ← HQ.out.1, ← HQ.out.2] at h0; exact h0); go_simp; try with_reducible rfl)
    refine tkW 8 (some 16) (v := ?_) ?_ hHeld ?_
    rotate_left
    · (intro ww hSw; (try dsimp only at hSw); have t2 := hSw.2.t2; have hlk : (Instr.lookup 62 (.map (some sb)) (.agg #[.int .i64 s.1, .int .i64 s.2]) true).run Try.prog ww = .ok (.tuple #[plV q, .bool b]) ww := (by have h0 := hSw.2.st.look2 (goodT _).srt s; rw [List.take_of_length_le (by simp), HPm.out, ← HQ.out.1, ← HQ.out.2] at h0; exact h0); go_simp; try with_reducible rfl)
    refine tkW 9 (some 17) (v := ?_) ?_ hHeld ?_
    rotate_left
    · (intro ww hSw; (try dsimp only at hSw); have t2 := hSw.2.t2; have hlk : (Instr.lookup 62 (.map (some sb)) (.agg #[.int .i64 s.1, .int .i64 s.2]) true).run Try.prog ww = .ok (.tuple #[plV q, .bool b]) ww := (by have h0 := hSw.2.st.look2 (goodT _).srt s; rw [List.take_of_length_le (by simp), HPm.out, ← HQ.out.1, ← HQ.out.2] at h0; exact h0); go_simp; try with_reducible rfl)
    refine wpAnyH_ready (rs := [10]) (by kernel_rfl) (by simp) ?_
    refine AllReadyH.cons (o := ⟨some 6, _, _, _, _, _⟩) rfl (fun K hK => ?_) AllReadyH.nil
    have HNb0 : Hid (bx + 1 < Ua1u1.heap.size ∧ ∀ j, F2 j ∨ F j → j ≠ Ua1u1.heap.size) := ⟨row_lt hHeld.1.r1, fun j hj e => by rcases hj with hj | hj; (have := hHeld.2.lt j hj; omega); (have := HFb.out j hj; have := row_lt hHeld.1.r1; omega)⟩
    have hbx : Below Ua1u1.heap.size Ua1u1 (Ua1u1.alloc (.cells #[.int .i64 0, .int .i64 0, .int .i64 0, .int .i64 0, .int .i64 0, .int .i64 0] 43)) := (Below.refl _ _).alloc (Nat.le_refl _) _
    go_simp
    refine hK.out _ _ (⟨hHeld.1.below hbx, hHeld.2.below hbx⟩) (fun hHeld2 => ?_)
    clear hK K hHeld
    have hHeld := hHeld2
    clear hHeld2
    (try simp only [Act.put, List.setIfInBounds_toArray, List.set_cons_zero, List.set_cons_succ])
    obtain ⟨Ua1u2, eW⟩ : ∃ X, X = Ua1u1.alloc (.cells #[.int .i64 0, .int .i64 0, .int .i64 0, .int .i64 0, .int .i64 0, .int .i64 0] 43) := ⟨_, rfl⟩
    have hb : Below Ua1u1.heap.size Ua1u1 Ua1u2 := by rw [eW]; exact (Below.refl _ _).alloc (Nat.le_refl _) _
    replace HTo : Hid (Touch F w Ua1u2) := HTo.out.trans (Touch.of_below (F := fun _ => False) hb) (fun j h => h.elim)
    replace HV : Hid (TreeV F Ua1u2 (.pointer p) L) := HV.out.below hb
    have HZ : Hid (Ua1u2.heap[Ua1u1.heap.size]? = some (.cells #[.int .i64 0, .int .i64 0, .int .i64 0, .int .i64 0, .int .i64 0, .int .i64 0] 43)) := by rw [eW]; exact heap_alloc_new _ _
    rw [← eW] at hHeld ⊢
    clear eW
    clear hbx
    obtain ⟨nb, enb⟩ : ∃ b, b = Ua1u1.heap.size := ⟨_, rfl⟩
    have HNb : Hid (bx + 1 < nb ∧ ∀ j, F2 j ∨ F j → j ≠ nb) := by rw [enb]; exact HNb0.out
    rw [← enb] at HZ ⊢
    clear enb
    clear HNb0
    clear hb
    refine wpAnyH_ready (rs := [11]) (by kernel_rfl) (by simp) ?_
    refine AllReadyH.cons (o := ⟨none, _, _, _, _, _⟩) rfl (fun K hK => ?_) AllReadyH.nil
    refine step_store_row rfl 43 (.tmp 6) (.tmp 16) rfl nb 43 #[.int .i64 0, .int .i64 0, .int .i64 0, .int .i64 0, .int .i64 0, .int .i64 0] (plCells q).toArray rfl rfl HZ.out sizePlaced rfl (by simp [Value.oneCell', plCells]) ?_
    obtain ⟨Ua1u3, eW⟩ : ∃ Y, Y = Ua1u2.setRow nb (plCells q).toArray := ⟨_, rfl⟩
    have hg9 : Ua1u2.grownBy Ua1u3 (some nb) := by rw [eW]; exact grown_setRow _ _ _
    have ht9 : Touch (fun j => j = nb) Ua1u2 Ua1u3 := Touch.of_grown hg9 fun j e _ => by cases e; rfl
    have HP : Hid (Ua1u3.heap[nb]? = some (.cells (plCells q).toArray 43)) := by rw [eW]; exact setRow_same HZ.out
    rw [← eW]
    replace HV : Hid (TreeV F Ua1u3 (.pointer p) L) := HV.out.touch ht9 (fun j hj e => HNb.out.2 j (.inr hj) e)
    replace HTo : Hid (Touch F w Ua1u3) := HTo.out.trans ht9 (fun j e => .inr (by have := HNb.out.1; have := HBx.out; omega))
    have hS2 : Bx2 bx s Ua1u3 ∧ TrIs F2 Ua1u3 tb P P.length lv sb kb := ⟨hHeld.1.touch ht9 (fun j e => .inr (by have := HNb.out.1; omega)), hHeld.2.touch ht9 (fun j hj e => HNb.out.2 j (.inl hj) e)⟩
    refine hK.out _ _ (hS2) (fun hHeld2 => ?_)
    clear hK K hHeld
    have hHeld := hHeld2
    clear hHeld2
    (try simp only [Act.put, List.setIfInBounds_toArray, List.set_cons_zero, List.set_cons_succ])
    clear eW hg9 ht9 hS2 HZ
    refine tkW 12 (some 7) (v := ?_) ?_ hHeld ?_
    rotate_left
    · (intro ww hSw; (try dsimp only at hSw); have t2 := hSw.2.t2; have hlk : (Instr.lookup 62 (.map (some sb)) (.agg #[.int .i64 s.1, .int .i64 s.2]) true).run Try.prog ww = .ok (.tuple #[plV q, .bool b]) ww := (by have h0 := hSw.2.st.look2 (goodT _).srt s; rw [List.take_of_length_le (by simp), HPm.out, ← HQ.out.1, ← HQ.out.2] at h0; exact h0); go_simp; try with_reducible rfl)
    refine wpAnyH_done (by kernel_rfl) ?_ _
    have HS : Hid (Bx2 bx s Ua1u3) := hHeld.1
    clear hHeld
    have p0 : Ua1u3.cell? ⟨nb, 0, none⟩ = some (.int .i64 q.nd.1) := by rw [cell_of_row Ua1u3 nb 0 _ _ _ HP.out]; rfl
    have p1 : Ua1u3.cell? ⟨nb, 1, none⟩ = some (.int .i64 q.nd.2) := by rw [cell_of_row Ua1u3 nb 1 _ _ _ HP.out]; rfl
    have p2 : Ua1u3.cell? ⟨nb, 2, none⟩ = some (.int .i64 q.pr.1) := by rw [cell_of_row Ua1u3 nb 2 _ _ _ HP.out]; rfl
    have p3 : Ua1u3.cell? ⟨nb, 3, none⟩ = some (.int .i64 q.pr.2) := by rw [cell_of_row Ua1u3 nb 3 _ _ _ HP.out]; rfl
    have p4 : Ua1u3.cell? ⟨nb, 4, none⟩ = some (.int .i64 q.sl.1) := by rw [cell_of_row Ua1u3 nb 4 _ _ _ HP.out]; rfl
    have p5 : Ua1u3.cell? ⟨nb, 5, none⟩ = some (.int .i64 q.sl.2) := by rw [cell_of_row Ua1u3 nb 5 _ _ _ HP.out]; rfl
    obtain ⟨W9, eW9⟩ : ∃ Y, Y = Ua1u3.setRow (bx + 1) (plCells q).toArray := ⟨_, rfl⟩
    have hg9 : Ua1u3.grownBy W9 (some (bx + 1)) := by rw [eW9]; exact grown_setRow _ _ _
    have ht9 : Touch (fun j => j = bx + 1) Ua1u3 W9 := Touch.of_grown hg9 fun j e _ => by cases e; rfl
    have HR9 : Hid (W9.heap[bx + 1]? = some (.cells (plCells q).toArray 43)) := by rw [eW9]; exact setRow_same HS.out.r1
    have HV9 : Hid (TreeV F W9 (.pointer p) L) := HV.out.touch ht9 (fun j hj e => by have := HFb.out j hj; omega)
    have HTo9 : Hid (Touch F w W9) := HTo.out.trans ht9 (fun j e => .inr (by have := HBx.out; omega))
    clear hg9 ht9
    go_wp2_with (refine wpList_store_row rfl 43 (.tmp 4) (.tmp 18) rfl (bx + 1) 43 #[.int .i64 0, .int .i64 0, .int .i64 0, .int .i64 0, .int .i64 0, .int .i64 0] (plCells q).toArray rfl rfl HS.out.r1 sizePlaced rfl (by simp [Value.oneCell', plCells]) ?_)
    rw [← eW9]
    (try simp only [Exit.inBlock, Exit.then])
    refine bodyPost_ret (results_cell_row2 rfl _ _ (bx + 1) _ _ _ _ rfl HR9.out Try.underlying43 rfl sizePlaced rfl) rfl ?_
    exact ⟨rfl, HV9.out, HTo9.out⟩
  · have HNb0 : Hid (bx + 1 < Ua1u0.heap.size ∧ ∀ j, F j → j ≠ Ua1u0.heap.size) := ⟨row_lt hHeld.r1, fun j hj e => by have := HFb.out j hj; have := row_lt hHeld.r1; omega⟩
    have hbx : Below Ua1u0.heap.size Ua1u0 (Ua1u0.alloc (.cells #[.int .i64 0, .int .i64 0, .int .i64 0, .int .i64 0, .int .i64 0, .int .i64 0] 43)) := (Below.refl _ _).alloc (Nat.le_refl _) _
    go_simp
    refine hK.out _ _ (hHeld.below hbx) (fun hHeld2 => ?_)
    clear hK K hHeld
    have hHeld := hHeld2
    clear hHeld2
    (try simp only [Act.put, List.setIfInBounds_toArray, List.set_cons_zero, List.set_cons_succ])
    obtain ⟨Ua1u4, eW⟩ : ∃ X, X = Ua1u0.alloc (.cells #[.int .i64 0, .int .i64 0, .int .i64 0, .int .i64 0, .int .i64 0, .int .i64 0] 43) := ⟨_, rfl⟩
    have hb : Below Ua1u0.heap.size Ua1u0 Ua1u4 := by rw [eW]; exact (Below.refl _ _).alloc (Nat.le_refl _) _
    replace HV : Hid (TreeV F Ua1u4 (.pointer p) L) := HV.out.below hb
    replace HTo : Hid (Touch F w Ua1u4) := HTo.out.trans (Touch.of_below (F := fun _ => False) hb) (fun j h => h.elim)
    have HZ : Hid (Ua1u4.heap[Ua1u0.heap.size]? = some (.cells #[.int .i64 0, .int .i64 0, .int .i64 0, .int .i64 0, .int .i64 0, .int .i64 0] 43)) := by rw [eW]; exact heap_alloc_new _ _
    rw [← eW] at hHeld ⊢
    clear eW
    clear hbx
    obtain ⟨nb, enb⟩ : ∃ b, b = Ua1u0.heap.size := ⟨_, rfl⟩
    have HNb : Hid (bx + 1 < nb ∧ ∀ j, F j → j ≠ nb) := by rw [enb]; exact HNb0.out
    rw [← enb] at HZ ⊢
    clear enb
    clear HNb0
    clear hb
    refine wpAnyH_ready (rs := [1]) (by kernel_rfl) (by simp) ?_
    refine AllReadyH.cons (o := ⟨some 10, _, _, _, _, _⟩) rfl (fun K hK => ?_) AllReadyH.nil
    go_simp
    refine (redone_v F (.pointer p) L _ HV.out).mono ?_
    rintro e Ua1u5 ⟨tb, F2, P, lv, sb, kb, rfl, h1, h2, h3, h4, h5⟩
    (try go_wp2_with fail)
    have HTr : Hid (TrIs F2 Ua1u5 tb P P.length lv sb kb) := h1
    have HPm : Hid (mvs P = L) := h2
    replace HTo : Hid (Touch F w Ua1u5) := HTo.out.trans h3 (fun j hj => .inl hj)
    replace HV : Hid (TreeV F Ua1u5 (.pointer p) L) := h4
    have HF2 : Hid (∀ j, F2 j → j < bx ∨ bx + 1 < j) := fun j hj => by rcases h5 j hj with h6 | h6; exact .inl (HFb.out j h6); exact .inr (by have := row_lt hHeld.r1; omega)
    have HNn : Hid (∀ j, F2 j → j ≠ nb) := fun j hj e => by rcases h5 j hj with h6 | h6; exact HNb.out.2 j h6 e; (have := row_lt HZ.out; omega)
    replace HZ : Hid (Ua1u5.heap[nb]? = some (.cells #[.int .i64 0, .int .i64 0, .int .i64 0, .int .i64 0, .int .i64 0, .int .i64 0] 43)) := (h3.block _ (row_lt HZ.out) (fun hj => HNb.out.2 nb hj rfl)).trans HZ.out
    have hS1 : Bx2 bx s Ua1u5 := hHeld.touch h3 (fun j hj => .inl (HFb.out j hj))
    refine hK.out _ _ (hS1) (fun hHeld2 => ?_)
    clear hK K hHeld
    have hHeld := hHeld2
    clear hHeld2
    (try simp only [Act.put, List.setIfInBounds_toArray, List.set_cons_zero, List.set_cons_succ])
    clear h1 h2 h3 h4 h5 hS1
    refine wpAnyH_mono (S' := fun W' => Bx2 bx s W' ∧ TrIs F2 W' tb P P.length lv sb kb) (fun _ h => h.1) _ _ _ _ ?_
    replace hHeld := And.intro hHeld HTr.out
    clear HTr
    refine tkW 2 (some 11) (v := ?_) ?_ hHeld ?_
    rotate_left
    · (intro ww hSw; (try dsimp only at hSw); have t2 := hSw.2.t2; have hlk : (Instr.lookup 62 (.map (some sb)) (.agg #[.int .i64 s.1, .int .i64 s.2]) true).run Try.prog ww = .ok (.tuple #[plV q, .bool b]) ww := (by have h0 := hSw.2.st.look2 (goodT _).srt s; rw [List.take_of_length_le (by simp), HPm.out, ← HQ.out.1, ← HQ.out.2] at h0; exact h0); go_simp; try with_reducible rfl)
    refine tkW 3 (some 12) (v := ?_) ?_ hHeld ?_
    rotate_left
    · (intro ww hSw; (try dsimp only at hSw); have t2 := hSw.2.t2; have hlk : (Instr.lookup 62 (.map (some sb)) (.agg #[.int .i64 s.1, .int .i64 s.2]) true).run Try.prog ww = .ok (.tuple #[plV q, .bool b]) ww := (by have h0 := hSw.2.st.look2 (goodT _).srt s; rw [List.take_of_length_le (by simp), HPm.out, ← HQ.out.1, ← HQ.out.2] at h0; exact h0); go_simp; try with_reducible rfl)
    refine tkW 4 (some 13) (v := ?_) ?_ hHeld ?_
    rotate_left
    · (intro ww hSw; (try dsimp only at hSw); have t2 := hSw.2.t2; have hlk : (Instr.lookup 62 (.map (some sb)) (.agg #[.int .i64 s.1, .int .i64 s.2]) true).run Try.prog ww = .ok (.tuple #[plV q, .bool b]) ww := (by have h0 := hSw.2.st.look2 (goodT _).srt s; rw [List.take_of_length_le (by simp), HPm.out, ← HQ.out.1, ← HQ.out.2] at h0; exact h0); go_simp; try with_reducible rfl)
    refine tkW 6 (some 15) (v := ?_) ?_ hHeld ?_
    rotate_left
    · (intro ww hSw; (try dsimp only at hSw); have t2 := hSw.2.t2; have hlk : (Instr.lookup 62 (.map (some sb)) (.agg #[.int .i64 s.1, .int .i64 s.2]) true).run Try.prog ww = .ok (.tuple #[plV q, .bool b]) ww := (by have h0 := hSw.2.st.look2 (goodT _).srt s; rw [List.take_of_length_le (by simp), HPm.out, ← HQ.out.1, ← HQ.out.2] at h0; exact h0); go_simp; try with_reducible rfl)
    refine tkW 7 (some 8) (v := ?_) ?_ hHeld ?_
    rotate_left
    · (intro ww hSw; (try dsimp only at hSw); have t2 := hSw.2.t2; have hlk : (Instr.lookup 62 (.map (some sb)) (.agg #[.int .i64 s.1, .int .i64 s.2]) true).run Try.prog ww = .ok (.tuple #[plV q, .bool b]) ww := (by have h0 := hSw.2.st.look2 (goodT _).srt s; rw [List.take_of_length_le (by simp), HPm.out, ← HQ.out.1, ← HQ.out.2] at h0; exact h0); go_simp; try with_reducible rfl)
    refine tkW 8 (some 16) (v := ?_) ?_ hHeld ?_
    rotate_left
    · (intro ww hSw; (try dsimp only at hSw); have t2 := hSw.2.t2; have hlk : (Instr.lookup 62 (.map (some sb)) (.agg #[.int .i64 s.1, .int .i64 s.2]) true).run Try.prog ww = .ok (.tuple #[plV q, .bool b]) ww := (by have h0 := hSw.2.st.look2 (goodT _).srt s; rw [List.take_of_length_le (by simp), HPm.out, ← HQ.out.1, ← HQ.out.2] at h0; exact h0); go_simp; try with_reducible rfl)
    refine tkW 9 (some 17) (v := ?_) ?_ hHeld ?_
    rotate_left
    · (intro ww hSw; (try dsimp only at hSw); have t2 := hSw.2.t2; have hlk : (Instr.lookup 62 (.map (some sb)) (.agg #[.int .i64 s.1, .int .i64 s.2]) true).run Try.prog ww = .ok (.tuple #[plV q, .bool b]) ww := (by have h0 := hSw.2.st.look2 (goodT _).srt s; rw [List.take_of_length_le (by simp), HPm.out, ← HQ.out.1, ← HQ.out.2] at h0; exact h0); go_simp; try with_reducible rfl)
    refine wpAnyH_ready (rs := [11]) (by kernel_rfl) (by simp) ?_
    refine AllReadyH.cons (o := ⟨none, _, _, _, _, _⟩) rfl (fun K hK => ?_) AllReadyH.nil
    refine step_store_row rfl 43 (.tmp 6) (.tmp 16) rfl nb 43 #[.int .i64 0, .int .i64 0, .int .i64 0, .int .i64 0, .int .i64 0, .int .i64 0] (plCells q).toArray rfl rfl HZ.out sizePlaced rfl (by simp [Value.oneCell', plCells]) ?_
    obtain ⟨Ua1u6, eW⟩ : ∃ Y, Y = Ua1u5.setRow nb (plCells q).toArray := ⟨_, rfl⟩
    have hg9 : Ua1u5.grownBy Ua1u6 (some nb) := by rw [eW]; exact grown_setRow _ _ _
    have ht9 : Touch (fun j => j = nb) Ua1u5 Ua1u6 := Touch.of_grown hg9 fun j e _ => by cases e; rfl
    have HP : Hid (Ua1u6.heap[nb]? = some (.cells (plCells q).toArray 43)) := by rw [eW]; exact setRow_same HZ.out
    rw [← eW]
    replace HV : Hid (TreeV F Ua1u6 (.pointer p) L) := HV.out.touch ht9 (fun j hj e => HNb.out.2 j hj e)
    replace HTo : Hid (Touch F w Ua1u6) := HTo.out.trans ht9 (fun j e => .inr (by have := HNb.out.1; have := HBx.out; omega))
    have hS2 : Bx2 bx s Ua1u6 ∧ TrIs F2 Ua1u6 tb P P.length lv sb kb := ⟨hHeld.1.touch ht9 (fun j e => .inr (by have := HNb.out.1; omega)), hHeld.2.touch ht9 (fun j hj e => HNn.out j hj e)⟩
    refine hK.out _ _ (hS2) (fun hHeld2 => ?_)
    clear hK K hHeld
    have hHeld := hHeld2
    clear hHeld2
    (try simp only [Act.put, List.setIfInBounds_toArray, List.set_cons_zero, List.set_cons_succ])
    clear eW hg9 ht9 hS2 HZ
    refine tkW 12 (some 7) (v := ?_) ?_ hHeld ?_
    rotate_left
    · (intro ww hSw; (try dsimp only at hSw); have t2 := hSw.2.t2; have hlk : (Instr.lookup 62 (.map (some sb)) (.agg #[.int .i64 s.1, .int .i64 s.2]) true).run Try.prog ww = .ok (.tuple #[plV q, .bool b]) ww := (by have h0 := hSw.2.st.look2 (goodT _).srt s; rw [List.take_of_length_le (by simp), HPm.out, ← HQ.out.1, ← HQ.out.2] at h0; exact h0); go_simp; try with_reducible rfl)
    refine wpAnyH_done (by kernel_rfl) ?_ _
    have HS : Hid (Bx2 bx s Ua1u6) := hHeld.1
    clear hHeld
    have p0 : Ua1u6.cell? ⟨nb, 0, none⟩ = some (.int .i64 q.nd.1) := by rw [cell_of_row Ua1u6 nb 0 _ _ _ HP.out]; rfl
    have p1 : Ua1u6.cell? ⟨nb, 1, none⟩ = some (.int .i64 q.nd.2) := by rw [cell_of_row Ua1u6 nb 1 _ _ _ HP.out]; rfl
    have p2 : Ua1u6.cell? ⟨nb, 2, none⟩ = some (.int .i64 q.pr.1) := by rw [cell_of_row Ua1u6 nb 2 _ _ _ HP.out]; rfl
    have p3 : Ua1u6.cell? ⟨nb, 3, none⟩ = some (.int .i64 q.pr.2) := by rw [cell_of_row Ua1u6 nb 3 _ _ _ HP.out]; rfl
    have p4 : Ua1u6.cell? ⟨nb, 4, none⟩ = some (.int .i64 q.sl.1) := by rw [cell_of_row Ua1u6 nb 4 _ _ _ HP.out]; rfl
    have p5 : Ua1u6.cell? ⟨nb, 5, none⟩ = some (.int .i64 q.sl.2) := by rw [cell_of_row Ua1u6 nb 5 _ _ _ HP.out]; rfl
    obtain ⟨W9, eW9⟩ : ∃ Y, Y = Ua1u6.setRow (bx + 1) (plCells q).toArray := ⟨_, rfl⟩
    have hg9 : Ua1u6.grownBy W9 (some (bx + 1)) := by rw [eW9]; exact grown_setRow _ _ _
    have ht9 : Touch (fun j => j = bx + 1) Ua1u6 W9 := Touch.of_grown hg9 fun j e _ => by cases e; rfl
    have HR9 : Hid (W9.heap[bx + 1]? = some (.cells (plCells q).toArray 43)) := by rw [eW9]; exact setRow_same HS.out.r1
    have HV9 : Hid (TreeV F W9 (.pointer p) L) := HV.out.touch ht9 (fun j hj e => by have := HFb.out j hj; omega)
    have HTo9 : Hid (Touch F w W9) := HTo.out.trans ht9 (fun j e => .inr (by have := HBx.out; omega))
    clear hg9 ht9
    go_wp2_with (refine wpList_store_row rfl 43 (.tmp 4) (.tmp 18) rfl (bx + 1) 43 #[.int .i64 0, .int .i64 0, .int .i64 0, .int .i64 0, .int .i64 0, .int .i64 0] (plCells q).toArray rfl rfl HS.out.r1 sizePlaced rfl (by simp [Value.oneCell', plCells]) ?_)
    rw [← eW9]
    (try simp only [Exit.inBlock, Exit.then])
    refine bodyPost_ret (results_cell_row2 rfl _ _ (bx + 1) _ _ _ _ rfl HR9.out Try.underlying43 rfl sizePlaced rfl) rfl ?_
    exact ⟨rfl, HV9.out, HTo9.out⟩

end Go.Proofs.Ytljepindfdhbbaa
