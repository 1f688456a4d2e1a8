/- A tree in memory, whatever lies where; New, Len, Do. -/
import Derived.Test.YtljepindfdhbbaaTrI
import Derived.Test.YtljepindfdhbbaaWalksB
namespace Go.Proofs.Ytljepindfdhbbaa
open Go.RowKit
set_option linter.unusedVariables false
set_option linter.unusedSimpArgs false

/-- A tree of these moves. -/
def TreeOk (F : Nat → Prop) (w : World) (tb : Nat) (L : List Mv) : Prop := ∃ R k lv sb kb, TrIs F w tb R k lv sb kb ∧ mvs R = L
section
variable {F F' : Nat → Prop} {w w' : World} {tb : Nat} {L : List Mv}
theorem TreeOk.keep (h : TreeOk F w tb L) (hk : KeepsS F w w') : TreeOk F w' tb L := by obtain ⟨R, k, lv, sb, kb, h, e⟩ := h; exact ⟨R, k, lv, sb, kb, h.keep hk, e⟩
theorem TreeOk.below (h : TreeOk F w tb L) (hb : Below w.heap.size w w') : TreeOk F w' tb L := by obtain ⟨R, k, lv, sb, kb, h, e⟩ := h; exact ⟨R, k, lv, sb, kb, h.below hb, e⟩
theorem TreeOk.touch (h : TreeOk F w tb L) {G : Nat → Prop} (ht : Touch G w w') (hG : ∀ k, F k → ¬ G k) : TreeOk F w' tb L := by obtain ⟨R, k, lv, sb, kb, h, e⟩ := h; exact ⟨R, k, lv, sb, kb, h.touch ht hG, e⟩
theorem TreeOk.lt (h : TreeOk F w tb L) : ∀ k, F k → k < w.heap.size := by obtain ⟨R, k, lv, sb, kb, h, e⟩ := h; exact h.lt
theorem TreeOk.ft (h : TreeOk F w tb L) : F tb := by obtain ⟨R, k, lv, sb, kb, h, e⟩ := h; exact h.ft
theorem TreeOk.srt (h : TreeOk F w tb L) : SrtM L := by obtain ⟨R, k, lv, sb, kb, h, rfl⟩ := h; exact h.ls.srt
theorem TreeOk.small (h : TreeOk F w tb L) : L.length ≤ 4096 := by obtain ⟨R, k, lv, sb, kb, h, rfl⟩ := h; simpa using h.small
end
/-- Another list behind a struct's first cell. -/
structure Listed (F : Nat → Prop) (w W W1 : World) (tb : Nat) (R : List Rw) (k : Nat) (lv : Value) (sb kb : Nat) (lv2 : Value) (R2 : List Rw) : Prop where
  tr : TrIs F W tb R k lv sb kb
  to : Touch F w W
  own : OwnR 0 W1 lv2 R2
  gr : W.grownBy W1 lv.ownBlock
  at_ : lv2.ownBlock = lv.ownBlock ∨ ∃ j, lv2.ownBlock = some j ∧ W.heap.size ≤ j
  ls : LsD R2 k
  em : (mvs R2).take k = (mvs R).take k
  small : R2.length ≤ 4096
section
variable {F : Nat → Prop} {w W W1 : World} {tb : Nat} {R : List Rw} {k : Nat} {lv : Value} {sb kb : Nat} {lv2 : Value} {R2 : List Rw}
theorem Listed.row (h : Listed F w W W1 tb R k lv sb kb lv2 R2) : W1.heap[tb]? = some (.cells #[lv, .int .i64 (k : Int), .map (some sb), .map (some kb)] 66) := (h.gr.block _ (h.tr.lt _ h.tr.ft) (fun e => (h.tr.lt3 e.symm).1 rfl)).trans h.tr.row
theorem Listed.t0 (h : Listed F w W W1 tb R k lv sb kb lv2 R2) : W1.cell? ⟨tb, 0, none⟩ = some lv := by rw [cell_of_row W1 tb 0 _ _ _ h.row]; rfl
theorem Listed.tz (h : Listed F w W W1 tb R k lv sb kb lv2 R2) : W1.frozen? ⟨tb, 0, none⟩ = false := frozen_of_row W1 tb 0 _ _ h.row
theorem Listed.fin (h : Listed F w W W1 tb R k lv sb kb lv2 R2) : TrIs (fun j => F j ∨ lv2.ownBlock = some j) (W1.setCell ⟨tb, 0, none⟩ lv2) tb R2 k lv2 sb kb ∧ (∀ j, lv2.ownBlock = some j → F j ∨ w.heap.size ≤ j) ∧ Touch F w (W1.setCell ⟨tb, 0, none⟩ lv2) := by
  have hg := grownBy_setCell W1 tb 0 lv2
  have hne : ∀ j, lv2.ownBlock = some j → j ≠ tb := fun j e e2 => by
    rcases h.at_ with h1 | ⟨b, h1, h2⟩
    · exact (h.tr.lt3 (g := j) (by rw [← h1]; exact e)).1 e2
    · rw [e] at h1; cases h1; have := h.tr.lt _ h.tr.ft; omega
  have hbk : ∀ j, F j → j ≠ tb → lv.ownBlock ≠ some j → (W1.setCell ⟨tb, 0, none⟩ lv2).heap[j]? = W.heap[j]? := fun j hj h1 h2 => (hg.block j (Nat.lt_of_lt_of_le (h.tr.lt j hj) h.gr.size) (fun e => h1 (by cases e; rfl))).trans (h.gr.block j (h.tr.lt j hj) (fun e => h2 e.symm))
  refine ⟨?_, fun j e => ?_, ?_⟩
  · exact {
      row := by
        rw [heap_setCell_same W1 tb 0 _ _ _ h.row]
        simp
      own := h.own.keep fun j e => hg.block j (h.own.lt j e).2 (fun e2 => hne j e (by cases e2; rfl))
      st := by rw [h.em]; exact h.tr.st.keep (hbk sb h.tr.fs (fun e => h.tr.ts e.symm) (fun e => (h.tr.lt3 e).2.1 rfl))
      kd := by rw [h.em]; exact h.tr.kd.keep (hbk kb h.tr.fk (fun e => h.tr.tk e.symm) (fun e => (h.tr.lt3 e).2.2 rfl))
      ls := h.ls
      small := h.small
      ne := h.tr.ne
      ft := .inl h.tr.ft
      fs := .inl h.tr.fs
      fk := .inl h.tr.fk
      fl := fun j e => .inr e
      lt := fun j hj => by
        rcases hj with hj | hj
        · exact Nat.lt_of_lt_of_le (h.tr.lt j hj) (Nat.le_trans h.gr.size hg.size)
        · exact Nat.lt_of_lt_of_le (h.own.lt j hj).2 hg.size }
  · rcases h.at_ with h1 | ⟨b, h1, h2⟩
    · exact .inl (h.tr.fl j (by rw [← h1]; exact e))
    · rw [e] at h1; cases h1; exact .inr (Nat.le_trans h.to.size h2)
  · exact (h.to.trans (Touch.of_grown (F := F) h.gr fun j e _ => h.tr.fl j e) (fun j hj => .inl hj)).trans (Touch.of_grown (F := F) hg fun j e _ => by cases e; exact h.tr.ft) (fun j hj => .inl hj)
end
/-- Three stamps in boxes. -/
structure Bx3 (N : Nat) (s1 s2 s3 : St) (W : World) : Prop where
  r0 : W.heap[N]? = some (.cells (stCells s1).toArray 27)
  r1 : W.heap[N + 1]? = some (.cells (stCells s2).toArray 27)
  r2 : W.heap[N + 2]? = some (.cells (stCells s3).toArray 27)
section
variable {N : Nat} {s1 s2 s3 : St} {W W' : World}
theorem Bx3.keep (h : Bx3 N s1 s2 s3 W) (hk : ∀ j, N ≤ j → j ≤ N + 2 → W'.heap[j]? = W.heap[j]?) : Bx3 N s1 s2 s3 W' := ⟨(hk _ (by omega) (by omega)).trans h.r0, (hk _ (by omega) (by omega)).trans h.r1, (hk _ (by omega) (by omega)).trans h.r2⟩
theorem Bx3.touch (h : Bx3 N s1 s2 s3 W) {F : Nat → Prop} (ht : Touch F W W') (hF : ∀ j, F j → j < N ∨ N + 2 < j) : Bx3 N s1 s2 s3 W' := h.keep fun j h1 h2 => ht.block j (by have := row_lt h.r2; omega) (fun h3 => by have := hF j h3; omega)
theorem Bx3.below (h : Bx3 N s1 s2 s3 W) (hb : Below W.heap.size W W') : Bx3 N s1 s2 s3 W' := h.keep fun j h1 h2 => hb.block j (by have := row_lt h.r2; omega)
theorem Bx3.drew (h : Bx3 N s1 s2 s3 W) : Bx3 N s1 s2 s3 W.drew := h.below (Below.refl _ _).drew
theorem Bx3.a0 (h : Bx3 N s1 s2 s3 W) : W.cell? ⟨N, 0, none⟩ = some (.int .i64 s1.1) := by rw [cell_of_row W _ 0 _ _ _ h.r0]; rfl
theorem Bx3.a1 (h : Bx3 N s1 s2 s3 W) : W.cell? ⟨N, 1, none⟩ = some (.int .i64 s1.2) := by rw [cell_of_row W _ 1 _ _ _ h.r0]; rfl
theorem Bx3.b0 (h : Bx3 N s1 s2 s3 W) : W.cell? ⟨N + 1, 0, none⟩ = some (.int .i64 s2.1) := by rw [cell_of_row W _ 0 _ _ _ h.r1]; rfl
theorem Bx3.b1 (h : Bx3 N s1 s2 s3 W) : W.cell? ⟨N + 1, 1, none⟩ = some (.int .i64 s2.2) := by rw [cell_of_row W _ 1 _ _ _ h.r1]; rfl
theorem Bx3.c0 (h : Bx3 N s1 s2 s3 W) : W.cell? ⟨N + 2, 0, none⟩ = some (.int .i64 s3.1) := by rw [cell_of_row W _ 0 _ _ _ h.r2]; rfl
theorem Bx3.c1 (h : Bx3 N s1 s2 s3 W) : W.cell? ⟨N + 2, 1, none⟩ = some (.int .i64 s3.2) := by rw [cell_of_row W _ 1 _ _ _ h.r2]; rfl
theorem Bx3.new (w : World) (s1 s2 s3 : St) : Bx3 w.heap.size s1 s2 s3 (((w.alloc (.cells (stCells s1).toArray 27)).alloc (.cells (stCells s2).toArray 27)).alloc (.cells (stCells s3).toArray 27)) := by
  refine ⟨?_, ?_, ?_⟩
  · exact (Below.heap_alloc _ _ _ (by simp; omega)).trans ((Below.heap_alloc _ _ _ (by simp)).trans (heap_alloc_new w _))
  · refine (Below.heap_alloc _ _ _ (by simp)).trans ?_
    have := heap_alloc_new (w.alloc (.cells (stCells s1).toArray 27)) (.cells (stCells s2).toArray 27)
    simpa using this
  · have := heap_alloc_new ((w.alloc (.cells (stCells s1).toArray 27)).alloc (.cells (stCells s2).toArray 27)) (.cells (stCells s3).toArray 27)
    simpa using this
end
theorem right_bel (c r : Int) (w : World) :
    Calls Try.prog 31 #[.agg #[.int .i64 c, .int .i64 r]] w fun e w' => e = .returned (.bool (rightB c r)) ∧ Below w.heap.size w w' :=
  (right_any c r w).mono fun e w' ⟨h, hw⟩ => ⟨h, hw ▸ (Below.refl _ _).alloc (Nat.le_refl _) _⟩
/-- What Do tells, and makes of the moves. -/
def doE (L : List Mv) (m : Mv) : Int := if (rightB m.ts.1 m.ts.2 && rightB m.nd.1 m.nd.2 && nodeB m.pr.1 m.pr.2) = true then (if hasM L m.ts = true then 5 else 0) else 2
def doL (L : List Mv) (m : Mv) : List Mv := if doE L m = 0 then insM L m else L
def DoP (F : Nat → Prop) (w : World) (tb : Nat) (L : List Mv) (m : Mv) (e : Ending) (w' : World) : Prop := e = .returned (.int .i64 (doE L m)) ∧ ∃ F', TreeOk F' w' tb (doL L m) ∧ (∀ k, F k → F' k) ∧ (∀ k, F' k → F k ∨ w.heap.size ≤ k) ∧ Touch F w w'

set_option maxHeartbeats 1000000 in
theorem len_any (F : Nat → Prop) (tb : Nat) (L : List Mv) (w : World) (h : TreeOk F w tb L) :
    Calls Try.prog 39 #[.pointer (some ⟨tb, 0, none⟩)] w fun e w' => e = .returned (.int .i64 (L.length : Int)) ∧ w' = w := by
  obtain ⟨R, k, lv, sb, kb, h, e⟩ := h
  have t0 := h.t0
  obtain ⟨a0, c0, e0⟩ := h.own.form
  subst e0
  have HL : Hid (L.length = R.length) := by (show _ = _; rw [← e]; simp)
  clear h e
  go_enter Try.func39, Try.ntmps39
  go_wp2
  go_ret
  exact ⟨by (rw [HL.out]; rfl), rfl⟩

set_option maxRecDepth 100000 in
set_option maxHeartbeats 8000000 in
theorem do_any (F : Nat → Prop) (tb : Nat) (L : List Mv) (s1 s2 s3 : St) (w : World) (h : TreeOk F w tb L) (hlen : L.length < 4096) :
    Calls Try.prog 11 #[.pointer (some ⟨tb, 0, none⟩), .agg #[.int .i64 s1.1, .int .i64 s1.2], .agg #[.int .i64 s2.1, .int .i64 s2.2], .agg #[.int .i64 s3.1, .int .i64 s3.2]] w fun e w' => DoP F w tb L (⟨s1, s2, s3⟩ : Mv) e w' := by
  obtain ⟨R, k, lv, sb, kb, h, em⟩ := h
  have HEm : Hid (mvs R = L) := em
  have HRl : Hid (R.length < 4096) := by (show _ < _; rw [← em] at hlen; simpa using hlen)
  have HFl : Hid (∀ j, F j → j < w.heap.size) := h.lt
  obtain ⟨W0, eW⟩ : ∃ X, X = (((w.alloc (.cells (stCells s1).toArray 27)).alloc (.cells (stCells s2).toArray 27)).alloc (.cells (stCells s3).toArray 27)) := ⟨_, rfl⟩
  have hb0 : Below w.heap.size w W0 := by rw [eW]; exact (((Below.refl _ _).alloc (Nat.le_refl _) _).alloc (by simp) _).alloc (by simp; omega) _
  have HBx : Hid (Bx3 w.heap.size s1 s2 s3 W0) := by rw [eW]; exact Bx3.new w s1 s2 s3
  have HT : Hid (TrIs F W0 tb R k lv sb kb) := h.below hb0
  have HTl : Hid (tb < w.heap.size) := h.lt _ h.ft
  have HTo : Hid (Touch F w W0) := Touch.of_below hb0
  clear h hb0 em
  have a0 : W0.cell? ⟨w.heap.size, 0, none⟩ = some (.int .i64 s1.1) := HBx.out.a0
  have a1 : W0.cell? ⟨w.heap.size, 1, none⟩ = some (.int .i64 s1.2) := HBx.out.a1
  have b0 : W0.cell? ⟨w.heap.size + 1, 0, none⟩ = some (.int .i64 s2.1) := HBx.out.b0
  have b1 : W0.cell? ⟨w.heap.size + 1, 1, none⟩ = some (.int .i64 s2.2) := HBx.out.b1
  have c0 : W0.cell? ⟨w.heap.size + 2, 0, none⟩ = some (.int .i64 s3.1) := HBx.out.c0
  have c1 : W0.cell? ⟨w.heap.size + 2, 1, none⟩ = some (.int .i64 s3.2) := HBx.out.c1
  rw [eW] at a0 a1 b0 b1 c0 c1
  cases hA : rightB s1.1 s1.2 with
  | false =>
    have HE : Hid (doE L (⟨s1, s2, s3⟩ : Mv) = 2) := by (show _ = _; unfold doE; simp [hA])
    have HL : Hid (doL L (⟨s1, s2, s3⟩ : Mv) = L) := by (unfold doL; rw [HE.out]; rfl)
    go_enter Try.func11, Try.ntmps11
    go_wp2_with fail
    have eW2 := eW
    simp only [stCells] at eW2
    rw [← eW2]
    clear eW2 eW
    refine (right_bel s1.1 s1.2 _).mono ?_
    rintro e w1 ⟨rfl, hb⟩
    replace HT : Hid (TrIs F w1 tb R k lv sb kb) := HT.out.below hb
    replace HTo : Hid (Touch F w w1) := HTo.out.trans (Touch.of_below (F := fun _ => False) hb) (fun j h => h.elim)
    replace HBx : Hid (Bx3 w.heap.size s1 s2 s3 w1) := HBx.out.below hb
    clear hb
    clear a0 a1 b0 b1 c0 c1
    have a0 : w1.cell? ⟨w.heap.size, 0, none⟩ = some (.int .i64 s1.1) := HBx.out.a0
    have a1 : w1.cell? ⟨w.heap.size, 1, none⟩ = some (.int .i64 s1.2) := HBx.out.a1
    have b0 : w1.cell? ⟨w.heap.size + 1, 0, none⟩ = some (.int .i64 s2.1) := HBx.out.b0
    have b1 : w1.cell? ⟨w.heap.size + 1, 1, none⟩ = some (.int .i64 s2.2) := HBx.out.b1
    have c0 : w1.cell? ⟨w.heap.size + 2, 0, none⟩ = some (.int .i64 s3.1) := HBx.out.c0
    have c1 : w1.cell? ⟨w.heap.size + 2, 1, none⟩ = some (.int .i64 s3.2) := HBx.out.c1
    rw [hA]
    go_wp2
    go_ret
    exact ⟨by (rw [HE.out]; rfl), F, by (rw [HL.out]; exact ⟨R, k, lv, sb, kb, HT.out, HEm.out⟩), fun _ h => h, fun _ h => .inl h, HTo.out⟩
  | true =>
    cases hN : rightB s2.1 s2.2 with
    | false =>
      have HE : Hid (doE L (⟨s1, s2, s3⟩ : Mv) = 2) := by (show _ = _; unfold doE; simp [hN])
      have HL : Hid (doL L (⟨s1, s2, s3⟩ : Mv) = L) := by (unfold doL; rw [HE.out]; rfl)
      go_enter Try.func11, Try.ntmps11
      go_wp2_with fail
      have eW2 := eW
      simp only [stCells] at eW2
      rw [← eW2]
      clear eW2 eW
      refine (right_bel s1.1 s1.2 _).mono ?_
      rintro e w1 ⟨rfl, hb⟩
      replace HT : Hid (TrIs F w1 tb R k lv sb kb) := HT.out.below hb
      replace HTo : Hid (Touch F w w1) := HTo.out.trans (Touch.of_below (F := fun _ => False) hb) (fun j h => h.elim)
      replace HBx : Hid (Bx3 w.heap.size s1 s2 s3 w1) := HBx.out.below hb
      clear hb
      clear a0 a1 b0 b1 c0 c1
      have a0 : w1.cell? ⟨w.heap.size, 0, none⟩ = some (.int .i64 s1.1) := HBx.out.a0
      have a1 : w1.cell? ⟨w.heap.size, 1, none⟩ = some (.int .i64 s1.2) := HBx.out.a1
      have b0 : w1.cell? ⟨w.heap.size + 1, 0, none⟩ = some (.int .i64 s2.1) := HBx.out.b0
      have b1 : w1.cell? ⟨w.heap.size + 1, 1, none⟩ = some (.int .i64 s2.2) := HBx.out.b1
      have c0 : w1.cell? ⟨w.heap.size + 2, 0, none⟩ = some (.int .i64 s3.1) := HBx.out.c0
      have c1 : w1.cell? ⟨w.heap.size + 2, 1, none⟩ = some (.int .i64 s3.2) := HBx.out.c1
      rw [hA]
      go_wp2_with fail
      refine (right_bel s2.1 s2.2 _).mono ?_
      rintro e w2 ⟨rfl, hb⟩
      replace HT : Hid (TrIs F w2 tb R k lv sb kb) := HT.out.below hb
      replace HTo : Hid (Touch F w w2) := HTo.out.trans (Touch.of_below (F := fun _ => False) hb) (fun j h => h.elim)
      replace HBx : Hid (Bx3 w.heap.size s1 s2 s3 w2) := HBx.out.below hb
      clear hb
      clear a0 a1 b0 b1 c0 c1
      have a0 : w2.cell? ⟨w.heap.size, 0, none⟩ = some (.int .i64 s1.1) := HBx.out.a0
      have a1 : w2.cell? ⟨w.heap.size, 1, none⟩ = some (.int .i64 s1.2) := HBx.out.a1
      have b0 : w2.cell? ⟨w.heap.size + 1, 0, none⟩ = some (.int .i64 s2.1) := HBx.out.b0
      have b1 : w2.cell? ⟨w.heap.size + 1, 1, none⟩ = some (.int .i64 s2.2) := HBx.out.b1
      have c0 : w2.cell? ⟨w.heap.size + 2, 0, none⟩ = some (.int .i64 s3.1) := HBx.out.c0
      have c1 : w2.cell? ⟨w.heap.size + 2, 1, none⟩ = some (.int .i64 s3.2) := HBx.out.c1
      rw [hN]
      go_wp2
      go_ret
      exact ⟨by (rw [HE.out]; rfl), F, by (rw [HL.out]; exact ⟨R, k, lv, sb, kb, HT.out, HEm.out⟩), fun _ h => h, fun _ h => .inl h, HTo.out⟩
    | true =>
      cases hP : nodeB s3.1 s3.2 with
      | false =>
        have HE : Hid (doE L (⟨s1, s2, s3⟩ : Mv) = 2) := by (show _ = _; unfold doE; simp [hP])
        have HL : Hid (doL L (⟨s1, s2, s3⟩ : Mv) = L) := by (unfold doL; rw [HE.out]; rfl)
        go_enter Try.func11, Try.ntmps11
        go_wp2_with fail
        have eW2 := eW
        simp only [stCells] at eW2
        rw [← eW2]
        clear eW2 eW
        refine (right_bel s1.1 s1.2 _).mono ?_
        rintro e w1 ⟨rfl, hb⟩
        replace HT : Hid (TrIs F w1 tb R k lv sb kb) := HT.out.below hb
        replace HTo : Hid (Touch F w w1) := HTo.out.trans (Touch.of_below (F := fun _ => False) hb) (fun j h => h.elim)
        replace HBx : Hid (Bx3 w.heap.size s1 s2 s3 w1) := HBx.out.below hb
        clear hb
        clear a0 a1 b0 b1 c0 c1
        have a0 : w1.cell? ⟨w.heap.size, 0, none⟩ = some (.int .i64 s1.1) := HBx.out.a0
        have a1 : w1.cell? ⟨w.heap.size, 1, none⟩ = some (.int .i64 s1.2) := HBx.out.a1
        have b0 : w1.cell? ⟨w.heap.size + 1, 0, none⟩ = some (.int .i64 s2.1) := HBx.out.b0
        have b1 : w1.cell? ⟨w.heap.size + 1, 1, none⟩ = some (.int .i64 s2.2) := HBx.out.b1
        have c0 : w1.cell? ⟨w.heap.size + 2, 0, none⟩ = some (.int .i64 s3.1) := HBx.out.c0
        have c1 : w1.cell? ⟨w.heap.size + 2, 1, none⟩ = some (.int .i64 s3.2) := HBx.out.c1
        rw [hA]
        go_wp2_with fail
        refine (right_bel s2.1 s2.2 _).mono ?_
        rintro e w2 ⟨rfl, hb⟩
        replace HT : Hid (TrIs F w2 tb R k lv sb kb) := HT.out.below hb
        replace HTo : Hid (Touch F w w2) := HTo.out.trans (Touch.of_below (F := fun _ => False) hb) (fun j h => h.elim)
        replace HBx : Hid (Bx3 w.heap.size s1 s2 s3 w2) := HBx.out.below hb
        clear hb
        clear a0 a1 b0 b1 c0 c1
        have a0 : w2.cell? ⟨w.heap.size, 0, none⟩ = some (.int .i64 s1.1) := HBx.out.a0
        have a1 : w2.cell? ⟨w.heap.size, 1, none⟩ = some (.int .i64 s1.2) := HBx.out.a1
        have b0 : w2.cell? ⟨w.heap.size + 1, 0, none⟩ = some (.int .i64 s2.1) := HBx.out.b0
        have b1 : w2.cell? ⟨w.heap.size + 1, 1, none⟩ = some (.int .i64 s2.2) := HBx.out.b1
        have c0 : w2.cell? ⟨w.heap.size + 2, 0, none⟩ = some (.int .i64 s3.1) := HBx.out.c0
        have c1 : w2.cell? ⟨w.heap.size + 2, 1, none⟩ = some (.int .i64 s3.2) := HBx.out.c1
        rw [hN]
        go_wp2_with fail
        refine (node_any s3.1 s3.2 _).mono ?_
        rintro e w3 ⟨rfl, hb⟩
        replace HT : Hid (TrIs F w3 tb R k lv sb kb) := HT.out.below hb
        replace HTo : Hid (Touch F w w3) := HTo.out.trans (Touch.of_below (F := fun _ => False) hb) (fun j h => h.elim)
        replace HBx : Hid (Bx3 w.heap.size s1 s2 s3 w3) := HBx.out.below hb
        clear hb
        clear a0 a1 b0 b1 c0 c1
        have a0 : w3.cell? ⟨w.heap.size, 0, none⟩ = some (.int .i64 s1.1) := HBx.out.a0
        have a1 : w3.cell? ⟨w.heap.size, 1, none⟩ = some (.int .i64 s1.2) := HBx.out.a1
        have b0 : w3.cell? ⟨w.heap.size + 1, 0, none⟩ = some (.int .i64 s2.1) := HBx.out.b0
        have b1 : w3.cell? ⟨w.heap.size + 1, 1, none⟩ = some (.int .i64 s2.2) := HBx.out.b1
        have c0 : w3.cell? ⟨w.heap.size + 2, 0, none⟩ = some (.int .i64 s3.1) := HBx.out.c0
        have c1 : w3.cell? ⟨w.heap.size + 2, 1, none⟩ = some (.int .i64 s3.2) := HBx.out.c1
        rw [hP]
        go_wp2
        go_ret
        exact ⟨by (rw [HE.out]; rfl), F, by (rw [HL.out]; exact ⟨R, k, lv, sb, kb, HT.out, HEm.out⟩), fun _ h => h, fun _ h => .inl h, HTo.out⟩
      | true =>
        have HNz : Hid (s2 ≠ (0, 0)) := fun e => by (rw [e] at hN; simp [rightB] at hN)
        go_enter Try.func11, Try.ntmps11
        go_wp2_with fail
        have eW2 := eW
        simp only [stCells] at eW2
        rw [← eW2]
        clear eW2 eW
        refine (right_bel s1.1 s1.2 _).mono ?_
        rintro e w1 ⟨rfl, hb⟩
        replace HT : Hid (TrIs F w1 tb R k lv sb kb) := HT.out.below hb
        replace HTo : Hid (Touch F w w1) := HTo.out.trans (Touch.of_below (F := fun _ => False) hb) (fun j h => h.elim)
        replace HBx : Hid (Bx3 w.heap.size s1 s2 s3 w1) := HBx.out.below hb
        clear hb
        clear a0 a1 b0 b1 c0 c1
        have a0 : w1.cell? ⟨w.heap.size, 0, none⟩ = some (.int .i64 s1.1) := HBx.out.a0
        have a1 : w1.cell? ⟨w.heap.size, 1, none⟩ = some (.int .i64 s1.2) := HBx.out.a1
        have b0 : w1.cell? ⟨w.heap.size + 1, 0, none⟩ = some (.int .i64 s2.1) := HBx.out.b0
        have b1 : w1.cell? ⟨w.heap.size + 1, 1, none⟩ = some (.int .i64 s2.2) := HBx.out.b1
        have c0 : w1.cell? ⟨w.heap.size + 2, 0, none⟩ = some (.int .i64 s3.1) := HBx.out.c0
        have c1 : w1.cell? ⟨w.heap.size + 2, 1, none⟩ = some (.int .i64 s3.2) := HBx.out.c1
        rw [hA]
        go_wp2_with fail
        refine (right_bel s2.1 s2.2 _).mono ?_
        rintro e w2 ⟨rfl, hb⟩
        replace HT : Hid (TrIs F w2 tb R k lv sb kb) := HT.out.below hb
        replace HTo : Hid (Touch F w w2) := HTo.out.trans (Touch.of_below (F := fun _ => False) hb) (fun j h => h.elim)
        replace HBx : Hid (Bx3 w.heap.size s1 s2 s3 w2) := HBx.out.below hb
        clear hb
        clear a0 a1 b0 b1 c0 c1
        have a0 : w2.cell? ⟨w.heap.size, 0, none⟩ = some (.int .i64 s1.1) := HBx.out.a0
        have a1 : w2.cell? ⟨w.heap.size, 1, none⟩ = some (.int .i64 s1.2) := HBx.out.a1
        have b0 : w2.cell? ⟨w.heap.size + 1, 0, none⟩ = some (.int .i64 s2.1) := HBx.out.b0
        have b1 : w2.cell? ⟨w.heap.size + 1, 1, none⟩ = some (.int .i64 s2.2) := HBx.out.b1
        have c0 : w2.cell? ⟨w.heap.size + 2, 0, none⟩ = some (.int .i64 s3.1) := HBx.out.c0
        have c1 : w2.cell? ⟨w.heap.size + 2, 1, none⟩ = some (.int .i64 s3.2) := HBx.out.c1
        rw [hN]
        go_wp2_with fail
        refine (node_any s3.1 s3.2 _).mono ?_
        rintro e w3 ⟨rfl, hb⟩
        replace HT : Hid (TrIs F w3 tb R k lv sb kb) := HT.out.below hb
        replace HTo : Hid (Touch F w w3) := HTo.out.trans (Touch.of_below (F := fun _ => False) hb) (fun j h => h.elim)
        replace HBx : Hid (Bx3 w.heap.size s1 s2 s3 w3) := HBx.out.below hb
        clear hb
        clear a0 a1 b0 b1 c0 c1
        have a0 : w3.cell? ⟨w.heap.size, 0, none⟩ = some (.int .i64 s1.1) := HBx.out.a0
        have a1 : w3.cell? ⟨w.heap.size, 1, none⟩ = some (.int .i64 s1.2) := HBx.out.a1
        have b0 : w3.cell? ⟨w.heap.size + 1, 0, none⟩ = some (.int .i64 s2.1) := HBx.out.b0
        have b1 : w3.cell? ⟨w.heap.size + 1, 1, none⟩ = some (.int .i64 s2.2) := HBx.out.b1
        have c0 : w3.cell? ⟨w.heap.size + 2, 0, none⟩ = some (.int .i64 s3.1) := HBx.out.c0
        have c1 : w3.cell? ⟨w.heap.size + 2, 1, none⟩ = some (.int .i64 s3.2) := HBx.out.c1
        rw [hP]
        go_wp2_with fail
        refine (find_any F tb R k lv sb kb s1.1 s1.2 _ HT.out).mono ?_
        rintro e w4 ⟨i, b, rfl, hpl, hbb, hb⟩
        replace HT : Hid (TrIs F w4 tb R k lv sb kb) := HT.out.below hb
        replace HTo : Hid (Touch F w w4) := HTo.out.trans (Touch.of_below (F := fun _ => False) hb) (fun j h => h.elim)
        replace HBx : Hid (Bx3 w.heap.size s1 s2 s3 w4) := HBx.out.below hb
        have HPl : Hid (PlcM (mvs R) s1 i) := hpl
        have HHs : Hid (b = hasM (mvs R) s1) := hbb
        clear hb hpl hbb a0 a1 b0 b1 c0 c1
        cases b with
        | true =>
          have HE : Hid (doE L (⟨s1, s2, s3⟩ : Mv) = 5) := by (show _ = _; unfold doE; rw [← HEm.out]; simp [hA, hN, hP]; exact HHs.out.symm)
          have HL : Hid (doL L (⟨s1, s2, s3⟩ : Mv) = L) := by (unfold doL; rw [HE.out]; rfl)
          go_wp2
          go_ret
          exact ⟨by (rw [HE.out]; rfl), F, by (rw [HL.out]; exact ⟨R, k, lv, sb, kb, HT.out, HEm.out⟩), fun _ h => h, fun _ h => .inl h, HTo.out⟩
        | false =>
          have HHas : Hid (hasM (mvs R) s1 = false) := HHs.out.symm
          have HE : Hid (doE L (⟨s1, s2, s3⟩ : Mv) = 0) := by (show _ = _; unfold doE; rw [← HEm.out]; simp [hA, hN, hP]; exact HHas.out)
          have HL : Hid (doL L (⟨s1, s2, s3⟩ : Mv) = insM L (⟨s1, s2, s3⟩ : Mv)) := by (unfold doL; rw [HE.out]; rfl)
          have HIl : Hid (i ≤ R.length) := by (show _ ≤ _; have := HPl.out.le; simpa using this)
          clear HHs hA hN hP
          go_wp2_with fail
          refine (rewind_any F tb R k lv sb kb i _ HT.out).mono ?_
          rintro e w5 ⟨⟨v5, rfl⟩, hT5, ht5⟩
          replace HBx : Hid (Bx3 w.heap.size s1 s2 s3 w5) := HBx.out.touch ht5 (fun j hj => by have := HFl.out j hj; omega)
          replace HTo : Hid (Touch F w w5) := HTo.out.trans ht5 (fun j hj => .inl hj)
          have HT5 : Hid (TrIs F w5 tb R (min k i) lv sb kb) := hT5
          have HKi : Hid (min k i ≤ i) := Nat.min_le_right _ _
          clear HT hT5 ht5
          obtain ⟨k, hk⟩ : ∃ k', k' = min k i := ⟨_, rfl⟩
          rw [← hk] at HT5 HKi
          clear hk
          have HT : Hid (TrIs F w5 tb R k lv sb kb) := HT5
          clear HT5
          obtain ⟨a9, c9, e9⟩ := HT.out.own.form
          subst e9
          go_wp2_with fail
          obtain ⟨bx, ebx⟩ : ∃ b, b = w.heap.size := ⟨_, rfl⟩
          have HFlb : Hid (∀ j, F j → j < bx) := by (rw [ebx]; exact HFl.out)
          have HTlb : Hid (tb < bx) := by (rw [ebx]; exact HTl.out)
          rw [← ebx] at HBx ⊢
          clear ebx
          refine wp_region_held_drew (S := fun W' => Bx3 bx s1 s2 s3 W') (by kernel_rfl) HBx.out.drew (fun hHeld => ?_)
          obtain ⟨Ud1u0, eW⟩ : ∃ X, X = w5.drew := ⟨_, rfl⟩
          have hb : Below w5.heap.size w5 Ud1u0 := by rw [eW]; exact (Below.refl _ _).drew
          replace HT : Hid (TrIs F Ud1u0 tb R k (.slice a9 R.length c9) sb kb) := HT.out.below hb
          replace HTo : Hid (Touch F w Ud1u0) := HTo.out.trans (Touch.of_below (F := fun _ => False) hb) (fun j h => h.elim)
          rw [← eW] at hHeld ⊢
          clear eW hb
          refine tkW 0 (some 36) (v := ?_) ?_ hHeld ?_
          rotate_left
          · (intro ww _; go_simp; try with_reducible rfl)
          refine tkW 1 (some 37) (v := ?_) ?_ hHeld ?_
          rotate_left
          · (intro ww _; go_simp; try with_reducible rfl)
          refine tkW 2 (some 38) (v := ?_) ?_ hHeld ?_
          rotate_left
          · (intro ww hSw; (try dsimp only at hSw); have hS := hSw; have a0 := hS.a0; have a1 := hS.a1; have b0 := hS.b0; have b1 := hS.b1; have c0 := hS.c0; have c1 := hS.c1; go_simp; try with_reducible rfl)
          refine tkW 3 (some 39) (v := ?_) ?_ hHeld ?_
          rotate_left
          · (intro ww _; go_simp; try with_reducible rfl)
          refine tkW 5 (some 41) (v := ?_) ?_ hHeld ?_
          rotate_left
          · (intro ww _; go_simp; try with_reducible rfl)
          refine tkW 6 (some 42) (v := ?_) ?_ hHeld ?_
          rotate_left
          · (intro ww hSw; (try dsimp only at hSw); have hS := hSw; have a0 := hS.a0; have a1 := hS.a1; have b0 := hS.b0; have b1 := hS.b1; have c0 := hS.c0; have c1 := hS.c1; go_simp; try with_reducible rfl)
          refine tkW 7 (some 43) (v := ?_) ?_ hHeld ?_
          rotate_left
          · (intro ww hSw; (try dsimp only at hSw); have hS := hSw; have a0 := hS.a0; have a1 := hS.a1; have b0 := hS.b0; have b1 := hS.b1; have c0 := hS.c0; have c1 := hS.c1; go_simp; try with_reducible rfl)
          refine tkW 8 (some 44) (v := ?_) ?_ hHeld ?_
          rotate_left
          · (intro ww hSw; (try dsimp only at hSw); have hS := hSw; have a0 := hS.a0; have a1 := hS.a1; have b0 := hS.b0; have b1 := hS.b1; have c0 := hS.c0; have c1 := hS.c1; go_simp; try with_reducible rfl)
          refine tkW 9 (some 45) (v := ?_) ?_ hHeld ?_
          rotate_left
          · (intro ww hSw; (try dsimp only at hSw); have hS := hSw; have a0 := hS.a0; have a1 := hS.a1; have b0 := hS.b0; have b1 := hS.b1; have c0 := hS.c0; have c1 := hS.c1; go_simp; try with_reducible rfl)
          refine wpAnyH_ready (rs := [4, 10]) (by kernel_rfl) (by simp) ?_
          refine AllReadyH.cons (o := ⟨some 40, _, _, _, _, _⟩) rfl (fun K hK => ?_) (AllReadyH.cons (o := ⟨some 46, _, _, _, _, _⟩) rfl (fun K hK => ?_) AllReadyH.nil)
          · have t0 := HT.out.t0
            go_simp
            refine hK.out _ _ (hHeld) (fun hHeld2 => ?_)
            clear hK K hHeld
            have hHeld := hHeld2
            clear hHeld2
            (try simp only [Act.put, List.setIfInBounds_toArray, List.set_cons_zero, List.set_cons_succ])
            clear t0
            refine wpAnyH_ready (rs := [10]) (by kernel_rfl) (by simp) ?_
            refine AllReadyH.cons (o := ⟨some 46, _, _, _, _, _⟩) rfl (fun K hK => ?_) AllReadyH.nil
            obtain ⟨Ud1u2, eW⟩ : ∃ Y, Y = Ud1u0.alloc (.cells (rwCells ⟨(⟨s1, s2, s3⟩ : Mv), false, zeroPl⟩).toArray 69) := ⟨_, rfl⟩
            have hb : Below Ud1u0.heap.size Ud1u0 Ud1u2 := by rw [eW]; exact (Below.refl _ _).alloc (Nat.le_refl _) _
            have HV : Hid (Ud1u2.heap[Ud1u0.heap.size]? = some (.cells (rwCells ⟨(⟨s1, s2, s3⟩ : Mv), false, zeroPl⟩).toArray 69)) := by rw [eW]; exact heap_alloc_new _ _
            have HVn : Hid (∀ j, F j → j ≠ Ud1u0.heap.size) := fun j hj e => by have := HT.out.lt j hj; omega
            have HeW : Hid (Ud1u2 = Ud1u0.alloc (.cells (rwCells ⟨(⟨s1, s2, s3⟩ : Mv), false, zeroPl⟩).toArray 69)) := eW
            clear eW
            go_simp
            rw [show Ud1u0.alloc (.cells #[.int .i64 s1.1, .int .i64 s1.2, .int .i64 s2.1, .int .i64 s2.2, .int .i64 s3.1, .int .i64 s3.2, .bool false, .int .i64 0, .int .i64 0, .int .i64 0, .int .i64 0, .int .i64 0, .int .i64 0] 69) = Ud1u2 from HeW.out.symm]
            refine hK.out _ _ (hHeld.below hb) (fun hHeld2 => ?_)
            clear hK K hHeld
            have hHeld := hHeld2
            clear hHeld2
            (try simp only [Act.put, List.setIfInBounds_toArray, List.set_cons_zero, List.set_cons_succ])
            replace HT : Hid (TrIs F Ud1u2 tb R k (.slice a9 R.length c9) sb kb) := HT.out.below hb
            replace HTo : Hid (Touch F w Ud1u2) := HTo.out.trans (Touch.of_below (F := fun _ => False) hb) (fun j h => h.elim)
            clear hb HeW
            obtain ⟨vb, evb⟩ : ∃ b, b = Ud1u0.heap.size := ⟨_, rfl⟩
            rw [← evb] at HV HVn ⊢
            clear evb
            refine wpAnyH_ready (rs := [11]) (by kernel_rfl) (by simp) ?_
            refine AllReadyH.cons (o := ⟨some 47, _, _, _, _, _⟩) rfl (fun K hK => ?_) AllReadyH.nil
            go_simp
            refine (insert_any (.slice a9 R.length c9) R i ⟨(⟨s1, s2, s3⟩ : Mv), false, zeroPl⟩ vb _ HT.out.own HT.out.small HIl.out HV.out (fun e => HVn.out vb (HT.out.fl vb e) rfl)).mono ?_
            rintro e Ud1u3 ⟨lv2, rfl, ho, hg, hlv⟩
            (try go_wp2_with fail)
            obtain ⟨hLs, hMs⟩ := HT.out.ls.ins (m := (⟨s1, s2, s3⟩ : Mv)) (x := ⟨(⟨s1, s2, s3⟩ : Mv), false, zeroPl⟩) HPl.out HHas.out HKi.out HNz.out rfl
            have HRd : Hid (Listed F w Ud1u2 Ud1u3 tb R k (.slice a9 R.length c9) sb kb lv2 (R.take i ++ ⟨(⟨s1, s2, s3⟩ : Mv), false, zeroPl⟩ :: R.drop i)) := ⟨HT.out, HTo.out, ho, hg, hlv, hLs, by (rw [hMs]; exact take_insM HPl.out HHas.out HKi.out), by (simp only [List.length_append, List.length_cons, List.length_take, List.length_drop]; have h1 := HIl.out; have h2 := HRl.out; omega)⟩
            have HEm2 : Hid (mvs (R.take i ++ ⟨(⟨s1, s2, s3⟩ : Mv), false, zeroPl⟩ :: R.drop i) = insM L (⟨s1, s2, s3⟩ : Mv)) := by (rw [← HEm.out]; exact hMs)
            obtain ⟨a2, n2, c2, e2⟩ : ∃ a2 n2 c2, lv2 = .slice a2 n2 c2 := by (obtain ⟨a2, c2, e2⟩ := ho.form; exact ⟨a2, _, c2, e2⟩)
            subst e2
            have hS2 : Bx3 bx s1 s2 s3 Ud1u3 := hHeld.touch (F := fun j => (Value.slice a9 R.length c9).ownBlock = some j) (Touch.of_grown hg (fun j e _ => e)) (fun j e => by have := HFlb.out j (HT.out.fl j e); omega)
            refine hK.out _ _ (hS2) (fun hHeld2 => ?_)
            clear hK K hHeld
            have hHeld := hHeld2
            clear hHeld2
            (try simp only [Act.put, List.setIfInBounds_toArray, List.set_cons_zero, List.set_cons_succ])
            clear ho hg hlv hLs hMs hS2 HT HTo HV HVn
            refine tkW 12 (some 48) (v := ?_) ?_ hHeld ?_
            rotate_left
            · (intro ww hSw; (try dsimp only at hSw); have hS := hSw; have a0 := hS.a0; have a1 := hS.a1; have b0 := hS.b0; have b1 := hS.b1; have c0 := hS.c0; have c1 := hS.c1; go_simp; try with_reducible rfl)
            refine tkW 13 (some 49) (v := ?_) ?_ hHeld ?_
            rotate_left
            · (intro ww _; go_simp; try with_reducible rfl)
            refine wpAnyH_ready (rs := [14]) (by kernel_rfl) (by simp) ?_
            refine AllReadyH.cons (o := ⟨none, _, _, _, _, _⟩) rfl (fun K hK => ?_) AllReadyH.nil
            obtain ⟨Ud1u4, eW⟩ : ∃ Y, Y = Ud1u3.setCell ⟨tb, 0, none⟩ (Value.slice a2 n2 c2) := ⟨_, rfl⟩
            have hc0 := HRd.out.t0
            have hz0 := HRd.out.tz
            have hS2 : Bx3 bx s1 s2 s3 Ud1u4 := hHeld.touch (F := fun j => j = tb) (by rw [eW]; exact Touch.of_grown (grownBy_setCell _ _ _ _) (fun j e _ => by cases e; rfl)) (fun j e => by have := HTlb.out; omega)
            have HFin : Hid (TrIs (fun j => F j ∨ (Value.slice a2 n2 c2).ownBlock = some j) Ud1u4 tb (R.take i ++ ⟨(⟨s1, s2, s3⟩ : Mv), false, zeroPl⟩ :: R.drop i) k (Value.slice a2 n2 c2) sb kb ∧ (∀ j, (Value.slice a2 n2 c2).ownBlock = some j → F j ∨ w.heap.size ≤ j) ∧ Touch F w Ud1u4) := by (rw [eW]; exact HRd.out.fin)
            go_simp
            rw [← eW]
            refine hK.out _ _ (hS2) (fun hHeld2 => ?_)
            clear hK K hHeld
            have hHeld := hHeld2
            clear hHeld2
            (try simp only [Act.put, List.setIfInBounds_toArray, List.set_cons_zero, List.set_cons_succ])
            clear eW hS2 hc0 hz0
            refine wpAnyH_done (by kernel_rfl) ?_ _
            clear hHeld
            go_wp2
            go_ret
            exact ⟨by (rw [HE.out]; rfl), (fun j => F j ∨ (Value.slice a2 n2 c2).ownBlock = some j), by (rw [HL.out]; exact ⟨_, k, (Value.slice a2 n2 c2), sb, kb, HFin.out.1, HEm2.out⟩), fun _ h => .inl h, fun j h => h.elim .inl (HFin.out.2.1 j), HFin.out.2.2⟩
          · obtain ⟨Ud1u5, eW⟩ : ∃ Y, Y = Ud1u0.alloc (.cells (rwCells ⟨(⟨s1, s2, s3⟩ : Mv), false, zeroPl⟩).toArray 69) := ⟨_, rfl⟩
            have hb : Below Ud1u0.heap.size Ud1u0 Ud1u5 := by rw [eW]; exact (Below.refl _ _).alloc (Nat.le_refl _) _
            have HV : Hid (Ud1u5.heap[Ud1u0.heap.size]? = some (.cells (rwCells ⟨(⟨s1, s2, s3⟩ : Mv), false, zeroPl⟩).toArray 69)) := by rw [eW]; exact heap_alloc_new _ _
            have HVn : Hid (∀ j, F j → j ≠ Ud1u0.heap.size) := fun j hj e => by have := HT.out.lt j hj; omega
            have HeW : Hid (Ud1u5 = Ud1u0.alloc (.cells (rwCells ⟨(⟨s1, s2, s3⟩ : Mv), false, zeroPl⟩).toArray 69)) := eW
            clear eW
            go_simp
            rw [show Ud1u0.alloc (.cells #[.int .i64 s1.1, .int .i64 s1.2, .int .i64 s2.1, .int .i64 s2.2, .int .i64 s3.1, .int .i64 s3.2, .bool false, .int .i64 0, .int .i64 0, .int .i64 0, .int .i64 0, .int .i64 0, .int .i64 0] 69) = Ud1u5 from HeW.out.symm]
            refine hK.out _ _ (hHeld.below hb) (fun hHeld2 => ?_)
            clear hK K hHeld
            have hHeld := hHeld2
            clear hHeld2
            (try simp only [Act.put, List.setIfInBounds_toArray, List.set_cons_zero, List.set_cons_succ])
            replace HT : Hid (TrIs F Ud1u5 tb R k (.slice a9 R.length c9) sb kb) := HT.out.below hb
            replace HTo : Hid (Touch F w Ud1u5) := HTo.out.trans (Touch.of_below (F := fun _ => False) hb) (fun j h => h.elim)
            clear hb HeW
            obtain ⟨vb, evb⟩ : ∃ b, b = Ud1u0.heap.size := ⟨_, rfl⟩
            rw [← evb] at HV HVn ⊢
            clear evb
            refine wpAnyH_ready (rs := [4]) (by kernel_rfl) (by simp) ?_
            refine AllReadyH.cons (o := ⟨some 40, _, _, _, _, _⟩) rfl (fun K hK => ?_) AllReadyH.nil
            have t0 := HT.out.t0
            go_simp
            refine hK.out _ _ (hHeld) (fun hHeld2 => ?_)
            clear hK K hHeld
            have hHeld := hHeld2
            clear hHeld2
            (try simp only [Act.put, List.setIfInBounds_toArray, List.set_cons_zero, List.set_cons_succ])
            clear t0
            refine wpAnyH_ready (rs := [11]) (by kernel_rfl) (by simp) ?_
            refine AllReadyH.cons (o := ⟨some 47, _, _, _, _, _⟩) rfl (fun K hK => ?_) AllReadyH.nil
            go_simp
            refine (insert_any (.slice a9 R.length c9) R i ⟨(⟨s1, s2, s3⟩ : Mv), false, zeroPl⟩ vb _ HT.out.own HT.out.small HIl.out HV.out (fun e => HVn.out vb (HT.out.fl vb e) rfl)).mono ?_
            rintro e Ud1u7 ⟨lv2, rfl, ho, hg, hlv⟩
            (try go_wp2_with fail)
            obtain ⟨hLs, hMs⟩ := HT.out.ls.ins (m := (⟨s1, s2, s3⟩ : Mv)) (x := ⟨(⟨s1, s2, s3⟩ : Mv), false, zeroPl⟩) HPl.out HHas.out HKi.out HNz.out rfl
            have HRd : Hid (Listed F w Ud1u5 Ud1u7 tb R k (.slice a9 R.length c9) sb kb lv2 (R.take i ++ ⟨(⟨s1, s2, s3⟩ : Mv), false, zeroPl⟩ :: R.drop i)) := ⟨HT.out, HTo.out, ho, hg, hlv, hLs, by (rw [hMs]; exact take_insM HPl.out HHas.out HKi.out), by (simp only [List.length_append, List.length_cons, List.length_take, List.length_drop]; have h1 := HIl.out; have h2 := HRl.out; omega)⟩
            have HEm2 : Hid (mvs (R.take i ++ ⟨(⟨s1, s2, s3⟩ : Mv), false, zeroPl⟩ :: R.drop i) = insM L (⟨s1, s2, s3⟩ : Mv)) := by (rw [← HEm.out]; exact hMs)
            obtain ⟨a2, n2, c2, e2⟩ : ∃ a2 n2 c2, lv2 = .slice a2 n2 c2 := by (obtain ⟨a2, c2, e2⟩ := ho.form; exact ⟨a2, _, c2, e2⟩)
            subst e2
            have hS2 : Bx3 bx s1 s2 s3 Ud1u7 := hHeld.touch (F := fun j => (Value.slice a9 R.length c9).ownBlock = some j) (Touch.of_grown hg (fun j e _ => e)) (fun j e => by have := HFlb.out j (HT.out.fl j e); omega)
            refine hK.out _ _ (hS2) (fun hHeld2 => ?_)
            clear hK K hHeld
            have hHeld := hHeld2
            clear hHeld2
            (try simp only [Act.put, List.setIfInBounds_toArray, List.set_cons_zero, List.set_cons_succ])
            clear ho hg hlv hLs hMs hS2 HT HTo HV HVn
            refine tkW 12 (some 48) (v := ?_) ?_ hHeld ?_
            rotate_left
            · (intro ww hSw; (try dsimp only at hSw); have hS := hSw; have a0 := hS.a0; have a1 := hS.a1; have b0 := hS.b0; have b1 := hS.b1; have c0 := hS.c0; have c1 := hS.c1; go_simp; try with_reducible rfl)
            refine tkW 13 (some 49) (v := ?_) ?_ hHeld ?_
            rotate_left
            · (intro ww _; go_simp; try with_reducible rfl)
            refine wpAnyH_ready (rs := [14]) (by kernel_rfl) (by simp) ?_
            refine AllReadyH.cons (o := ⟨none, _, _, _, _, _⟩) rfl (fun K hK => ?_) AllReadyH.nil
            obtain ⟨Ud1u8, eW⟩ : ∃ Y, Y = Ud1u7.setCell ⟨tb, 0, none⟩ (Value.slice a2 n2 c2) := ⟨_, rfl⟩
            have hc0 := HRd.out.t0
            have hz0 := HRd.out.tz
            have hS2 : Bx3 bx s1 s2 s3 Ud1u8 := hHeld.touch (F := fun j => j = tb) (by rw [eW]; exact Touch.of_grown (grownBy_setCell _ _ _ _) (fun j e _ => by cases e; rfl)) (fun j e => by have := HTlb.out; omega)
            have HFin : Hid (TrIs (fun j => F j ∨ (Value.slice a2 n2 c2).ownBlock = some j) Ud1u8 tb (R.take i ++ ⟨(⟨s1, s2, s3⟩ : Mv), false, zeroPl⟩ :: R.drop i) k (Value.slice a2 n2 c2) sb kb ∧ (∀ j, (Value.slice a2 n2 c2).ownBlock = some j → F j ∨ w.heap.size ≤ j) ∧ Touch F w Ud1u8) := by (rw [eW]; exact HRd.out.fin)
            go_simp
            rw [← eW]
            refine hK.out _ _ (hS2) (fun hHeld2 => ?_)
            clear hK K hHeld
            have hHeld := hHeld2
            clear hHeld2
            (try simp only [Act.put, List.setIfInBounds_toArray, List.set_cons_zero, List.set_cons_succ])
            clear eW hS2 hc0 hz0
            refine wpAnyH_done (by kernel_rfl) ?_ _
            clear hHeld
            go_wp2
            go_ret
            exact ⟨by (rw [HE.out]; rfl), (fun j => F j ∨ (Value.slice a2 n2 c2).ownBlock = some j), by (rw [HL.out]; exact ⟨_, k, (Value.slice a2 n2 c2), sb, kb, HFin.out.1, HEm2.out⟩), fun _ h => .inl h, fun j h => h.elim .inl (HFin.out.2.1 j), HFin.out.2.2⟩

theorem makeS (w : World) : (Instr.makeMap 62 none).run Try.prog w = .ok (.map (some w.heap.size)) (w.alloc (.map #[] 0)) := by kernel_rfl
theorem makeK (w : World) : (Instr.makeMap 63 none).run Try.prog w = .ok (.map (some w.heap.size)) (w.alloc (.map #[] 0)) := by kernel_rfl
theorem TrIs.new (w : World) : TrIs (fun j => w.heap.size ≤ j ∧ j < w.heap.size + 3) (((w.alloc (.map #[] 0)).alloc (.map #[] 0)).alloc (.cells #[.slice none 0 0, .int .i64 0, .map (some w.heap.size), .map (some (w.heap.size + 1))] 66)) (w.heap.size + 2) [] 0 (.slice none 0 0) w.heap.size (w.heap.size + 1) := by
  have h0 : (((w.alloc (.map #[] 0)).alloc (.map #[] 0)).alloc (.cells #[.slice none 0 0, .int .i64 0, .map (some w.heap.size), .map (some (w.heap.size + 1))] 66)).heap[w.heap.size]? = some (.map #[] 0) := (Below.heap_alloc _ _ _ (by simp; omega)).trans ((Below.heap_alloc _ _ _ (by simp)).trans (heap_alloc_new w _))
  have h1 : (((w.alloc (.map #[] 0)).alloc (.map #[] 0)).alloc (.cells #[.slice none 0 0, .int .i64 0, .map (some w.heap.size), .map (some (w.heap.size + 1))] 66)).heap[w.heap.size + 1]? = some (.map #[] 0) := by
    refine (Below.heap_alloc _ _ _ (by simp)).trans ?_
    have := heap_alloc_new (w.alloc (.map #[] 0)) (.map #[] 0)
    simpa using this
  have h2 : (((w.alloc (.map #[] 0)).alloc (.map #[] 0)).alloc (.cells #[.slice none 0 0, .int .i64 0, .map (some w.heap.size), .map (some (w.heap.size + 1))] 66)).heap[w.heap.size + 2]? = some (.cells #[.slice none 0 0, .int .i64 0, .map (some w.heap.size), .map (some (w.heap.size + 1))] 66) := by
    have := heap_alloc_new ((w.alloc (.map #[] 0)).alloc (.map #[] 0)) (.cells #[.slice none 0 0, .int .i64 0, .map (some w.heap.size), .map (some (w.heap.size + 1))] 66)
    simpa using this
  have e : ∀ {α : Type} (ky : α → St) (vl : α → Value), MapE ky vl #[] 0 [] := fun ky vl => ⟨rfl, List.nodup_nil, fun x h => by simp at h⟩
  exact {
    row := h2
    own := OwnE.nil0 _ _
    st := ⟨[], ⟨_, _, h0, e _ _⟩, List.Perm.refl _⟩
    kd := ⟨[], ⟨_, _, h1, e _ _⟩, List.nodup_nil, fun s => rfl⟩
    ls := LsD.nil
    small := by simp
    ne := by omega
    ft := ⟨by omega, by omega⟩
    fs := ⟨by omega, by omega⟩
    fk := ⟨by omega, by omega⟩
    fl := fun g h => by cases h
    lt := fun j h => by simp; omega }

set_option maxHeartbeats 1000000 in
theorem new_any (w : World) : Calls Try.prog 9 #[] w fun e w' => ∃ tb F, e = .returned (.pointer (some ⟨tb, 0, none⟩)) ∧ TreeOk F w' tb [] ∧ (∀ k, F k → w.heap.size ≤ k) ∧ Below w.heap.size w w' := by
  have hS := makeS
  have hK := makeK
  have HN : Hid (TrIs (fun j => w.heap.size ≤ j ∧ j < w.heap.size + 3) (((w.alloc (.map #[] 0)).alloc (.map #[] 0)).alloc (.cells #[.slice none 0 0, .int .i64 0, .map (some w.heap.size), .map (some (w.heap.size + 1))] 66)) (w.heap.size + 2) [] 0 (.slice none 0 0) w.heap.size (w.heap.size + 1)) := TrIs.new w
  go_enter Try.func9, Try.ntmps9
  go_wp2
  go_ret
  exact ⟨_, _, rfl, ⟨_, _, _, _, _, HN.out, rfl⟩, fun k h => h.1, (((Below.refl _ _).alloc (Nat.le_refl _) _).alloc (by simp) _).alloc (by simp; omega) _⟩

end Go.Proofs.Ytljepindfdhbbaa
