/- What is laid out while slots goes through a row; lay. -/
import Derived.Test.YtfgkdbidgbpobaaRwC
namespace Go.Proofs.Ytfgkdbidgbpobaa
open Go.RowKit Go.Shelf
set_option linter.unusedVariables false
set_option linter.unusedSimpArgs false

theorem infoSlot : (Try.prog.info? 36).map (fun i => (i.zero, i.size, i.bytes)) = some (some (.agg #[.int .i64 0, .int .i64 0, .int .i64 0, .int .i64 0]), 4, 32) := by kernel_rfl
theorem step_append_own_at {P : Program} {ops : Array Oper} {o : Oper} {a : Act} {w : World} {K : Act → World → Prop} {Q : Exit → Act → World → Prop} {X : Prop} (hgd : o.guard = none) (s x : Operand) (t : TypeId)
    (ho : o.op = .call { callee := .builtin .append, args := #[s, x], argTypes := #[t, t] })
    (base : Nat) (e : TypeId) (i : TypeInfo) (z : Value) (size bytes : Nat) (ht : P.underlying t = some (.slice e)) (hi : P.info? e = some i) (hz : i.zero = some z)
    (hsize : i.size = size) (hby : i.bytes = bytes) (hzs : z.cells.size = size) (hsz : 0 < size)
    (v : Value) (n : Nat) (xs : List Value) (hs : a.eval s = v) (hown : w.ownsRow base e size v n xs)
    (ad : Addr) (m c : Nat) (news : List Value) (hx : a.eval x = .slice (some ad) m c) (hl : news.length = m * size) (hnews : ∀ j u, news[j]? = some u → w.cell? (ad.add j) = some u) (h1 : ∀ u ∈ news, u.oneCell' = true)
    (h63 : n + m ≤ maxLen) (hbytes : (n + m) * bytes ≤ 140737488355328) (hbase : base ≤ w.heap.size)
    (h : ∀ v' w', w'.ownsRow base e size v' (n + m) (xs ++ news) → w.grownBy w' v.ownBlock → (v'.ownBlock = v.ownBlock ∨ v'.ownBlock = some w.heap.size) → K (a.put o.dst v') w') :
    if Region.wanted o (yielded ops a.tmps) = true then Oper.wp P o a w K Q else X := by
  have hw : Region.wanted o (yielded ops a.tmps) = true := by simp [Region.wanted, hgd]
  rw [if_pos hw]
  obtain ⟨v', w', hr, h2, h3, h4, h5⟩ := run_append_own_at (P := P) w base t o.type e i z size bytes ht hi hz hsize hby hzs hsz v n xs hown ad m c news hl hnews h1 h63 hbytes hbase
  unfold Oper.wp execOp
  simp only [ho, resolve, invoke, builtin, Sem.run_bind, Sem.run_pure, Result.andThen_ok, List.map_toArray, List.map_cons, List.map_nil, hs, hx, hr]
  exact h v' w' h2 h3 h5
theorem slCells_one (x : Sl) : ∀ u ∈ slCells x, u.oneCell' = true := by
  intro u hu
  simp only [slCells, List.mem_cons, List.not_mem_nil, or_false] at hu
  rcases hu with rfl | rfl | rfl | rfl <;> rfl
def layV (bo br : Nat) : Value := .func (.func 31) #[] #[.pointer (some ⟨bo, 0, none⟩), .pointer (some ⟨br, 0, none⟩)]
def layAV (bl ba br : Nat) : Value := .func (.func 32) #[] #[.pointer (some ⟨bl, 0, none⟩), .pointer (some ⟨ba, 0, none⟩), .pointer (some ⟨br, 0, none⟩)]
/-- What stands while slots are laid out. -/
structure LyS (F : Nat → Prop) (N bo bl ba br rb : Nat) (L : List Sl) (ma mb : Nat) (fv : Value) (E : List (St × Value)) (D : List Sl) (v : Value) (W : World) : Prop where
  row : RowIs F W rb L (behZ L) (frL L) ma mb fv E
  low : ∀ k, F k → k < N
  o : BxC bo [v] 22 W
  l : BxC bl [layV bo br] 68 W
  a : BxC ba [layAV bl ba br] 69 W
  r : BxC br [.pointer (some ⟨rb, 0, none⟩)] 23 W
  own : OwnSl N W v D
  q : N ≤ bo ∧ N ≤ bl ∧ N ≤ ba ∧ N ≤ br
/-- A block is touched: that of what is laid out, or its box. -/
def OutK (bo : Nat) (v : Value) (k : Nat) : Prop := k = bo ∨ v.ownBlock = some k
section
variable {F : Nat → Prop} {N bo bl ba br rb : Nat} {L : List Sl} {ma mb : Nat} {fv : Value} {E : List (St × Value)} {D : List Sl} {v : Value} {W W' w : World}
theorem LyS.keep (h : LyS F N bo bl ba br rb L ma mb fv E D v W) (hk : KeepsS F W W') (ho : W'.heap[bo]? = W.heap[bo]?) (hl : W'.heap[bl]? = W.heap[bl]?) (ha : W'.heap[ba]? = W.heap[ba]?) (hr : W'.heap[br]? = W.heap[br]?) (hv : ∀ k, v.ownBlock = some k → W'.heap[k]? = W.heap[k]?) : LyS F N bo bl ba br rb L ma mb fv E D v W' :=
  ⟨h.row.keep hk, h.low, h.o.keep ho, h.l.keep hl, h.a.keep ha, h.r.keep hr, h.own.keep hv, h.q⟩
theorem LyS.below (h : LyS F N bo bl ba br rb L ma mb fv E D v W) (hb : Below W.heap.size W W') : LyS F N bo bl ba br rb L ma mb fv E D v W' := h.keep (KeepsS.of_below hb h.row.lt) (hb.block _ h.o.lt) (hb.block _ h.l.lt) (hb.block _ h.a.lt) (hb.block _ h.r.lt) fun k e => hb.block k (h.own.lt k e).2
theorem LyS.nle (h : LyS F N bo bl ba br rb L ma mb fv E D v W) : N ≤ W.heap.size := by have := h.o.lt; have := h.q.1; omega
/-- A row's block is of another kind than a box. -/
theorem own_ne {D : List Sl} (h : OwnSl N W v D) {b : Nat} {cs : List Value} {T : TypeId} (hb : BxC b cs T W) (hT : T ≠ 36) : v.ownBlock ≠ some b := fun e => by
  obtain ⟨cur, hc⟩ := ownsRow_type h b e
  have h2 : W.heap[b]? = some (.cells cs.toArray T) := hb
  rw [hc] at h2
  simp at h2
  exact hT h2.2.symm
theorem box_ne {b c : Nat} {cs ds : List Value} {T U : TypeId} (h : BxC b cs T W) (h2 : BxC c ds U W) (hT : T ≠ U) : b ≠ c := fun e => by
  subst e
  have h3 : W.heap[b]? = some (.cells cs.toArray T) := h
  have h4 : W.heap[b]? = some (.cells ds.toArray U) := h2
  rw [h3] at h4
  simp at h4
  exact hT h4.2
theorem LyS.grown (h : LyS F N bo bl ba br rb L ma mb fv E D v W) {row : Option Nat} (hg : W.grownBy W' row) (hr : ∀ r, row = some r → N ≤ r ∧ ∃ o : Obj, W.heap[r]? = some o ∧ o.isCells = false) : LyS F N bo bl ba br rb L ma mb fv E D v W' := by
  have hc : ∀ b cs T, BxC b cs T W → W'.heap[b]? = W.heap[b]? := fun b cs T hb => (row_own hb hg (fun r e => (hr r e).2)).trans hb.symm
  refine h.keep ⟨hg.size, fun k hk => hg.block k (h.row.lt k hk) (fun e => by have := (hr k e.symm).1; have := h.low k hk; omega)⟩ (hc _ _ _ h.o) (hc _ _ _ h.l) (hc _ _ _ h.a) (hc _ _ _ h.r) fun k e => ?_
  obtain ⟨cur, hcur⟩ := ownsRow_type h.own k e
  exact (row_own hcur hg (fun r e => (hr r e).2)).trans hcur.symm
/-- What lay and layAll leave. -/
def LyP (F : Nat → Prop) (N bo bl ba br rb : Nat) (L : List Sl) (ma mb : Nat) (fv : Value) (E : List (St × Value)) (D : List Sl) (v : Value) (w : World) (X : List Sl) (w' : World) : Prop := ∃ v', LyS F N bo bl ba br rb L ma mb fv E (D ++ X) v' w' ∧ Touch (OutK bo v) w w' ∧ (v'.ownBlock = v.ownBlock ∨ ∃ k, v'.ownBlock = some k ∧ w.heap.size ≤ k)
theorem LyP.trans {X Y : List Sl} {w1 : World} (h : LyP F N bo bl ba br rb L ma mb fv E D v w X w1) (h2 : ∀ v1, LyS F N bo bl ba br rb L ma mb fv E (D ++ X) v1 w1 → LyP F N bo bl ba br rb L ma mb fv E (D ++ X) v1 w1 Y W') : LyP F N bo bl ba br rb L ma mb fv E D v w (X ++ Y) W' := by
  obtain ⟨v1, a1, a2, a3⟩ := h
  obtain ⟨v2, b1, b2, b3⟩ := h2 v1 a1
  refine ⟨v2, by rw [← List.append_assoc]; exact b1, a2.trans b2 fun j hj => ?_, ?_⟩
  · rcases hj with hj | hj
    · exact .inl (.inl hj)
    · rcases a3 with a3 | ⟨k, a3, a4⟩
      · exact .inl (.inr (a3 ▸ hj))
      · rw [hj] at a3; cases a3; exact .inr a4
  · rcases b3 with b3 | ⟨k, b3, b4⟩
    · rw [b3]; exact a3
    · exact .inr ⟨k, b3, Nat.le_trans a2.size b4⟩
/-- Behind the append. -/
structure LyA (F : Nat → Prop) (N bo bl ba br rb : Nat) (L : List Sl) (ma mb : Nat) (fv : Value) (E : List (St × Value)) (D : List Sl) (v : Value) (W : World) (x : Sl) (v2 : Value) (W2 : World) : Prop where
  s : LyS F N bo bl ba br rb L ma mb fv E D v W
  own : OwnSl N W2 v2 (D ++ [x])
  gr : W.grownBy W2 v.ownBlock
  at_ : v2.ownBlock = v.ownBlock ∨ v2.ownBlock = some W.heap.size
variable {x : Sl} {v2 : Value} {W2 : World}
theorem LyA.other (h : LyA F N bo bl ba br rb L ma mb fv E D v W x v2 W2) {b : Nat} {cs : List Value} {T : TypeId} (hb : BxC b cs T W) (hT : T ≠ 36) : BxC b cs T W2 := hb.keep (h.gr.block b hb.lt (fun e => own_ne h.s.own hb hT e.symm))
theorem LyA.row (h : LyA F N bo bl ba br rb L ma mb fv E D v W x v2 W2) : RowIs F W2 rb L (behZ L) (frL L) ma mb fv E := h.s.row.keep ⟨h.gr.size, fun k hk => h.gr.block k (h.s.row.lt k hk) (fun e => by have := (h.s.own.lt k e.symm).1; have := h.s.low k hk; omega)⟩
theorem LyA.o (h : LyA F N bo bl ba br rb L ma mb fv E D v W x v2 W2) : BxC bo [v] 22 W2 := h.other h.s.o (by decide)
theorem LyA.o0 (h : LyA F N bo bl ba br rb L ma mb fv E D v W x v2 W2) : W2.cell? ⟨bo, 0, none⟩ = some v := h.o.cell 0 _ rfl
theorem LyA.oz (h : LyA F N bo bl ba br rb L ma mb fv E D v W x v2 W2) : W2.frozen? ⟨bo, 0, none⟩ = false := h.o.free 0
theorem LyA.fin (h : LyA F N bo bl ba br rb L ma mb fv E D v W x v2 W2) (hw : Below w.heap.size w W) : LyP F N bo bl ba br rb L ma mb fv E D v w [x] (W2.setCell ⟨bo, 0, none⟩ v2) := by
  have hs : ∀ k, k ≠ bo → (W2.setCell ⟨bo, 0, none⟩ v2).heap[k]? = W2.heap[k]? := fun k hk => Below.heap_setCell _ _ _ _ hk
  have hl := h.other h.s.l (by decide)
  have ha := h.other h.s.a (by decide)
  have hr := h.other h.s.r (by decide)
  refine ⟨v2, ⟨h.row.keep ⟨by simp [World.setCell], fun k hk => hs k (fun e => by have := h.s.low k hk; have := h.s.q.1; omega)⟩, h.s.low, ?_, hl.keep (hs _ (box_ne hl h.o (by decide))), ha.keep (hs _ (box_ne ha h.o (by decide))), hr.keep (hs _ (box_ne hr h.o (by decide))), h.own.keep fun k e => hs k (fun e2 => own_ne h.own h.o (by decide) (e2 ▸ e)), h.s.q⟩, ?_, ?_⟩
  · have := heap_setCell_same W2 bo 0 _ _ v2 h.o
    simpa [BxC] using this
  · refine ((Touch.of_below hw).trans (Touch.of_grown (F := OutK bo v) h.gr fun j e _ => .inr e) (fun j hj => .inl hj)).trans (Touch.of_grown (F := OutK bo v) (grownBy_setCell W2 bo 0 v2) fun j e _ => .inl (by cases e; rfl)) (fun j hj => .inl hj)
  · exact h.at_.imp id fun e => ⟨_, e, hw.size⟩
end

set_option maxRecDepth 100000 in
set_option maxHeartbeats 8000000 in
theorem lay_any (F : Nat → Prop) (N bo bl ba br rb : Nat) (L : List Sl) (ma mb : Nat) (fv : Value) (E : List (St × Value)) (D : List Sl) (v : Value) (s : St) (w : World) (h : LyS F N bo bl ba br rb L ma mb fv E (D) v w) (hl : D.length ≤ 16384) :
    Calls Try.prog 31 #[.agg #[.int .i64 s.1, .int .i64 s.2], .pointer (some ⟨bo, 0, none⟩), .pointer (some ⟨br, 0, none⟩)] w fun e w' => (∃ u, e = .returned u) ∧ LyP F N bo bl ba br rb L ma mb fv E D v w [slO L s] w' := by
  obtain ⟨isl, hisl, hz0sl, hz1sl, hz2sl⟩ := info_parts infoSlot
  obtain ⟨av, cv, ev⟩ := h.own.form
  subst ev
  obtain ⟨W0, eW⟩ : ∃ X, X = w.alloc (.cells (stCells s).toArray 33) := ⟨_, rfl⟩
  have hb0 : Below w.heap.size w W0 := by rw [eW]; exact (Below.refl _ _).alloc (Nat.le_refl _) _
  have HTo : Hid (Below w.heap.size w W0) := hb0
  have HX : Hid (BxC w.heap.size (stCells s) 33 W0) := by rw [eW]; exact BxC.new w _ _
  have HS : Hid (LyS F N bo bl ba br rb L ma mb fv E (D) (.slice av D.length cv) W0) := h.below hb0
  have HNo : Hid (w.heap.size ≠ bo) := fun e => by have := h.o.lt; omega
  have HNr : Hid (br ≠ bo) := box_ne h.r h.o (by decide)
  have HNf : Hid (∀ k, F k → k ≠ bo) := fun k hk e => by have := h.low k hk; have := h.q.1; omega
  clear h hb0
  obtain ⟨bx, ebx⟩ : ∃ b, b = w.heap.size := ⟨_, rfl⟩
  go_enter Try.func31, Try.ntmps31
  go_wp2
  have eW2 := eW
  simp only [stCells] at eW2
  rw [← eW2]
  rw [← ebx] at HX HNo ⊢
  clear eW2 eW ebx
  refine wp_region_held_drew (S := fun W' => BxC bx (stCells s) 33 W' ∧ BxC br [.pointer (some ⟨rb, 0, none⟩)] 23 W' ∧ RowIs F W' rb L (behZ L) (frL L) ma mb fv E) (by kernel_rfl) ⟨HX.out.below (Below.refl _ _).drew, HS.out.r.below (Below.refl _ _).drew, HS.out.row.below (Below.refl _ _).drew⟩ (fun hHeld => ?_)
  obtain ⟨Ua1u0, eW⟩ : ∃ X, X = W0.drew := ⟨_, rfl⟩
  have hb : Below W0.heap.size W0 Ua1u0 := by rw [eW]; exact (Below.refl _ _).drew
  replace HS : Hid (LyS F N bo bl ba br rb L ma mb fv E (D) (.slice av D.length cv) Ua1u0) := HS.out.below hb
  replace HTo : Hid (Below w.heap.size w Ua1u0) := HTo.out.trans (hb.mono HTo.out.size)
  rw [← eW] at hHeld ⊢
  clear eW hb
  refine tkW 1 (some 5) (v := ?_) ?_ hHeld ?_
  rotate_left
  · (intro ww hSw; (try dsimp only at hSw); have hS := hSw; have c0 := hS.2.2.c0; have hlk : (Instr.lookup 53 (.map (some ma)) (.agg #[.int .i64 s.1, .int .i64 s.2]) false).run Try.prog ww = .ok (.agg #[.int .i64 (afO L s).1, .int .i64 (afO L s).2]) ww := hS.2.2.am.look1 hS.2.2.good s; have x0 := hS.1.cell 0 _ rfl; have x1 := hS.1.cell 1 _ rfl; have p0 := hS.2.1.cell 0 _ rfl; go_simp; try with_reducible rfl)
  refine tkW 2 (some 6) (v := ?_) ?_ hHeld ?_
  rotate_left
  · (intro ww hSw; (try dsimp only at hSw); have hS := hSw; have c0 := hS.2.2.c0; have hlk : (Instr.lookup 53 (.map (some ma)) (.agg #[.int .i64 s.1, .int .i64 s.2]) false).run Try.prog ww = .ok (.agg #[.int .i64 (afO L s).1, .int .i64 (afO L s).2]) ww := hS.2.2.am.look1 hS.2.2.good s; have x0 := hS.1.cell 0 _ rfl; have x1 := hS.1.cell 1 _ rfl; have p0 := hS.2.1.cell 0 _ rfl; go_simp; try with_reducible rfl)
  refine tkW 3 (some 7) (v := ?_) ?_ hHeld ?_
  rotate_left
  · (intro ww hSw; (try dsimp only at hSw); have hS := hSw; go_simp; try with_reducible rfl)
  refine tkW 4 (some 8) (v := ?_) ?_ hHeld ?_
  rotate_left
  · (intro ww _; go_simp; try with_reducible rfl)
  refine tkW 5 (some 9) (v := ?_) ?_ hHeld ?_
  rotate_left
  · (intro ww hSw; (try dsimp only at hSw); have hS := hSw; have c0 := hS.2.2.c0; have hlk : (Instr.lookup 53 (.map (some ma)) (.agg #[.int .i64 s.1, .int .i64 s.2]) false).run Try.prog ww = .ok (.agg #[.int .i64 (afO L s).1, .int .i64 (afO L s).2]) ww := hS.2.2.am.look1 hS.2.2.good s; have x0 := hS.1.cell 0 _ rfl; have x1 := hS.1.cell 1 _ rfl; have p0 := hS.2.1.cell 0 _ rfl; go_simp; try with_reducible rfl)
  refine tkW 6 (some 10) (v := ?_) ?_ hHeld ?_
  rotate_left
  · (intro ww hSw; (try dsimp only at hSw); have hS := hSw; have c0 := hS.2.2.c0; have hlk : (Instr.lookup 53 (.map (some ma)) (.agg #[.int .i64 s.1, .int .i64 s.2]) false).run Try.prog ww = .ok (.agg #[.int .i64 (afO L s).1, .int .i64 (afO L s).2]) ww := hS.2.2.am.look1 hS.2.2.good s; have x0 := hS.1.cell 0 _ rfl; have x1 := hS.1.cell 1 _ rfl; have p0 := hS.2.1.cell 0 _ rfl; go_simp; try with_reducible rfl)
  refine tkW 7 (some 11) (v := ?_) ?_ hHeld ?_
  rotate_left
  · (intro ww hSw; (try dsimp only at hSw); have hS := hSw; have c0 := hS.2.2.c0; have hlk : (Instr.lookup 53 (.map (some ma)) (.agg #[.int .i64 s.1, .int .i64 s.2]) false).run Try.prog ww = .ok (.agg #[.int .i64 (afO L s).1, .int .i64 (afO L s).2]) ww := hS.2.2.am.look1 hS.2.2.good s; have x0 := hS.1.cell 0 _ rfl; have x1 := hS.1.cell 1 _ rfl; have p0 := hS.2.1.cell 0 _ rfl; go_simp; try with_reducible rfl)
  refine tkW 8 (some 12) (v := ?_) ?_ hHeld ?_
  rotate_left
  · (intro ww hSw; (try dsimp only at hSw); have hS := hSw; go_simp; try with_reducible rfl)
  refine wpAnyH_ready (rs := [0, 9]) (by kernel_rfl) (by simp) ?_
  refine AllReadyH.cons (o := ⟨some 4, _, _, _, _, _⟩) rfl (fun K hK => ?_) (AllReadyH.cons (o := ⟨some 13, _, _, _, _, _⟩) rfl (fun K hK => ?_) AllReadyH.nil)
  · have o0 := HS.out.o.cell 0 _ rfl
    go_simp
    refine hK.out _ _ (hHeld) (fun hHeld2 => ?_)
    clear hK K hHeld
    have hHeld := hHeld2
    clear hHeld2
    (try simp only [Act.put, List.setIfInBounds_toArray, List.set_cons_zero, List.set_cons_succ])
    clear o0
    refine wpAnyH_ready (rs := [9]) (by kernel_rfl) (by simp) ?_
    refine AllReadyH.cons (o := ⟨some 13, _, _, _, _, _⟩) rfl (fun K hK => ?_) AllReadyH.nil
    have hbx : Below Ua1u0.heap.size Ua1u0 (Ua1u0.alloc (.cells #[.int .i64 s.1, .int .i64 s.2, .int .i64 (afO L s).1, .int .i64 (afO L s).2] 36)) := (Below.refl _ _).alloc (Nat.le_refl _) _
    go_simp
    refine hK.out _ _ (⟨hHeld.1.below hbx, hHeld.2.1.below hbx, hHeld.2.2.below hbx⟩) (fun hHeld2 => ?_)
    clear hK K hHeld
    have hHeld := hHeld2
    clear hHeld2
    (try simp only [Act.put, List.setIfInBounds_toArray, List.set_cons_zero, List.set_cons_succ])
    obtain ⟨Ua1u2, eW⟩ : ∃ X, X = Ua1u0.alloc (.cells #[.int .i64 s.1, .int .i64 s.2, .int .i64 (afO L s).1, .int .i64 (afO L s).2] 36) := ⟨_, rfl⟩
    have hb : Below Ua1u0.heap.size Ua1u0 Ua1u2 := by rw [eW]; exact (Below.refl _ _).alloc (Nat.le_refl _) _
    replace HS : Hid (LyS F N bo bl ba br rb L ma mb fv E (D) (.slice av D.length cv) Ua1u2) := HS.out.below hb
    replace HTo : Hid (Below w.heap.size w Ua1u2) := HTo.out.trans (hb.mono HTo.out.size)
    have HV : Hid (Ua1u2.heap[Ua1u0.heap.size]? = some (.cells #[.int .i64 s.1, .int .i64 s.2, .int .i64 (afO L s).1, .int .i64 (afO L s).2] 36)) := by rw [eW]; exact heap_alloc_new _ _
    rw [← eW] at hHeld ⊢
    clear eW
    clear hbx
    obtain ⟨vb, enb⟩ : ∃ b, b = Ua1u0.heap.size := ⟨_, rfl⟩
    rw [← enb] at HV ⊢
    clear enb
    clear hb
    refine wpAnyH_ready (rs := [10]) (by kernel_rfl) (by simp) ?_
    refine AllReadyH.cons (o := ⟨some 14, _, _, _, _, _⟩) rfl (fun K hK => ?_) AllReadyH.nil
    refine step_append_own_at rfl (.tmp 4) (.tmp 13) 22 rfl N 36 isl (.agg #[.int .i64 0, .int .i64 0, .int .i64 0, .int .i64 0]) 4 32 Try.underlying22 hisl hz0sl hz1sl hz2sl rfl (by decide) (.slice av D.length cv) D.length (flatE slCells D) rfl HS.out.own ⟨vb, 0, none⟩ 1 1 (slCells (slO L s)) rfl rfl (fun j u hj => by (rw [Addr.add_lit, cell_of_row Ua1u2 vb _ _ _ _ HV.out, Nat.zero_add, List.getElem?_toArray]; exact hj)) (slCells_one _) (by unfold maxLen; omega) (by omega) HS.out.nle ?_
    intro v2 Ua1u3 hown hgr hat
    obtain ⟨a2, n2, c2, e2⟩ : ∃ a n c, v2 = .slice a n c := (by rcases hown.2 with ⟨e, _⟩ | ⟨g, cap, cur, e, _⟩; exact ⟨_, _, _, e⟩; exact ⟨_, _, _, e⟩)
    subst e2
    have HAp : Hid (LyA F N bo bl ba br rb L ma mb fv E D (.slice av D.length cv) Ua1u2 (slO L s) (.slice a2 n2 c2) Ua1u3) := ⟨HS.out, OwnE.snoc rfl hown, hgr, hat⟩
    have hS2 : BxC bx (stCells s) 33 Ua1u3 ∧ BxC br [.pointer (some ⟨rb, 0, none⟩)] 23 Ua1u3 ∧ RowIs F Ua1u3 rb L (behZ L) (frL L) ma mb fv E := ⟨HAp.out.other hHeld.1 (by decide), HAp.out.other hHeld.2.1 (by decide), HAp.out.row⟩
    clear hown hgr hat
    refine hK.out _ _ (hS2) (fun hHeld2 => ?_)
    clear hK K hHeld
    have hHeld := hHeld2
    clear hHeld2
    (try simp only [Act.put, List.setIfInBounds_toArray, List.set_cons_zero, List.set_cons_succ])
    clear hS2 HV HS
    refine wpAnyH_ready (rs := [11]) (by kernel_rfl) (by simp) ?_
    refine AllReadyH.cons (o := ⟨none, _, _, _, _, _⟩) rfl (fun K hK => ?_) AllReadyH.nil
    obtain ⟨Ua1u4, eW⟩ : ∃ Y, Y = Ua1u3.setCell ⟨bo, 0, none⟩ (Value.slice a2 n2 c2) := ⟨_, rfl⟩
    have o0 := HAp.out.o0
    have oz := HAp.out.oz
    have HF : Hid (LyP F N bo bl ba br rb L ma mb fv E D (.slice av D.length cv) w [slO L s] Ua1u4) := by (rw [eW]; exact HAp.out.fin HTo.out)
    have hS2 : BxC bx (stCells s) 33 Ua1u4 ∧ BxC br [.pointer (some ⟨rb, 0, none⟩)] 23 Ua1u4 ∧ RowIs F Ua1u4 rb L (behZ L) (frL L) ma mb fv E := ⟨hHeld.1.keep (by rw [eW]; exact Below.heap_setCell _ _ _ _ (fun (e : bx = bo) => HNo.out e)), hHeld.2.1.keep (by rw [eW]; exact Below.heap_setCell _ _ _ _ (fun (e : br = bo) => HNr.out e)), hHeld.2.2.keep ⟨by (rw [eW]; simp [World.setCell]), fun k hk => by (rw [eW]; exact Below.heap_setCell _ _ _ _ (fun (e : k = bo) => HNf.out k hk e))⟩⟩
    go_simp
    rw [← eW]
    refine hK.out _ _ (hS2) (fun hHeld2 => ?_)
    clear hK K hHeld
    have hHeld := hHeld2
    clear hHeld2
    (try simp only [Act.put, List.setIfInBounds_toArray, List.set_cons_zero, List.set_cons_succ])
    clear eW hS2 o0 oz HAp
    refine wpAnyH_done (by kernel_rfl) ?_ _
    clear hHeld
    go_wp2
    go_end0
    exact ⟨⟨_, rfl⟩, HF.out⟩
  · have hbx : Below Ua1u0.heap.size Ua1u0 (Ua1u0.alloc (.cells #[.int .i64 s.1, .int .i64 s.2, .int .i64 (afO L s).1, .int .i64 (afO L s).2] 36)) := (Below.refl _ _).alloc (Nat.le_refl _) _
    go_simp
    refine hK.out _ _ (⟨hHeld.1.below hbx, hHeld.2.1.below hbx, hHeld.2.2.below hbx⟩) (fun hHeld2 => ?_)
    clear hK K hHeld
    have hHeld := hHeld2
    clear hHeld2
    (try simp only [Act.put, List.setIfInBounds_toArray, List.set_cons_zero, List.set_cons_succ])
    obtain ⟨Ua1u5, eW⟩ : ∃ X, X = Ua1u0.alloc (.cells #[.int .i64 s.1, .int .i64 s.2, .int .i64 (afO L s).1, .int .i64 (afO L s).2] 36) := ⟨_, rfl⟩
    have hb : Below Ua1u0.heap.size Ua1u0 Ua1u5 := by rw [eW]; exact (Below.refl _ _).alloc (Nat.le_refl _) _
    replace HS : Hid (LyS F N bo bl ba br rb L ma mb fv E (D) (.slice av D.length cv) Ua1u5) := HS.out.below hb
    replace HTo : Hid (Below w.heap.size w Ua1u5) := HTo.out.trans (hb.mono HTo.out.size)
    have HV : Hid (Ua1u5.heap[Ua1u0.heap.size]? = some (.cells #[.int .i64 s.1, .int .i64 s.2, .int .i64 (afO L s).1, .int .i64 (afO L s).2] 36)) := by rw [eW]; exact heap_alloc_new _ _
    rw [← eW] at hHeld ⊢
    clear eW
    clear hbx
    obtain ⟨vb, enb⟩ : ∃ b, b = Ua1u0.heap.size := ⟨_, rfl⟩
    rw [← enb] at HV ⊢
    clear enb
    clear hb
    refine wpAnyH_ready (rs := [0]) (by kernel_rfl) (by simp) ?_
    refine AllReadyH.cons (o := ⟨some 4, _, _, _, _, _⟩) rfl (fun K hK => ?_) AllReadyH.nil
    have o0 := HS.out.o.cell 0 _ rfl
    go_simp
    refine hK.out _ _ (hHeld) (fun hHeld2 => ?_)
    clear hK K hHeld
    have hHeld := hHeld2
    clear hHeld2
    (try simp only [Act.put, List.setIfInBounds_toArray, List.set_cons_zero, List.set_cons_succ])
    clear o0
    refine wpAnyH_ready (rs := [10]) (by kernel_rfl) (by simp) ?_
    refine AllReadyH.cons (o := ⟨some 14, _, _, _, _, _⟩) rfl (fun K hK => ?_) AllReadyH.nil
    refine step_append_own_at rfl (.tmp 4) (.tmp 13) 22 rfl N 36 isl (.agg #[.int .i64 0, .int .i64 0, .int .i64 0, .int .i64 0]) 4 32 Try.underlying22 hisl hz0sl hz1sl hz2sl rfl (by decide) (.slice av D.length cv) D.length (flatE slCells D) rfl HS.out.own ⟨vb, 0, none⟩ 1 1 (slCells (slO L s)) rfl rfl (fun j u hj => by (rw [Addr.add_lit, cell_of_row Ua1u5 vb _ _ _ _ HV.out, Nat.zero_add, List.getElem?_toArray]; exact hj)) (slCells_one _) (by unfold maxLen; omega) (by omega) HS.out.nle ?_
    intro v2 Ua1u7 hown hgr hat
    obtain ⟨a2, n2, c2, e2⟩ : ∃ a n c, v2 = .slice a n c := (by rcases hown.2 with ⟨e, _⟩ | ⟨g, cap, cur, e, _⟩; exact ⟨_, _, _, e⟩; exact ⟨_, _, _, e⟩)
    subst e2
    have HAp : Hid (LyA F N bo bl ba br rb L ma mb fv E D (.slice av D.length cv) Ua1u5 (slO L s) (.slice a2 n2 c2) Ua1u7) := ⟨HS.out, OwnE.snoc rfl hown, hgr, hat⟩
    have hS2 : BxC bx (stCells s) 33 Ua1u7 ∧ BxC br [.pointer (some ⟨rb, 0, none⟩)] 23 Ua1u7 ∧ RowIs F Ua1u7 rb L (behZ L) (frL L) ma mb fv E := ⟨HAp.out.other hHeld.1 (by decide), HAp.out.other hHeld.2.1 (by decide), HAp.out.row⟩
    clear hown hgr hat
    refine hK.out _ _ (hS2) (fun hHeld2 => ?_)
    clear hK K hHeld
    have hHeld := hHeld2
    clear hHeld2
    (try simp only [Act.put, List.setIfInBounds_toArray, List.set_cons_zero, List.set_cons_succ])
    clear hS2 HV HS
    refine wpAnyH_ready (rs := [11]) (by kernel_rfl) (by simp) ?_
    refine AllReadyH.cons (o := ⟨none, _, _, _, _, _⟩) rfl (fun K hK => ?_) AllReadyH.nil
    obtain ⟨Ua1u8, eW⟩ : ∃ Y, Y = Ua1u7.setCell ⟨bo, 0, none⟩ (Value.slice a2 n2 c2) := ⟨_, rfl⟩
    have o0 := HAp.out.o0
    have oz := HAp.out.oz
    have HF : Hid (LyP F N bo bl ba br rb L ma mb fv E D (.slice av D.length cv) w [slO L s] Ua1u8) := by (rw [eW]; exact HAp.out.fin HTo.out)
    have hS2 : BxC bx (stCells s) 33 Ua1u8 ∧ BxC br [.pointer (some ⟨rb, 0, none⟩)] 23 Ua1u8 ∧ RowIs F Ua1u8 rb L (behZ L) (frL L) ma mb fv E := ⟨hHeld.1.keep (by rw [eW]; exact Below.heap_setCell _ _ _ _ (fun (e : bx = bo) => HNo.out e)), hHeld.2.1.keep (by rw [eW]; exact Below.heap_setCell _ _ _ _ (fun (e : br = bo) => HNr.out e)), hHeld.2.2.keep ⟨by (rw [eW]; simp [World.setCell]), fun k hk => by (rw [eW]; exact Below.heap_setCell _ _ _ _ (fun (e : k = bo) => HNf.out k hk e))⟩⟩
    go_simp
    rw [← eW]
    refine hK.out _ _ (hS2) (fun hHeld2 => ?_)
    clear hK K hHeld
    have hHeld := hHeld2
    clear hHeld2
    (try simp only [Act.put, List.setIfInBounds_toArray, List.set_cons_zero, List.set_cons_succ])
    clear eW hS2 o0 oz HAp
    refine wpAnyH_done (by kernel_rfl) ?_ _
    clear hHeld
    go_wp2
    go_end0
    exact ⟨⟨_, rfl⟩, HF.out⟩

end Go.Proofs.Ytfgkdbidgbpobaa
