/- The document's Send. -/
import Derived.Test.YtlcnfoljkcfplaaDsI
import Derived.Test.YtlcnfoljkcfplaaBgM
import Derived.Test.YtlcnfoljkcfplaaTk
import Derived.Deep.Cut
namespace Go.Proofs.Ytlcnfoljkcfplaa
open Go.RowKit Go.Shelf
set_option linter.unusedVariables false
set_option linter.unusedSimpArgs false

theorem step_appB {w : World} {ops : Array Oper} {o : Oper} {a : Act} {K : Act → World → Prop} {Q : Exit → Act → World → Prop} {X : Prop} (hgd : o.guard = none) (s x : Operand)
    (ho : o.op = .call { callee := .builtin .append, args := #[s, x], argTypes := #[31, 31] })
    (B : Nat) (v : Value) (D : List UInt8) (hs : a.eval s = v) (hown : OwnB B w v D) (hB : B ≤ w.heap.size) (vx : Value) (p : List UInt8) (hx : a.eval x = vx) (hv : IsB w vx p) (hl : D.length + p.length ≤ 140737488355328)
    (h : ∀ v' w', OwnB B w' v' (D ++ p) → w.grownBy w' v.ownBlock → K (a.put o.dst v') w') : if Region.wanted o (yielded ops a.tmps) = true then Oper.wp Try.prog o a w K Q else X := by
  obtain ⟨i0, hi, hz0, hz1, hz2⟩ := info_parts infoByte
  have hw : Region.wanted o (yielded ops a.tmps) = true := by simp [Region.wanted, hgd]
  rw [if_pos hw]
  obtain ⟨a1, c1, rfl, hc1, hl1, r1⟩ := hv
  cases a1 with
  | none =>
    obtain rfl : p = [] := by rcases r1 with h | ⟨b, o, h, _⟩; exact h; cases h
    have hcl : ∀ ty, (Builtin.append_ #[31, 31] ty #[v, .slice none 0 c1]).run Try.prog w = .ok v w := fun ty => by
      rcases hown.2 with ⟨rfl, h0⟩ | ⟨g, cap, cur, rfl, _, _, hnc, _⟩
      · simp [Builtin.append_, run_underlying Try.underlying31, sizeOf, typeInfo, hi, Builtin.lenOf, Builtin.firstCells]
      · simp [Builtin.append_, run_underlying Try.underlying31, sizeOf, typeInfo, hi, Builtin.lenOf, Builtin.firstCells, hnc, storeCells]
    unfold Oper.wp
    simp only [List.length_nil] at hx
    simp [execOp, ho, resolve, invoke, builtin, hs, hx, hcl, Result.andThen]
    exact h _ _ (by rw [List.append_nil]; exact hown) (grownBy.same _ _)
  | some ad =>
    refine wp_append_own _ s x 31 ho B 5 i0 (.int .u8 0) 1 1 Try.underlying31 hi hz0 hz1 hz2 rfl (by decide) _ _ _ hs hown ad p.length c1 (cellsB p) hx (cellsB_length p) ?_ (cellsB_one p) (by unfold maxLen; omega) (by omega) hB ?_
    · intro j u hj
      rcases r1 with rfl | ⟨b, o, e, g⟩
      · simp [cellsB] at hj
      · cases e
        exact g.news j u hj
    · intro v3 w3 hown3 hgrow _
      exact h v3 w3 (OwnB.more hown3 rfl rfl) hgrow
/-- append of what was sent to an empty list. -/
theorem wpList_appSL {ops : Array Oper} {rest : List Oper} {o : Oper} {a : Act} {w : World} {Q : Exit → Act → World → Prop} (hgd : o.guard = none) (s x : Operand)
    (ho : o.op = .call { callee := .builtin .append, args := #[s, x], argTypes := #[28, 28] }) (B g : Nat) (hs : a.eval s = .slice (some ⟨g, 0, none⟩) 0 0) (hown : w.ownsRow B 76 4 (.slice (some ⟨g, 0, none⟩) 0 0) 0 [])
    (a1 : Option Addr) (c : Nat) (L : List Sn) (G : Nat → Prop) (hx : a.eval x = .slice a1 L.length c) (hL : SFirm G w (.slice a1 L.length c) L) (hl : L.length ≤ 4096) (hB : B ≤ w.heap.size)
    (h : ∀ E g' c' w', E.map Prod.fst = L → (∀ y ∈ E, IsBG G w y.2 y.1.p) → OwnS B w' (.slice (some ⟨g', 0, none⟩) L.length c') E → w.grownBy w' (some g) → wpList Try.prog ops Q rest (a.put o.dst (.slice (some ⟨g', 0, none⟩) L.length c')) w') :
    wpList Try.prog ops Q (o :: rest) a w := by
  by_cases hn : L = []
  · subst hn
    refine wpList_plain hgd fun K hK => ?_
    have hr : ∀ ty, (Builtin.append_ #[28, 28] ty #[.slice (some ⟨g, 0, none⟩) 0 0, .slice a1 0 c]).run Try.prog w = .ok (.slice (some ⟨g, 0, none⟩) 0 0) w := fun ty => by cases a1 <;> kernel_rfl
    unfold Oper.wp execOp
    simp only [ho, resolve, invoke, builtin, Sem.run_bind, Sem.run_pure, Result.andThen_ok, List.map_toArray, List.map_cons, List.map_nil, hs, hx, List.length_nil, hr]
    exact hK _ _ (h [] g 0 _ rfl (fun y hy => by cases hy) hown ⟨rfl, rfl, rfl, Nat.le_refl _, fun _ _ _ => rfl⟩)
  · obtain ⟨b, o0, cap, E, ev, hcap, hGb, hEm, hEd, hc⟩ := hL.row hn
    injection ev with ev1 ev2 ev3
    subst ev1
    have hEl : E.length = L.length := by rw [← hEm]; simp
    refine wpList_appSs hgd s x ho B _ [] hs hown b o0 L.length c E hx hEl hc (fun x hx => (hEd x hx).1) (by simp; omega) hB ?_
    intro v' w' ho' hg'
    rw [List.nil_append] at ho'
    rcases ho'.2 with ⟨_, h0⟩ | ⟨g', cap', cur, e', _⟩
    · exfalso
      apply hn
      rw [← hEm]
      simp [List.eq_nil_of_length_eq_zero h0]
    · subst e'
      rw [hEl] at ho' ⊢
      exact h E g' cap' w' hEm (fun y hy => (hEd y hy).2) ho' hg'
theorem OwnB.grow9 {B : Nat} {w w' : World} {v : Value} {D : List UInt8} (h : OwnB B w v D) {r : Option Nat} (hg : w.grownBy w' r) (hr : ∀ k, r = Option.some k → k < B) : OwnB B w' v D := ownsRow_keep h fun k e => hg.block k (World.ownsRow.lt h k e).2 fun e2 => by
  have h1 := hr k e2.symm
  have h2 := (World.ownsRow.lt h k e).1
  omega
theorem SFirm.set2 {G : Nat → Prop} {U : World} {b : Nat} {v v0 v1 : Value} {L : List Sn} (h : SFirm G U v L) (hn : ¬ G b) : SFirm G ((U.setCell ⟨b, 0, none⟩ v0).setCell ⟨b, 1, none⟩ v1) v L :=
  h.keep (by simp [World.setCell]) fun k q => (RowKit.Below.heap_setCell _ _ _ _ (fun e => hn (by rw [← show k = b from e]; exact q))).trans (RowKit.Below.heap_setCell _ _ _ _ (fun e => hn (by rw [← show k = b from e]; exact q)))
theorem IsBG.ownb {G : Nat → Prop} {B : Nat} {w : World} {v : Value} {p : List UInt8} (h : OwnB B w v p) (hl : p.length ≤ 281474976710656) (hG : ∀ k, v.ownBlock = some k → G k) : IsBG G w v p := by
  obtain ⟨a, cap, e, h1, h2, h3⟩ := h.isB hl
  refine ⟨a, cap, e, h1, h2, h3.imp id ?_⟩
  rintro ⟨b, o, rfl, hb⟩
  refine ⟨b, o, rfl, ?_, hb⟩
  rcases h.2 with ⟨e2, _⟩ | ⟨g, cap2, cur, e2, _⟩
  · rw [e] at e2; cases e2
  · refine hG b ?_
    rw [e] at e2 ⊢
    cases e2
    rfl
/-- A list of what was sent in a row of the call's own, whose bytes lie elsewhere. -/
def OwnFl (G : Nat → Prop) (N : Nat) (w : World) (v : Value) (L : List Sn) : Prop := ∃ (E : List (Sn × Value)) (g cap : Nat), v = .slice (some ⟨g, 0, none⟩) L.length cap ∧ OwnS N w v E ∧ E.map Prod.fst = L ∧ ∀ x ∈ E, IsBG (fun k => (G k ∨ (N ≤ k ∧ k < w.heap.size)) ∧ k ≠ g) w x.2 x.1.p
theorem OwnFl.keep {G : Nat → Prop} {N : Nat} {w w' : World} {v : Value} {L : List Sn} (h : OwnFl G N w v L) (hs : w.heap.size ≤ w'.heap.size) (hk : ∀ k, (G k ∨ (N ≤ k ∧ k < w.heap.size)) → w'.heap[k]? = w.heap[k]?) : OwnFl G N w' v L := by
  obtain ⟨E, g, cap, e, h1, h2, h3⟩ := h
  refine ⟨E, g, cap, e, ownsRow_keep h1 fun k e2 => hk k (.inr (World.ownsRow.lt h1 k e2)), h2, fun x hx => ((h3 x hx).keep fun k q => hk k q.1).mono fun k q => ⟨q.1.imp id fun q => ⟨q.1, by omega⟩, q.2⟩⟩
theorem OwnFl.firm {G : Nat → Prop} {N : Nat} {w : World} {v : Value} {L : List Sn} (h : OwnFl G N w v L) (hl : L.length ≤ 281474976710656) (hG : ∀ k, G k → k < w.heap.size) : SFirm (fun k => G k ∨ (N ≤ k ∧ k < w.heap.size)) w v L := by
  obtain ⟨E, g, cap, e, h1, h2, h3⟩ := h
  have hE : E.length = L.length := by rw [← h2]; simp
  have := SFirm.ofOwn (G := fun k => G k ∨ (N ≤ k ∧ k < w.heap.size)) (G2 := fun k => G k ∨ (N ≤ k ∧ k < w.heap.size)) h1 (by omega) (fun x hx => (h3 x hx).mono fun k q => q.1) (fun k q => q) (fun k h1 h2 => .inr ⟨h1, h2⟩) (fun k q => q.elim (hG k) (fun q => q.2))
  rw [h2] at this
  exact this
theorem OwnFl.set2 {G : Nat → Prop} {N : Nat} {U : World} {b : Nat} {v v0 v1 : Value} {L : List Sn} (h : OwnFl G N U v L) (hn : ¬ (G b ∨ (N ≤ b ∧ b < U.heap.size))) : OwnFl G N ((U.setCell ⟨b, 0, none⟩ v0).setCell ⟨b, 1, none⟩ v1) v L :=
  h.keep (by simp [World.setCell]) fun k q => (RowKit.Below.heap_setCell _ _ _ _ (fun e => hn (by rw [← show k = b from e]; exact q))).trans (RowKit.Below.heap_setCell _ _ _ _ (fun e => hn (by rw [← show k = b from e]; exact q)))
theorem PutS.snocO {G : Nat → Prop} {N N5 : Nat} {w U U' : World} {v ov : Value} {E : List (Sn × Value)} {L : List Sn} {s : Sn} {pv : Value} (h : PutS G N w ov E U) (hown : OwnS N U' v (E ++ [(s, pv)])) (hg : U.grownBy U' ov.ownBlock) (hE : E.map Prod.fst = L) (hN : N ≤ N5) (hp : OwnB N5 U' pv s.p) (hpl : s.p.length ≤ 281474976710656) : OwnFl G N U' v (L ++ [s]) := by
  rcases hown.2 with ⟨_, h0⟩ | ⟨g, cap, cur, e, _⟩
  · simp at h0
  have hEl : (E ++ [(s, pv)]).length = (L ++ [s]).length := by rw [← hE]; simp
  refine ⟨E ++ [(s, pv)], g, cap, by rw [e, hEl], hown, by rw [List.map_append, hE]; rfl, fun x hx => ?_⟩
  have hgN : N ≤ g := (World.ownsRow.lt hown g (by rw [e]; rfl)).1
  rcases List.mem_append.1 hx with hx | hx
  · refine ((h.dep x hx).keep fun k q => hg.block k (Nat.lt_of_lt_of_le (h.gl k q) h.le) fun e => ?_).mono fun k q => ⟨.inl q, ?_⟩
    · have h2 := (World.ownsRow.lt h.own k e.symm).1
      have h3 := h.gl k q
      omega
    · have h3 := h.gl k q
      omega
  · simp at hx
    subst hx
    refine IsBG.ownb hp hpl fun k e2 => ?_
    have h4 := World.ownsRow.lt hp k e2
    refine ⟨.inr ⟨by omega, h4.2⟩, fun e3 => ?_⟩
    obtain ⟨c1, q1⟩ := ownsRow_type hp k e2
    obtain ⟨c2, q2⟩ := ownsRow_type hown g (by rw [e]; rfl)
    rw [e3, q2] at q1
    injection q1 with q1
    injection q1 with _ q3
    exact absurd q3 (by decide)
theorem PutS.snoc9 {G : Nat → Prop} {N : Nat} {w U U' : World} {v ov : Value} {E : List (Sn × Value)} {L : List Sn} {s : Sn} {pv : Value} (h : PutS G N w ov E U) (hown : OwnS N U' v (E ++ [(s, pv)])) (hg : U.grownBy U' ov.ownBlock) (hE : E.map Prod.fst = L) (hl : E.length ≤ 4096)
    (hp : IsBG (fun k => G k ∨ (N ≤ k ∧ k < U'.heap.size)) U' pv s.p) : SFirm (fun k => G k ∨ (N ≤ k ∧ k < U'.heap.size)) U' v (L ++ [s]) := by
  have hle := Nat.le_trans h.le hg.size
  have h1 := SFirm.ofOwn (G := fun k => G k ∨ (N ≤ k ∧ k < U'.heap.size)) (G2 := fun k => G k ∨ (N ≤ k ∧ k < U'.heap.size)) hown (by simp; omega) (fun x hx => by
    rcases List.mem_append.1 hx with hx | hx
    · refine ((h.dep x hx).keep fun k q => hg.block k (Nat.lt_of_lt_of_le (h.gl k q) h.le) fun e => ?_).mono fun k q => .inl q
      have h2 := (World.ownsRow.lt h.own k e.symm).1
      have h3 := h.gl k q
      omega
    · simp at hx
      subst hx
      exact hp) (fun k q => q) (fun k h1 h2 => .inr ⟨h1, h2⟩) (fun k q => q.elim (fun q => Nat.lt_of_lt_of_le (h.gl k q) hle) (fun q => q.2))
  rw [List.map_append, hE] at h1
  exact h1

set_option maxRecDepth 100000 in
set_option maxHeartbeats 8000000 in
theorem refSend_any (G : Nat → Prop) (n : Nat) (v : Value) (L : List Sn) (f t : Int) (pv : Value) (p : List UInt8) (w : World) (h : SFirm G w v L) (hl : L.length ≤ 4000) (hp : IsB w pv p) :
    Calls Try.prog 17 #[.agg #[.int .i64 (n : Int), v], .int .i64 f, .int .i64 t, pv] w fun e w' => ∃ v' G', e = .returned (.tuple #[.agg #[.int .i64 (n : Int), v'], .int .i64 (dsE n L f t p)]) ∧ SFirm G' w' v' (dsL n L f t p) ∧ (dsE n L f t p = 0 → ∃ N, w.heap.size ≤ N ∧ OwnFl G N w' v' (dsL n L f t p)) ∧ (∀ k, G' k → G k ∨ w.heap.size ≤ k) ∧ Below w.heap.size w w' := by
  have HGl : Hid (∀ k, G k → k < w.heap.size) := h.1
  obtain ⟨ap, cp, ep⟩ := hp.form
  subst ep
  obtain ⟨a1, c1, e1⟩ := h.isS.form
  subst e1
  obtain ⟨W0, eW⟩ : ∃ X, X = (w.alloc (.cells #[.int .i64 (n : Int), .slice a1 L.length c1] 30)).alloc (.cells #[.int .i64 0, .slice none 0 0] 30) := ⟨_, rfl⟩
  have hb : Below w.heap.size w W0 := by rw [eW]; exact ((Below.refl _ _).alloc (Nat.le_refl _) _).alloc (by simp) _
  have HS : Hid (SFirm G W0 (.slice a1 L.length c1) L) := h.below hb
  have HX : Hid (W0.heap[w.heap.size]? = some (.cells #[.int .i64 (n : Int), .slice a1 L.length c1] 30)) := by rw [eW]; exact (Below.heap_alloc _ _ _ (by simp)).trans (heap_alloc_new w _)
  have HZ : Hid (W0.heap[(w.heap.size + 1)]? = some (.cells #[.int .i64 0, .slice none 0 0] 30)) := by
    rw [eW]
    have h0 := heap_alloc_new (w.alloc (.cells #[.int .i64 (n : Int), .slice a1 L.length c1] 30)) (.cells #[.int .i64 0, .slice none 0 0] 30)
    rw [show (w.alloc (.cells #[.int .i64 (n : Int), .slice a1 L.length c1] 30)).heap.size = w.heap.size + 1 by simp] at h0
    exact h0
  have HB : Hid (Below w.heap.size w W0) := hb
  have HS0 : Hid (SFirm G w (.slice a1 L.length c1) L) := h
  have HPv : Hid (IsB W0 (.slice ap p.length cp) p) := hp.below hb
  have x_0 : W0.cell? ⟨w.heap.size, 0, none⟩ = some (.int .i64 (n : Int)) := (by rw [cell_of_row _ _ _ _ _ _ HX.out]; rfl)
  have x_1 : W0.cell? ⟨w.heap.size, 1, none⟩ = some (.slice a1 L.length c1) := (by rw [cell_of_row _ _ _ _ _ _ HX.out]; rfl)
  rw [eW] at x_0 x_1
  have HsW : Hid (W0.heap.size = w.heap.size + 2) := (by rw [eW]; show _ = _; simp)
  clear hb hp h
  go_enter Try.func17, Try.ntmps17
  go_wp2_with fail
  rw [← eW]
  clear eW x_0 x_1
  refine (refLink_any n _ f t _ ⟨_, _, _, rfl⟩).mono ?_
  rintro e w1 ⟨rfl, hb⟩
  have HW1 : Hid (w.heap.size + 2 ≤ w1.heap.size) := (by show _ ≤ _; rw [← HsW.out]; exact hb.size)
  replace HS : Hid (SFirm G w1 (.slice a1 L.length c1) L) := HS.out.below hb
  replace HX : Hid (w1.heap[w.heap.size]? = some (.cells #[.int .i64 (n : Int), .slice a1 L.length c1] 30)) := (hb.block _ (row_lt HX.out)).trans HX.out
  replace HZ : Hid (w1.heap[(w.heap.size + 1)]? = some (.cells #[.int .i64 0, .slice none 0 0] 30)) := (hb.block _ (row_lt HZ.out)).trans HZ.out
  replace HB : Hid (Below w.heap.size w w1) := HB.out.trans (hb.mono HB.out.size)
  replace HPv : Hid (IsB w1 (.slice ap p.length cp) p) := HPv.out.below hb
  clear hb
  by_cases hlk : linkE n f t = 0
  rotate_left
  · have g1 : (linkE n f t == 0) = false := by simp [hlk]
    have HdE : Hid (dsE n L f t p = linkE n f t) := by (show _ = _; unfold dsE; rw [if_pos hlk])
    have HdL : Hid (dsL n L f t p = L) := by (show _ = _; unfold dsL; rw [if_neg (by rw [HdE.out]; exact hlk)])
    have HNz : Hid (linkE n f t ≠ 0) := hlk
    clear hlk
    obtain ⟨le, ele⟩ : ∃ x, x = linkE n f t := ⟨_, rfl⟩
    rw [← ele] at g1 ⊢
    have HLe : Hid (le = linkE n f t) := ele
    clear ele
    go_upto_region 2 with fail
    refine wp_region_held_drew (S := fun W' => W'.heap[w.heap.size]? = some (.cells #[.int .i64 (n : Int), .slice a1 L.length c1] 30)) (by kernel_rfl) HX.out (fun hHeld => ?_)
    obtain ⟨Us1u0, eW⟩ : ∃ X, X = w1.drew := ⟨_, rfl⟩
    have hb : Below w1.heap.size w1 Us1u0 := by rw [eW]; exact (Below.refl _ _).drew
    replace HS : Hid (SFirm G Us1u0 (.slice a1 L.length c1) L) := HS.out.below hb
    replace HZ : Hid (Us1u0.heap[(w.heap.size + 1)]? = some (.cells #[.int .i64 0, .slice none 0 0] 30)) := (hb.block _ (row_lt HZ.out)).trans HZ.out
    replace HB : Hid (Below w.heap.size w Us1u0) := HB.out.trans (hb.mono HB.out.size)
    rw [← eW] at hHeld ⊢
    clear eW hb
    refine tkW 0 (some 16) (v := ?_) ?_ hHeld ?_
    rotate_left
    · (intro w hSw; (try dsimp only at hSw); have hk := hSw; obtain ⟨k_0, k_1, _, _⟩ := row2_cells hk; go_simp; try with_reducible rfl)
    refine tkW 1 (some 17) (v := ?_) ?_ hHeld ?_
    rotate_left
    · (intro w hSw; (try dsimp only at hSw); have hk := hSw; obtain ⟨k_0, k_1, _, _⟩ := row2_cells hk; go_simp; try with_reducible rfl)
    refine tkW 2 (some 18) (v := ?_) ?_ hHeld ?_
    rotate_left
    · (intro w _; go_simp; try with_reducible rfl)
    refine tkW 3 (some 19) (v := ?_) ?_ hHeld ?_
    rotate_left
    · (intro w _; go_simp; try with_reducible rfl)
    refine wpAnyH_ready (rs := [4]) (by kernel_rfl) (by simp) ?_
    refine AllReadyH.cons (o := ⟨some 20, _, _, _, _, _⟩) rfl (fun K hK => ?_) AllReadyH.nil
    go_simp
    refine (refLink_any n _ f t _ ⟨_, _, _, rfl⟩).mono ?_
    rintro e Us1u1 ⟨rfl, hb⟩
    (try go_wp2_with fail)
    refine hK.out _ _ ((hb.block _ (row_lt hHeld)).trans hHeld) (fun hHeld2 => ?_)
    clear hK K hHeld
    have hHeld := hHeld2
    clear hHeld2
    (try simp only [Act.put, List.setIfInBounds_toArray, List.set_cons_zero, List.set_cons_succ])
    replace HS : Hid (SFirm G Us1u1 (.slice a1 L.length c1) L) := HS.out.below hb
    replace HZ : Hid (Us1u1.heap[(w.heap.size + 1)]? = some (.cells #[.int .i64 0, .slice none 0 0] 30)) := (hb.block _ (row_lt HZ.out)).trans HZ.out
    replace HB : Hid (Below w.heap.size w Us1u1) := HB.out.trans (hb.mono HB.out.size)
    clear hb
    refine wpAnyH_ready (rs := [5]) (by kernel_rfl) (by simp) ?_
    refine AllReadyH.cons (o := ⟨none, _, _, _, _, _⟩) rfl (fun K hK => ?_) AllReadyH.nil
    obtain ⟨z_0, z_1, z_2, z_3⟩ := row2_cells HZ.out
    go_simp
    refine hK.out _ _ (row_set_other (row_set_other hHeld (by omega)) (by omega)) (fun hHeld2 => ?_)
    clear hK K hHeld
    have hHeld := hHeld2
    clear hHeld2
    (try simp only [Act.put, List.setIfInBounds_toArray, List.set_cons_zero, List.set_cons_succ])
    have HR : Hid (((Us1u1.setCell ⟨w.heap.size + 1, 0, none⟩ (.int .i64 (n : Int))).setCell ⟨w.heap.size + 1, 1, none⟩ (.slice a1 L.length c1)).heap[w.heap.size + 1]? = some (.cells #[.int .i64 (n : Int), .slice a1 L.length c1] 30)) := row_set2 HZ.out
    have HBs : Hid (Below w.heap.size w ((Us1u1.setCell ⟨w.heap.size + 1, 0, none⟩ (.int .i64 (n : Int))).setCell ⟨w.heap.size + 1, 1, none⟩ (.slice a1 L.length c1))) := (HB.out.setCell (p := ⟨w.heap.size + 1, 0, none⟩) (by show w.heap.size ≤ w.heap.size + 1; omega) _).setCell (p := ⟨w.heap.size + 1, 1, none⟩) (by show w.heap.size ≤ w.heap.size + 1; omega) _
    have HSs : Hid (SFirm G ((Us1u1.setCell ⟨w.heap.size + 1, 0, none⟩ (.int .i64 (n : Int))).setCell ⟨w.heap.size + 1, 1, none⟩ (.slice a1 L.length c1)) (.slice a1 L.length c1) L) := HS0.out.keep HBs.out.size (fun k q => HBs.out.block k (HGl.out k q))
    clear z_0 z_1 z_2 z_3
    refine tkW 6 (some 9) (v := ?_) ?_ hHeld ?_
    rotate_left
    · (intro w _; go_simp; try with_reducible rfl)
    refine wpAnyH_done (by kernel_rfl) ?_ _
    clear hHeld
    go_wp2
    (try simp only [Exit.inBlock, Exit.then])
    refine bodyPost_ret (results_cell_row2 rfl _ _ (w.heap.size + 1) _ _ _ _ rfl HR.out Try.underlying30 rfl (by kernel_rfl) rfl) rfl ?_
    exact ⟨_, G, (by rw [HdE.out]; rfl), (by rw [HdL.out]; exact HSs.out), (fun e => absurd (HdE.out.symm.trans e) HNz.out), fun k q => .inl q, HBs.out⟩
  have HLk : Hid (linkE n f t = 0) := hlk
  rw [hlk]
  clear hlk
  by_cases hlong : 65545 < p.length
  · have g2 : (65545 : Int) < (p.length : Int) := by omega
    have HdE : Hid (dsE n L f t p = 3) := by (show _ = _; unfold dsE; rw [if_neg (by rw [HLk.out]; simp), if_pos hlong])
    have HdL : Hid (dsL n L f t p = L) := by (show _ = _; unfold dsL; rw [if_neg (by rw [HdE.out]; decide)])
    have x_0 : w1.cell? ⟨w.heap.size, 0, none⟩ = some (.int .i64 (n : Int)) := (by rw [cell_of_row _ _ _ _ _ _ HX.out]; rfl)
    have x_1 : w1.cell? ⟨w.heap.size, 1, none⟩ = some (.slice a1 L.length c1) := (by rw [cell_of_row _ _ _ _ _ _ HX.out]; rfl)
    obtain ⟨z_0, z_1, z_2, z_3⟩ := row2_cells HZ.out
    go_wp2
    (try simp only [Exit.inBlock, Exit.then])
    have HR : Hid (((w1.setCell ⟨w.heap.size + 1, 0, none⟩ (.int .i64 (n : Int))).setCell ⟨w.heap.size + 1, 1, none⟩ (.slice a1 L.length c1)).heap[w.heap.size + 1]? = some (.cells #[.int .i64 (n : Int), .slice a1 L.length c1] 30)) := row_set2 HZ.out
    have HBs : Hid (Below w.heap.size w ((w1.setCell ⟨w.heap.size + 1, 0, none⟩ (.int .i64 (n : Int))).setCell ⟨w.heap.size + 1, 1, none⟩ (.slice a1 L.length c1))) := (HB.out.setCell (p := ⟨w.heap.size + 1, 0, none⟩) (by show w.heap.size ≤ w.heap.size + 1; omega) _).setCell (p := ⟨w.heap.size + 1, 1, none⟩) (by show w.heap.size ≤ w.heap.size + 1; omega) _
    have HSs : Hid (SFirm G ((w1.setCell ⟨w.heap.size + 1, 0, none⟩ (.int .i64 (n : Int))).setCell ⟨w.heap.size + 1, 1, none⟩ (.slice a1 L.length c1)) (.slice a1 L.length c1) L) := HS0.out.keep HBs.out.size (fun k q => HBs.out.block k (HGl.out k q))
    refine bodyPost_ret (results_cell_row2 rfl _ _ (w.heap.size + 1) _ _ _ _ rfl HR.out Try.underlying30 rfl (by kernel_rfl) rfl) rfl ?_
    exact ⟨_, G, (by rw [HdE.out]; rfl), (by rw [HdL.out]; exact HSs.out), (fun e => absurd (HdE.out.symm.trans e) (by decide)), fun k q => .inl q, HBs.out⟩
  have g2 : ¬ (65545 : Int) < (p.length : Int) := by omega
  have g3 : decide ((65545 : Int) < (p.length : Int)) = false := decide_eq_false g2
  have x_0 : w1.cell? ⟨w.heap.size, 0, none⟩ = some (.int .i64 (n : Int)) := (by rw [cell_of_row _ _ _ _ _ _ HX.out]; rfl)
  have x_1 : w1.cell? ⟨w.heap.size, 1, none⟩ = some (.slice a1 L.length c1) := (by rw [cell_of_row _ _ _ _ _ _ HX.out]; rfl)
  go_wp2_with fail
  clear x_0 x_1 g2 g3
  refine (refWaiting_any (n : Int) _ L f t _ HS.out.isS).mono ?_
  rintro e w3 ⟨rfl, hb⟩
  have HW3 : Hid (w.heap.size + 2 ≤ w3.heap.size) := Nat.le_trans HW1.out hb.size
  replace HS : Hid (SFirm G w3 (.slice a1 L.length c1) L) := HS.out.below hb
  replace HX : Hid (w3.heap[w.heap.size]? = some (.cells #[.int .i64 (n : Int), .slice a1 L.length c1] 30)) := (hb.block _ (row_lt HX.out)).trans HX.out
  replace HZ : Hid (w3.heap[(w.heap.size + 1)]? = some (.cells #[.int .i64 0, .slice none 0 0] 30)) := (hb.block _ (row_lt HZ.out)).trans HZ.out
  replace HB : Hid (Below w.heap.size w w3) := HB.out.trans (hb.mono HB.out.size)
  replace HPv : Hid (IsB w3 (.slice ap p.length cp) p) := HPv.out.below hb
  clear hb
  have HWl : Hid (waitL L f t ≤ L.length) := wait_le L f t
  obtain ⟨wt, ewt⟩ : ∃ x, x = waitL L f t := ⟨_, rfl⟩
  rw [← ewt] at HWl ⊢
  have HWt : Hid (wt = waitL L f t) := ewt
  clear ewt
  by_cases hfull : 256 ≤ wt
  · have g2 : (256 : Int) ≤ (wt : Int) := by omega
    have HdE : Hid (dsE n L f t p = 6) := by (show _ = _; unfold dsE; rw [if_neg (by rw [HLk.out]; simp), if_neg hlong, if_pos (by rw [← HWt.out]; exact hfull)])
    have HdL : Hid (dsL n L f t p = L) := by (show _ = _; unfold dsL; rw [if_neg (by rw [HdE.out]; decide)])
    have x_0 : w3.cell? ⟨w.heap.size, 0, none⟩ = some (.int .i64 (n : Int)) := (by rw [cell_of_row _ _ _ _ _ _ HX.out]; rfl)
    have x_1 : w3.cell? ⟨w.heap.size, 1, none⟩ = some (.slice a1 L.length c1) := (by rw [cell_of_row _ _ _ _ _ _ HX.out]; rfl)
    obtain ⟨z_0, z_1, z_2, z_3⟩ := row2_cells HZ.out
    go_wp2
    (try simp only [Exit.inBlock, Exit.then])
    have HR : Hid (((w3.setCell ⟨w.heap.size + 1, 0, none⟩ (.int .i64 (n : Int))).setCell ⟨w.heap.size + 1, 1, none⟩ (.slice a1 L.length c1)).heap[w.heap.size + 1]? = some (.cells #[.int .i64 (n : Int), .slice a1 L.length c1] 30)) := row_set2 HZ.out
    have HBs : Hid (Below w.heap.size w ((w3.setCell ⟨w.heap.size + 1, 0, none⟩ (.int .i64 (n : Int))).setCell ⟨w.heap.size + 1, 1, none⟩ (.slice a1 L.length c1))) := (HB.out.setCell (p := ⟨w.heap.size + 1, 0, none⟩) (by show w.heap.size ≤ w.heap.size + 1; omega) _).setCell (p := ⟨w.heap.size + 1, 1, none⟩) (by show w.heap.size ≤ w.heap.size + 1; omega) _
    have HSs : Hid (SFirm G ((w3.setCell ⟨w.heap.size + 1, 0, none⟩ (.int .i64 (n : Int))).setCell ⟨w.heap.size + 1, 1, none⟩ (.slice a1 L.length c1)) (.slice a1 L.length c1) L) := HS0.out.keep HBs.out.size (fun k q => HBs.out.block k (HGl.out k q))
    refine bodyPost_ret (results_cell_row2 rfl _ _ (w.heap.size + 1) _ _ _ _ rfl HR.out Try.underlying30 rfl (by kernel_rfl) rfl) rfl ?_
    exact ⟨_, G, (by rw [HdE.out]; rfl), (by rw [HdL.out]; exact HSs.out), (fun e => absurd (HdE.out.symm.trans e) (by decide)), fun k q => .inl q, HBs.out⟩
  have g2 : ¬ (256 : Int) ≤ (wt : Int) := by omega
  have g3 : decide ((256 : Int) ≤ (wt : Int)) = false := decide_eq_false g2
  have HdE : Hid (dsE n L f t p = 0) := by (show _ = _; unfold dsE; rw [if_neg (by rw [HLk.out]; simp), if_neg hlong, if_neg (by rw [← HWt.out]; exact hfull)])
  have HdL : Hid (dsL n L f t p = L ++ [⟨f, t, p, false⟩]) := by (show _ = _; unfold dsL; rw [if_pos HdE.out])
  have y_1 : (w3.alloc (.cells #[] 76)).cell? ⟨w.heap.size, 1, none⟩ = some (.slice a1 L.length c1) := (((Below.refl _ _).alloc (Nat.le_refl _) (.cells #[] 76)).cell (p := ⟨w.heap.size, 1, none⟩) (row_lt HX.out)).trans (by rw [cell_of_row _ _ _ _ _ _ HX.out]; rfl)
  go_upto_region 8 with (at_builtin; refine wpList_appSL rfl (.tmp 31) (.tmp 33) rfl w3.heap.size w3.heap.size rfl (World.ownsRow_made w3 #[] 0 (Nat.le_refl _) (by unfold maxLen; omega) (by simp)) a1 c1 L G rfl (HS.out.below ((Below.refl _ _).alloc (Nat.le_refl _) _)) (by omega) (by simp) ?_; intro E g7 c7 w7 hEm hEd hown7 hg7; have hb : Below w3.heap.size w3 w7 := ((Below.refl _ _).alloc (Nat.le_refl _) (.cells #[] 76)).grown hg7 (by simp) (fun k e => Nat.le_of_eq (Option.some.inj e)))
  obtain ⟨N9, eN9⟩ : ∃ x, x = w3.heap.size := ⟨_, rfl⟩
  have HN9 : Hid (w.heap.size + 1 < N9) := (by show _ < _; rw [eN9]; exact HW3.out)
  have HEm : Hid (E.map Prod.fst = L) := hEm
  have HEl : Hid (E.length ≤ 4000) := (by show _ ≤ _; rw [← HEm.out, List.length_map] at hl; exact hl)
  have HP : Hid (PutS G N9 w (.slice (some ⟨g7, 0, none⟩) L.length c7) E w7) := ⟨by rw [eN9]; exact hown7, fun x hx => (hEd x hx).keep (fun k q => hg7.block k (by have := HGl.out k q; have := HW3.out; simp; omega) (fun e => by have h1 := Option.some.inj e; have := HGl.out k q; have := HW3.out; omega)), by rw [eN9]; exact hb.size, fun k q => by (have := HGl.out k q; have := HN9.out; omega), HB.out.trans (hb.mono HB.out.size), by have := HN9.out; omega⟩
  replace HZ : Hid (w7.heap[(w.heap.size + 1)]? = some (.cells #[.int .i64 0, .slice none 0 0] 30)) := (hb.block _ (row_lt HZ.out)).trans HZ.out
  replace HX : Hid (w7.heap[w.heap.size]? = some (.cells #[.int .i64 (n : Int), .slice a1 L.length c1] 30)) := (hb.block _ (row_lt HX.out)).trans HX.out
  replace HB : Hid (Below w.heap.size w w7) := HB.out.trans (hb.mono HB.out.size)
  replace HPv : Hid (IsB w7 (.slice ap p.length cp) p) := HPv.out.below hb
  clear hb hg7 hown7 hEd hEm eN9 HS y_1 g2 g3
  refine wp_region_held_drew (S := fun W' => W'.heap[w.heap.size]? = some (.cells #[.int .i64 (n : Int), .slice a1 L.length c1] 30)) (by kernel_rfl) HX.out (fun hHeld => ?_)
  obtain ⟨Ut2u0, eW⟩ : ∃ X, X = w7.drew := ⟨_, rfl⟩
  have hb : Below w7.heap.size w7 Ut2u0 := by rw [eW]; exact (Below.refl _ _).drew
  replace HP : Hid (PutS G N9 w (.slice (some ⟨g7, 0, none⟩) L.length c7) E Ut2u0) := HP.out.below hb
  replace HZ : Hid (Ut2u0.heap[(w.heap.size + 1)]? = some (.cells #[.int .i64 0, .slice none 0 0] 30)) := (hb.block _ (row_lt HZ.out)).trans HZ.out
  replace HB : Hid (Below w.heap.size w Ut2u0) := HB.out.trans (hb.mono HB.out.size)
  replace HPv : Hid (IsB Ut2u0 (.slice ap p.length cp) p) := HPv.out.below hb
  replace HX : Hid (Ut2u0.heap[w.heap.size]? = some (.cells #[.int .i64 (n : Int), .slice a1 L.length c1] 30)) := (hb.block _ (row_lt HX.out)).trans HX.out
  rw [← eW] at hHeld ⊢
  clear eW hb
  refine tkW 0 (some 35) (v := ?_) ?_ hHeld ?_
  rotate_left
  · (intro w _; go_simp; try with_reducible rfl)
  refine tkW 1 (some 36) (v := ?_) ?_ hHeld ?_
  rotate_left
  · (intro w hSw; (try dsimp only at hSw); have hk := hSw; obtain ⟨k_0, k_1, _, _⟩ := row2_cells hk; go_simp; try with_reducible rfl)
  refine tkW 2 (some 37) (v := ?_) ?_ hHeld ?_
  rotate_left
  · (intro w _; go_simp; try with_reducible rfl)
  refine tkW 3 (some 38) (v := ?_) ?_ hHeld ?_
  rotate_left
  · (intro w _; go_simp; try with_reducible rfl)
  refine tkW 4 (some 39) (v := ?_) ?_ hHeld ?_
  rotate_left
  · (intro w _; go_simp; try with_reducible rfl)
  refine tkW 6 (some 41) (v := ?_) ?_ hHeld ?_
  rotate_left
  · (intro w _; go_simp; try with_reducible rfl)
  refine wpAnyH_ready (rs := [5]) (by kernel_rfl) (by simp) ?_
  refine AllReadyH.cons (o := ⟨some 40, _, _, _, _, _⟩) rfl (fun K hK => ?_) AllReadyH.nil
  obtain ⟨Ut2u1, eWn⟩ : ∃ X, X = Ut2u0.alloc (.cells #[] 5) := ⟨_, rfl⟩
  have hbx : Below Ut2u0.heap.size Ut2u0 Ut2u1 := by rw [eWn]; exact (Below.refl _ _).alloc (Nat.le_refl _) _
  obtain ⟨N5, eN5⟩ : ∃ b, b = Ut2u0.heap.size := ⟨_, rfl⟩
  have HE5 : Hid (OwnB N5 Ut2u1 (.slice (some ⟨N5, 0, none⟩) 0 0) []) := (by rw [eWn, eN5]; exact OwnB.empty Ut2u0 _ (Nat.le_refl _))
  have HN5 : Hid (N9 ≤ N5 ∧ g7 < N5 ∧ N5 ≤ Ut2u1.heap.size) := (by rw [eN5]; exact ⟨HP.out.le, (World.ownsRow.lt HP.out.own g7 rfl).2, hbx.size⟩)
  have HBx5 : Hid (Below N5 Ut2u0 Ut2u1 ∧ N5 = Ut2u0.heap.size) := (by rw [eN5]; exact ⟨hbx, rfl⟩)
  go_simp
  rw [← eWn, ← eN5]
  clear eWn eN5
  refine hK.out _ _ ((hbx.block _ (row_lt hHeld)).trans hHeld) (fun hHeld2 => ?_)
  clear hK K hHeld
  have hHeld := hHeld2
  clear hHeld2
  (try simp only [Act.put, List.setIfInBounds_toArray, List.set_cons_zero, List.set_cons_succ])
  clear hbx
  refine wpAnyH_ready (rs := [7]) (by kernel_rfl) (by simp) ?_
  refine AllReadyH.cons (o := ⟨some 42, _, _, _, _, _⟩) rfl (fun K hK => ?_) AllReadyH.nil
  refine step_appB rfl (.tmp 40) (.tmp 41) rfl N5 _ [] rfl HE5.out HN5.out.2.2 (.slice ap p.length cp) p rfl (HPv.out.below (by have h9 := HBx5.out.1; rw [HBx5.out.2] at h9; exact h9)) (by simp; omega) ?_
  intro v5 Ut2u2 hown5 hg5
  rw [List.nil_append] at hown5
  obtain ⟨a5, c5, e5⟩ := hown5.form
  subst e5
  have hb : Below Ut2u0.heap.size Ut2u0 Ut2u2 := (by have h9 := HBx5.out.1.grown hg5 HN5.out.2.2 (fun k e => Nat.le_of_eq (Option.some.inj e)); rw [HBx5.out.2] at h9; exact h9)
  have HO5 : Hid (OwnB N5 Ut2u2 (.slice a5 p.length c5) p) := hown5
  replace HP : Hid (PutS G N9 w (.slice (some ⟨g7, 0, none⟩) L.length c7) E Ut2u2) := HP.out.below hb
  replace HZ : Hid (Ut2u2.heap[(w.heap.size + 1)]? = some (.cells #[.int .i64 0, .slice none 0 0] 30)) := (hb.block _ (row_lt HZ.out)).trans HZ.out
  replace HB : Hid (Below w.heap.size w Ut2u2) := HB.out.trans (hb.mono HB.out.size)
  replace HPv : Hid (IsB Ut2u2 (.slice ap p.length cp) p) := HPv.out.below hb
  replace HX : Hid (Ut2u2.heap[w.heap.size]? = some (.cells #[.int .i64 (n : Int), .slice a1 L.length c1] 30)) := (hb.block _ (row_lt HX.out)).trans HX.out
  clear hown5 hg5 hb HE5 HBx5
  refine hK.out _ _ (HX.out) (fun hHeld2 => ?_)
  clear hK K hHeld
  have hHeld := hHeld2
  clear hHeld2
  (try simp only [Act.put, List.setIfInBounds_toArray, List.set_cons_zero, List.set_cons_succ])
  refine tkW 8 (some 43) (v := ?_) ?_ hHeld ?_
  rotate_left
  · (intro w hSw; (try dsimp only at hSw); have hk := hSw; obtain ⟨k_0, k_1, _, _⟩ := row2_cells hk; go_simp; try with_reducible rfl)
  refine wpAnyH_ready (rs := [9]) (by kernel_rfl) (by simp) ?_
  refine AllReadyH.cons (o := ⟨some 44, _, _, _, _, _⟩) rfl (fun K hK => ?_) AllReadyH.nil
  have hbx : Below Ut2u2.heap.size Ut2u2 (Ut2u2.alloc (.cells #[.int .i64 f, .int .i64 t, .slice a5 p.length c5, .bool false] 76)) := (Below.refl _ _).alloc (Nat.le_refl _) _
  go_simp
  refine hK.out _ _ ((hbx.block _ (row_lt hHeld)).trans hHeld) (fun hHeld2 => ?_)
  clear hK K hHeld
  have hHeld := hHeld2
  clear hHeld2
  (try simp only [Act.put, List.setIfInBounds_toArray, List.set_cons_zero, List.set_cons_succ])
  obtain ⟨Ut2u3, eW⟩ : ∃ X, X = Ut2u2.alloc (.cells #[.int .i64 f, .int .i64 t, .slice a5 p.length c5, .bool false] 76) := ⟨_, rfl⟩
  have hb : Below Ut2u2.heap.size Ut2u2 Ut2u3 := by rw [eW]; exact (Below.refl _ _).alloc (Nat.le_refl _) _
  replace HP : Hid (PutS G N9 w (.slice (some ⟨g7, 0, none⟩) L.length c7) E Ut2u3) := HP.out.below hb
  replace HZ : Hid (Ut2u3.heap[(w.heap.size + 1)]? = some (.cells #[.int .i64 0, .slice none 0 0] 30)) := (hb.block _ (row_lt HZ.out)).trans HZ.out
  replace HB : Hid (Below w.heap.size w Ut2u3) := HB.out.trans (hb.mono HB.out.size)
  replace HPv : Hid (IsB Ut2u3 (.slice ap p.length cp) p) := HPv.out.below hb
  replace HX : Hid (Ut2u3.heap[w.heap.size]? = some (.cells #[.int .i64 (n : Int), .slice a1 L.length c1] 30)) := (hb.block _ (row_lt HX.out)).trans HX.out
  replace HO5 : Hid (OwnB N5 Ut2u3 (.slice a5 p.length c5) p) := HO5.out.below hb
  have HV : Hid (Ut2u3.heap[Ut2u2.heap.size]? = some (.cells #[.int .i64 f, .int .i64 t, .slice a5 p.length c5, .bool false] 76)) := by rw [eW]; exact heap_alloc_new _ _
  rw [← eW] at hHeld ⊢
  clear eW
  clear hbx
  obtain ⟨vb, enb⟩ : ∃ b, b = Ut2u2.heap.size := ⟨_, rfl⟩
  rw [← enb] at HV ⊢
  clear enb
  clear hb
  refine wpAnyH_ready (rs := [10]) (by kernel_rfl) (by simp) ?_
  refine AllReadyH.cons (o := ⟨some 45, _, _, _, _, _⟩) rfl (fun K hK => ?_) AllReadyH.nil
  have hcs : ∀ j u, (flatS [((⟨f, t, p, false⟩, .slice a5 p.length c5) : Sn × Value)])[j]? = some u → Ut2u3.cell? ⟨vb, 0 + j, none⟩ = some u := (fun j u hj => by (rw [cell_of_row _ _ _ _ _ _ HV.out, Nat.zero_add]; simpa [flatS, snCells] using hj))
  refine step_appSs rfl (.tmp 37) (.tmp 44) rfl N9 _ E rfl HP.out.own vb 0 1 1 [(⟨f, t, p, false⟩, .slice a5 p.length c5)] rfl rfl hcs (fun x hx => by (simp at hx; subst hx; exact ⟨_, _, _, rfl⟩)) (by (have := HEl.out; simp; omega)) HP.out.le ?_
  intro v9 Ut2u4 hown9 hg9
  clear hcs
  have hF : SFirm (fun k => G k ∨ (N9 ≤ k ∧ k < Ut2u4.heap.size)) Ut2u4 v9 (L ++ [⟨f, t, p, false⟩]) := HP.out.snoc9 hown9 hg9 HEm.out (by have := HEl.out; omega) (IsBG.own (HO5.out.grow9 hg9 (fun k e => by have h1 := HN5.out.2.1; have h2 := Option.some.inj e; have h3 : g7 = k := h2; omega)) (by show p.length ≤ _; omega) (fun k h1 h2 => .inr ⟨by have := HN5.out.1; omega, h2⟩))
  have hOw : OwnFl G N9 Ut2u4 v9 (L ++ [⟨f, t, p, false⟩]) := HP.out.snocO hown9 hg9 HEm.out HN5.out.1 (HO5.out.grow9 hg9 (fun k e => by have h1 := HN5.out.2.1; have h2 := Option.some.inj e; have h3 : g7 = k := h2; omega)) (by show p.length ≤ _; omega)
  obtain ⟨av9, cv9, ev9⟩ := hF.isS.form
  subst ev9
  obtain ⟨L9, eL9⟩ : ∃ X, X = L ++ [(⟨f, t, p, false⟩ : Sn)] := ⟨_, rfl⟩
  rw [← eL9] at hF hOw ⊢
  have HL9 : Hid (L9 = L ++ [(⟨f, t, p, false⟩ : Sn)]) := eL9
  clear eL9
  have HOw : Hid (OwnFl G N9 Ut2u4 (.slice av9 L9.length cv9) L9) := hOw
  clear hOw
  have HF : Hid (SFirm (fun k => G k ∨ (N9 ≤ k ∧ k < Ut2u4.heap.size)) Ut2u4 (.slice av9 L9.length cv9) L9) := hF
  have hne : ∀ b, b ≤ w.heap.size + 1 → some b ≠ (Value.slice (some ⟨g7, 0, none⟩) L.length c7).ownBlock := (fun b hb e => by have h1 := Option.some.inj e; have h2 := (World.ownsRow.lt HP.out.own g7 rfl).1; have h3 := HN9.out; have h4 : b = g7 := h1; omega)
  replace HX : Hid (Ut2u4.heap[w.heap.size]? = some (.cells #[.int .i64 (n : Int), .slice a1 L.length c1] 30)) := (hg9.block _ (row_lt HX.out) (hne _ (by omega))).trans HX.out
  replace HZ : Hid (Ut2u4.heap[(w.heap.size + 1)]? = some (.cells #[.int .i64 0, .slice none 0 0] 30)) := (hg9.block _ (row_lt HZ.out) (hne _ (by omega))).trans HZ.out
  replace HB : Hid (Below w.heap.size w Ut2u4) := HB.out.grown hg9 HB.out.size (fun k e => by have h2 := (World.ownsRow.lt HP.out.own k e).1; have h3 := HN9.out; omega)
  clear hown9 hg9 hF hne HP HV HO5 HPv
  refine hK.out _ _ (HX.out) (fun hHeld2 => ?_)
  clear hK K hHeld
  have hHeld := hHeld2
  clear hHeld2
  (try simp only [Act.put, List.setIfInBounds_toArray, List.set_cons_zero, List.set_cons_succ])
  refine tkW 11 (some 46) (v := ?_) ?_ hHeld ?_
  rotate_left
  · (intro w hSw; (try dsimp only at hSw); have hk := hSw; obtain ⟨k_0, k_1, _, _⟩ := row2_cells hk; go_simp; try with_reducible rfl)
  refine wpAnyH_ready (rs := [12]) (by kernel_rfl) (by simp) ?_
  refine AllReadyH.cons (o := ⟨none, _, _, _, _, _⟩) rfl (fun K hK => ?_) AllReadyH.nil
  obtain ⟨z_0, z_1, z_2, z_3⟩ := row2_cells HZ.out
  go_simp
  refine hK.out _ _ (row_set_other (row_set_other hHeld (by omega)) (by omega)) (fun hHeld2 => ?_)
  clear hK K hHeld
  have hHeld := hHeld2
  clear hHeld2
  (try simp only [Act.put, List.setIfInBounds_toArray, List.set_cons_zero, List.set_cons_succ])
  have HR : Hid (((Ut2u4.setCell ⟨w.heap.size + 1, 0, none⟩ (.int .i64 (n : Int))).setCell ⟨w.heap.size + 1, 1, none⟩ (.slice av9 L9.length cv9)).heap[w.heap.size + 1]? = some (.cells #[.int .i64 (n : Int), .slice av9 L9.length cv9] 30)) := row_set2 HZ.out
  have HBs : Hid (Below w.heap.size w ((Ut2u4.setCell ⟨w.heap.size + 1, 0, none⟩ (.int .i64 (n : Int))).setCell ⟨w.heap.size + 1, 1, none⟩ (.slice av9 L9.length cv9))) := (HB.out.setCell (p := ⟨w.heap.size + 1, 0, none⟩) (by show w.heap.size ≤ w.heap.size + 1; omega) _).setCell (p := ⟨w.heap.size + 1, 1, none⟩) (by show w.heap.size ≤ w.heap.size + 1; omega) _
  have HSs : Hid (SFirm (fun k => G k ∨ (N9 ≤ k ∧ k < Ut2u4.heap.size)) ((Ut2u4.setCell ⟨w.heap.size + 1, 0, none⟩ (.int .i64 (n : Int))).setCell ⟨w.heap.size + 1, 1, none⟩ (.slice av9 L9.length cv9)) (.slice av9 L9.length cv9) L9) := HF.out.set2 (fun q => by (have h3 := HN9.out; rcases q with q | q; have := HGl.out _ q; omega; omega))
  have HOs : Hid (OwnFl G N9 ((Ut2u4.setCell ⟨w.heap.size + 1, 0, none⟩ (.int .i64 (n : Int))).setCell ⟨w.heap.size + 1, 1, none⟩ (.slice av9 L9.length cv9)) (.slice av9 L9.length cv9) L9) := HOw.out.set2 (fun q => by (have h3 := HN9.out; rcases q with q | q; have := HGl.out _ q; omega; omega))
  clear z_0 z_1 z_2 z_3
  refine tkW 13 (some 9) (v := ?_) ?_ hHeld ?_
  rotate_left
  · (intro w _; go_simp; try with_reducible rfl)
  refine wpAnyH_done (by kernel_rfl) ?_ _
  clear hHeld
  go_wp2
  (try simp only [Exit.inBlock, Exit.then])
  refine bodyPost_ret (results_cell_row2 rfl _ _ (w.heap.size + 1) _ _ _ _ rfl HR.out Try.underlying30 rfl (by kernel_rfl) rfl) rfl ?_
  exact ⟨_, fun k => G k ∨ (N9 ≤ k ∧ k < Ut2u4.heap.size), (by rw [HdE.out]; rfl), (by rw [HdL.out, ← HL9.out]; exact HSs.out), (fun _ => ⟨N9, by have := HN9.out; omega, by rw [HdL.out, ← HL9.out]; exact HOs.out⟩), fun k q => Or.imp id (fun q => by have := HN9.out; omega) q, HBs.out⟩

end Go.Proofs.Ytlcnfoljkcfplaa
