/- Boxes; right, with, without, Has, Len, New. -/
import Derived.Test.YtfgkdbidgbpobaaRwA
import Derived.Test.YtfgkdbidgbpobaaWalksB
import Derived.Deep.RegionHeld
namespace Go.Proofs.Ytfgkdbidgbpobaa
open Go.RowKit
set_option linter.unusedVariables false
set_option linter.unusedSimpArgs false

/-- A box: a block of these cells. -/
def BxC (b : Nat) (cs : List Value) (T : TypeId) (W : World) : Prop := W.heap[b]? = some (.cells cs.toArray T)
section
variable {b : Nat} {cs : List Value} {T : TypeId} {W W' : World}
theorem BxC.lt (h : BxC b cs T W) : b < W.heap.size := row_lt h
theorem BxC.keep (h : BxC b cs T W) (hk : W'.heap[b]? = W.heap[b]?) : BxC b cs T W' := hk.trans h
theorem BxC.below (h : BxC b cs T W) (hb : Below W.heap.size W W') : BxC b cs T W' := h.keep (hb.block b h.lt)
theorem BxC.touch (h : BxC b cs T W) {G : Nat → Prop} (ht : Touch G W W') (hG : ¬ G b) : BxC b cs T W' := h.keep (ht.block b h.lt hG)
theorem BxC.cell (h : BxC b cs T W) (i : Nat) (v : Value) (hv : cs[i]? = some v) : W.cell? ⟨b, i, none⟩ = some v := by
  rw [cell_of_row W b i _ _ _ h, List.getElem?_toArray]
  exact hv
theorem BxC.free (h : BxC b cs T W) (i : Nat) : W.frozen? ⟨b, i, none⟩ = false := frozen_of_row W b i _ _ h
theorem BxC.new (w : World) (cs : List Value) (T : TypeId) : BxC w.heap.size cs T (w.alloc (.cells cs.toArray T)) := heap_alloc_new w _
theorem BxC.new2 (w : World) (cs ds : List Value) (T U : TypeId) : BxC w.heap.size cs T ((w.alloc (.cells cs.toArray T)).alloc (.cells ds.toArray U)) ∧ BxC (w.heap.size + 1) ds U ((w.alloc (.cells cs.toArray T)).alloc (.cells ds.toArray U)) := by
  refine ⟨(Below.heap_alloc _ _ _ (by simp)).trans (heap_alloc_new w _), ?_⟩
  have := heap_alloc_new (w.alloc (.cells cs.toArray T)) (.cells ds.toArray U)
  simpa [BxC] using this
theorem BxC.new3 (w : World) (cs ds es : List Value) (T U V : TypeId) : BxC w.heap.size cs T (((w.alloc (.cells cs.toArray T)).alloc (.cells ds.toArray U)).alloc (.cells es.toArray V)) ∧ BxC (w.heap.size + 1) ds U (((w.alloc (.cells cs.toArray T)).alloc (.cells ds.toArray U)).alloc (.cells es.toArray V)) ∧ BxC (w.heap.size + 2) es V (((w.alloc (.cells cs.toArray T)).alloc (.cells ds.toArray U)).alloc (.cells es.toArray V)) := by
  obtain ⟨h1, h2⟩ := BxC.new2 w cs ds T U
  refine ⟨(Below.heap_alloc _ _ _ (by simp; omega)).trans h1, (Below.heap_alloc _ _ _ (by simp)).trans h2, ?_⟩
  have := heap_alloc_new ((w.alloc (.cells cs.toArray T)).alloc (.cells ds.toArray U)) (.cells es.toArray V)
  simpa [BxC] using this
end
theorem right_bel (c r : Int) (w : World) :
    Calls Try.prog 34 #[.agg #[.int .i64 c, .int .i64 r]] w fun e w' => e = .returned (.bool (rightB c r)) ∧ Below w.heap.size w w' :=
  (right_any c r w).mono fun e w' ⟨h, hw⟩ => ⟨h, hw ▸ (Below.refl _ _).alloc (Nat.le_refl _) _⟩

set_option maxHeartbeats 1000000 in
theorem okRow_any (s : Sl) (w : World) :
    Calls Try.prog 22 #[.agg #[.int .i64 s.ts.1, .int .i64 s.ts.2], .agg #[.int .i64 s.af.1, .int .i64 s.af.2]] w fun e w' => e = .returned (.bool (okS s)) ∧ Below w.heap.size w w' := by
  obtain ⟨⟨c, r⟩, ⟨c2, r2⟩⟩ := s
  obtain ⟨W0, eW⟩ : ∃ X, X = (w.alloc (.cells (stCells (c, r)).toArray 33)).alloc (.cells (stCells (c2, r2)).toArray 33) := ⟨_, rfl⟩
  have HB : Hid (Below w.heap.size w W0) := by rw [eW]; exact ((Below.refl _ _).alloc (Nat.le_refl _) _).alloc (by simp) _
  have HX : Hid (BxC w.heap.size (stCells (c, r)) 33 W0) := by rw [eW]; exact (BxC.new2 w _ _ _ _).1
  have HY : Hid (BxC (w.heap.size + 1) (stCells (c2, r2)) 33 W0) := by rw [eW]; exact (BxC.new2 w _ _ _ _).2
  have HO : Hid (okS ⟨(c, r), (c2, r2)⟩ = (rightB c r && (decide ((c2, r2) = z0) || rightB c2 r2 && lessS c2 r2 c r))) := rfl
  cases hA : rightB c r with
  | false =>
    have x0 := HX.out.cell 0 _ rfl
    have x1 := HX.out.cell 1 _ rfl
    have y0 := HY.out.cell 0 _ rfl
    have y1 := HY.out.cell 1 _ rfl
    rw [eW] at x0 x1 y0 y1
    go_enter Try.func22, Try.ntmps22
    go_wp2_with fail
    have eW2 := eW
    simp only [stCells] at eW2
    rw [← eW2]
    clear eW2 eW
    refine (right_bel _ _ _).mono ?_
    rintro e w1 ⟨rfl, hb⟩
    replace HB : Hid (Below w.heap.size w w1) := HB.out.trans (hb.mono HB.out.size)
    replace HX : Hid (BxC w.heap.size (stCells (c, r)) 33 w1) := HX.out.below hb
    replace HY : Hid (BxC (w.heap.size + 1) (stCells (c2, r2)) 33 w1) := HY.out.below hb
    clear hb x0 x1 y0 y1
    have x0 := HX.out.cell 0 _ rfl
    have x1 := HX.out.cell 1 _ rfl
    have y0 := HY.out.cell 0 _ rfl
    have y1 := HY.out.cell 1 _ rfl
    rw [hA]
    go_wp2
    go_ret
    exact ⟨ret_bool (by rw [HO.out, hA]; rfl), HB.out⟩
  | true =>
    by_cases e1 : c2 = 0
    · by_cases e2 : r2 = 0
      · subst e1 e2
        have x0 := HX.out.cell 0 _ rfl
        have x1 := HX.out.cell 1 _ rfl
        have y0 := HY.out.cell 0 _ rfl
        have y1 := HY.out.cell 1 _ rfl
        rw [eW] at x0 x1 y0 y1
        go_enter Try.func22, Try.ntmps22
        go_wp2_with fail
        have eW2 := eW
        simp only [stCells] at eW2
        rw [← eW2]
        clear eW2 eW
        refine (right_bel _ _ _).mono ?_
        rintro e w1 ⟨rfl, hb⟩
        replace HB : Hid (Below w.heap.size w w1) := HB.out.trans (hb.mono HB.out.size)
        replace HX : Hid (BxC w.heap.size (stCells (c, r)) 33 w1) := HX.out.below hb
        replace HY : Hid (BxC (w.heap.size + 1) (stCells (0, 0)) 33 w1) := HY.out.below hb
        clear hb x0 x1 y0 y1
        have x0 := HX.out.cell 0 _ rfl
        have x1 := HX.out.cell 1 _ rfl
        have y0 := HY.out.cell 0 _ rfl
        have y1 := HY.out.cell 1 _ rfl
        rw [hA]
        go_wp2
        go_ret
        exact ⟨ret_bool (by rw [HO.out, hA]; rfl), HB.out⟩
      · have e3 : (r2 == 0) = false := by simpa using e2
        have HN : Hid (decide ((c2, r2) = z0) = false) := by (show _ = _; simp [z0, e2])
        subst e1
        cases hP : rightB 0 r2 with
        | false =>
          have x0 := HX.out.cell 0 _ rfl
          have x1 := HX.out.cell 1 _ rfl
          have y0 := HY.out.cell 0 _ rfl
          have y1 := HY.out.cell 1 _ rfl
          rw [eW] at x0 x1 y0 y1
          go_enter Try.func22, Try.ntmps22
          go_wp2_with fail
          have eW2 := eW
          simp only [stCells] at eW2
          rw [← eW2]
          clear eW2 eW
          refine (right_bel _ _ _).mono ?_
          rintro e w1 ⟨rfl, hb⟩
          replace HB : Hid (Below w.heap.size w w1) := HB.out.trans (hb.mono HB.out.size)
          replace HX : Hid (BxC w.heap.size (stCells (c, r)) 33 w1) := HX.out.below hb
          replace HY : Hid (BxC (w.heap.size + 1) (stCells (0, r2)) 33 w1) := HY.out.below hb
          clear hb x0 x1 y0 y1
          have x0 := HX.out.cell 0 _ rfl
          have x1 := HX.out.cell 1 _ rfl
          have y0 := HY.out.cell 0 _ rfl
          have y1 := HY.out.cell 1 _ rfl
          rw [hA]
          go_wp2_with fail
          refine (right_bel _ _ _).mono ?_
          rintro e w2 ⟨rfl, hb⟩
          replace HB : Hid (Below w.heap.size w w2) := HB.out.trans (hb.mono HB.out.size)
          replace HX : Hid (BxC w.heap.size (stCells (c, r)) 33 w2) := HX.out.below hb
          replace HY : Hid (BxC (w.heap.size + 1) (stCells (0, r2)) 33 w2) := HY.out.below hb
          clear hb x0 x1 y0 y1
          have x0 := HX.out.cell 0 _ rfl
          have x1 := HX.out.cell 1 _ rfl
          have y0 := HY.out.cell 0 _ rfl
          have y1 := HY.out.cell 1 _ rfl
          rw [hP]
          go_wp2
          go_ret
          exact ⟨ret_bool (by rw [HO.out, hA, hP, HN.out]; rfl), HB.out⟩
        | true => simp [rightB] at hP
    · have e3 : (c2 == 0) = false := by simpa using e1
      have HN : Hid (decide ((c2, r2) = z0) = false) := by (show _ = _; simp [z0, e1])
      cases hP : rightB c2 r2 with
      | false =>
        have x0 := HX.out.cell 0 _ rfl
        have x1 := HX.out.cell 1 _ rfl
        have y0 := HY.out.cell 0 _ rfl
        have y1 := HY.out.cell 1 _ rfl
        rw [eW] at x0 x1 y0 y1
        go_enter Try.func22, Try.ntmps22
        go_wp2_with fail
        have eW2 := eW
        simp only [stCells] at eW2
        rw [← eW2]
        clear eW2 eW
        refine (right_bel _ _ _).mono ?_
        rintro e w1 ⟨rfl, hb⟩
        replace HB : Hid (Below w.heap.size w w1) := HB.out.trans (hb.mono HB.out.size)
        replace HX : Hid (BxC w.heap.size (stCells (c, r)) 33 w1) := HX.out.below hb
        replace HY : Hid (BxC (w.heap.size + 1) (stCells (c2, r2)) 33 w1) := HY.out.below hb
        clear hb x0 x1 y0 y1
        have x0 := HX.out.cell 0 _ rfl
        have x1 := HX.out.cell 1 _ rfl
        have y0 := HY.out.cell 0 _ rfl
        have y1 := HY.out.cell 1 _ rfl
        rw [hA]
        go_wp2_with fail
        refine (right_bel _ _ _).mono ?_
        rintro e w2 ⟨rfl, hb⟩
        replace HB : Hid (Below w.heap.size w w2) := HB.out.trans (hb.mono HB.out.size)
        replace HX : Hid (BxC w.heap.size (stCells (c, r)) 33 w2) := HX.out.below hb
        replace HY : Hid (BxC (w.heap.size + 1) (stCells (c2, r2)) 33 w2) := HY.out.below hb
        clear hb x0 x1 y0 y1
        have x0 := HX.out.cell 0 _ rfl
        have x1 := HX.out.cell 1 _ rfl
        have y0 := HY.out.cell 0 _ rfl
        have y1 := HY.out.cell 1 _ rfl
        rw [hP]
        go_wp2
        go_ret
        exact ⟨ret_bool (by rw [HO.out, hA, hP, HN.out]; rfl), HB.out⟩
      | true =>
        have x0 := HX.out.cell 0 _ rfl
        have x1 := HX.out.cell 1 _ rfl
        have y0 := HY.out.cell 0 _ rfl
        have y1 := HY.out.cell 1 _ rfl
        rw [eW] at x0 x1 y0 y1
        go_enter Try.func22, Try.ntmps22
        go_wp2_with fail
        have eW2 := eW
        simp only [stCells] at eW2
        rw [← eW2]
        clear eW2 eW
        refine (right_bel _ _ _).mono ?_
        rintro e w1 ⟨rfl, hb⟩
        replace HB : Hid (Below w.heap.size w w1) := HB.out.trans (hb.mono HB.out.size)
        replace HX : Hid (BxC w.heap.size (stCells (c, r)) 33 w1) := HX.out.below hb
        replace HY : Hid (BxC (w.heap.size + 1) (stCells (c2, r2)) 33 w1) := HY.out.below hb
        clear hb x0 x1 y0 y1
        have x0 := HX.out.cell 0 _ rfl
        have x1 := HX.out.cell 1 _ rfl
        have y0 := HY.out.cell 0 _ rfl
        have y1 := HY.out.cell 1 _ rfl
        rw [hA]
        go_wp2_with fail
        refine (right_bel _ _ _).mono ?_
        rintro e w2 ⟨rfl, hb⟩
        replace HB : Hid (Below w.heap.size w w2) := HB.out.trans (hb.mono HB.out.size)
        replace HX : Hid (BxC w.heap.size (stCells (c, r)) 33 w2) := HX.out.below hb
        replace HY : Hid (BxC (w.heap.size + 1) (stCells (c2, r2)) 33 w2) := HY.out.below hb
        clear hb x0 x1 y0 y1
        have x0 := HX.out.cell 0 _ rfl
        have x1 := HX.out.cell 1 _ rfl
        have y0 := HY.out.cell 0 _ rfl
        have y1 := HY.out.cell 1 _ rfl
        rw [hP]
        go_wp2_with fail
        refine (less_any _ _ _ _ _).mono ?_
        rintro e w3 ⟨rfl, hb⟩
        replace HB : Hid (Below w.heap.size w w3) := HB.out.trans (hb.mono HB.out.size)
        replace HX : Hid (BxC w.heap.size (stCells (c, r)) 33 w3) := HX.out.below hb
        replace HY : Hid (BxC (w.heap.size + 1) (stCells (c2, r2)) 33 w3) := HY.out.below hb
        clear hb x0 x1 y0 y1
        have x0 := HX.out.cell 0 _ rfl
        have x1 := HX.out.cell 1 _ rfl
        have y0 := HY.out.cell 0 _ rfl
        have y1 := HY.out.cell 1 _ rfl
        go_wp2
        go_ret
        exact ⟨ret_bool (by rw [HO.out, hA, hP, HN.out]; simp), HB.out⟩

/-- What with and without leave. -/
def ListP (v : Value) (w : World) (l' : List St) (e : Ending) (w' : World) : Prop := ∃ v', e = .returned v' ∧ OwnSt 0 w' v' l' ∧ w.grownBy w' v.ownBlock ∧ (v'.ownBlock = v.ownBlock ∨ ∃ k, v'.ownBlock = some k ∧ w.heap.size ≤ k)

set_option maxHeartbeats 1000000 in
theorem with_any (v : Value) (l : List St) (s : St) (w : World) (h : OwnSt 0 w v l) (hl : l.length ≤ 4096) (hs : SrtS l) (hn : hasS l s = false) :
    Calls Try.prog 24 #[v, .agg #[.int .i64 s.1, .int .i64 s.2]] w fun e w' => ListP v w (insS l s) e w' := by
  obtain ⟨a0, c0, e0⟩ := h.form
  subst e0
  obtain ⟨W0, eW⟩ : ∃ X, X = w.alloc (.cells (stCells s).toArray 33) := ⟨_, rfl⟩
  have hb0 : Below w.heap.size w W0 := by rw [eW]; exact (Below.refl _ _).alloc (Nat.le_refl _) _
  have HB : Hid (Below w.heap.size w W0) := hb0
  have HX : Hid (BxC w.heap.size (stCells s) 33 W0) := by rw [eW]; exact BxC.new w _ _
  have HO : Hid (OwnSt 0 W0 (.slice a0 l.length c0) l) := h.below hb0
  have HV : Hid (∀ k, (Value.slice a0 l.length c0).ownBlock = some k → k < w.heap.size) := fun k e => (h.lt k e).2
  have HS : Hid (SrtS l) := hs
  have HN : Hid (hasS l s = false) := hn
  clear h hs hn hb0
  have x0 := HX.out.cell 0 _ rfl
  have x1 := HX.out.cell 1 _ rfl
  rw [eW] at x0 x1
  go_enter Try.func24, Try.ntmps24
  go_wp2_with fail
  have eW2 := eW
  simp only [stCells] at eW2
  rw [← eW2]
  clear eW2 eW x0 x1
  refine (search_any _ l s.1 s.2 _ HO.out hl HS.out).mono ?_
  rintro e w1 ⟨i, b, rfl, hpl, hbb, hb⟩
  have HP : Hid (PlcS l s i) := hpl
  have HB1 : Hid (Below w.heap.size w w1) := HB.out.trans (hb.mono HB.out.size)
  have HO1 : Hid (OwnSt 0 w1 (.slice a0 l.length c0) l) := HO.out.below hb
  have HX1 := HX.out.below hb
  have x0 := HX1.cell 0 _ rfl
  have x1 := HX1.cell 1 _ rfl
  have HI : Hid (insS l s = l.take i ++ s :: l.drop i) := hpl.ins HN.out
  clear hb hpl hbb HB HO HX HX1
  obtain ⟨W2, eW⟩ : ∃ X, X = w1.alloc (.cells (stCells s).toArray 33) := ⟨_, rfl⟩
  have hb2 : Below w1.heap.size w1 W2 := by rw [eW]; exact (Below.refl _ _).alloc (Nat.le_refl _) _
  have HX2 : Hid (W2.heap[w1.heap.size]? = some (.cells (stCells s).toArray 33)) := by rw [eW]; exact heap_alloc_new _ _
  have HB2 : Hid (Below w.heap.size w W2) := HB1.out.trans (hb2.mono HB1.out.size)
  have HO2 : Hid (OwnSt 0 W2 (.slice a0 l.length c0) l) := HO1.out.below hb2
  have HV2 : Hid ((Value.slice a0 l.length c0).ownBlock ≠ some w1.heap.size) := fun e => by (have := HV.out _ e; have := HB1.out.size; omega)
  clear hb2
  go_wp2_with fail
  have eW2 := eW
  simp only [stCells] at eW2
  rw [← eW2]
  clear eW2 eW x0 x1
  refine (insert_any _ l i s _ _ HO2.out hl HP.out.le HX2.out HV2.out).mono ?_
  rintro e w3 ⟨v', rfl, ho, hg, hv⟩
  obtain ⟨a1, n1, c1, e1⟩ : ∃ a1 n1 c1, v' = .slice a1 n1 c1 := by (obtain ⟨a1, c1, e1⟩ := ho.form; exact ⟨a1, _, c1, e1⟩)
  subst e1
  have HF : Hid (ListP (.slice a0 l.length c0) w (insS l s) (.returned (.slice a1 n1 c1)) w3) := by
    refine ⟨_, rfl, by rw [HI.out]; exact ho, (grownBy.ofBelow (HB2.out) _).trans hg, hv.imp id fun ⟨k, e, hk⟩ => ⟨k, e, Nat.le_trans HB2.out.size hk⟩⟩
  clear ho hg hv
  go_wp2
  go_ret
  exact HF.out

set_option maxHeartbeats 1000000 in
theorem without_any (v : Value) (l : List St) (s : St) (w : World) (h : OwnSt 0 w v l) (hl : l.length ≤ 4096) (hs : SrtS l) :
    Calls Try.prog 26 #[v, .agg #[.int .i64 s.1, .int .i64 s.2]] w fun e w' => ∃ v', e = .returned v' ∧ OwnSt 0 w' v' (delS l s) ∧ w.grownBy w' v.ownBlock ∧ v'.ownBlock = v.ownBlock := by
  obtain ⟨a0, c0, e0⟩ := h.form
  subst e0
  obtain ⟨W0, eW⟩ : ∃ X, X = w.alloc (.cells (stCells s).toArray 33) := ⟨_, rfl⟩
  have hb0 : Below w.heap.size w W0 := by rw [eW]; exact (Below.refl _ _).alloc (Nat.le_refl _) _
  have HB : Hid (Below w.heap.size w W0) := hb0
  have HX : Hid (BxC w.heap.size (stCells s) 33 W0) := by rw [eW]; exact BxC.new w _ _
  have HO : Hid (OwnSt 0 W0 (.slice a0 l.length c0) l) := h.below hb0
  have HS : Hid (SrtS l) := hs
  clear h hs hb0
  have x0 := HX.out.cell 0 _ rfl
  have x1 := HX.out.cell 1 _ rfl
  rw [eW] at x0 x1
  go_enter Try.func26, Try.ntmps26
  go_wp2_with fail
  have eW2 := eW
  simp only [stCells] at eW2
  rw [← eW2]
  clear eW2 eW x0 x1
  refine (search_any _ l s.1 s.2 _ HO.out hl HS.out).mono ?_
  rintro e w1 ⟨i, b, rfl, hpl, hbb, hb⟩
  have HB1 : Hid (Below w.heap.size w w1) := HB.out.trans (hb.mono HB.out.size)
  have HO1 : Hid (OwnSt 0 w1 (.slice a0 l.length c0) l) := HO.out.below hb
  have HP : Hid (PlcS l s i) := hpl
  have HH : Hid (b = hasS l s) := hbb
  clear hb hpl hbb HB HO HX
  cases b with
  | false =>
    have HD : Hid (delS l s = l) := by
      refine List.filter_eq_self.2 fun x hx => ?_
      have := hasS_no.1 HH.out.symm x hx
      simpa using this
    go_wp2
    go_ret
    exact ⟨_, rfl, by rw [HD.out]; exact HO1.out, grownBy.ofBelow HB1.out _, rfl⟩
  | true =>
    have hx : ∃ h : i < l.length, l[i] = s := by (have := HP.out.has HS.out; rw [← HH.out] at this; simpa using this.symm)
    obtain ⟨hi, hx⟩ := hx
    have HD : Hid (delS l s = l.take i ++ l.drop (i + 1)) := HP.out.del HS.out hi hx
    obtain ⟨m, hm⟩ : ∃ m, l.length = i + m + 1 := ⟨l.length - i - 1, by omega⟩
    have HM : Hid (l.length = i + m + 1) := hm
    have hii : (i : Int) + 1 = ((i + 1 : Nat) : Int) := by omega
    have HII : Hid ((i : Int) + 1 = ((i + 1 : Nat) : Int)) := hii
    have hin : (i : Int) < 4096 := by omega
    clear hm hx hii
    go_wp2_with fail
    rw [HII.out]
    refine (delete_any _ l i m _ HO1.out hl HM.out).mono ?_
    rintro e w3 ⟨v', rfl, ho, hg, hv⟩
    obtain ⟨a1, n1, c1, e1⟩ : ∃ a1 n1 c1, v' = .slice a1 n1 c1 := by (obtain ⟨a1, c1, e1⟩ := ho.form; exact ⟨a1, _, c1, e1⟩)
    subst e1
    have HF : Hid (OwnSt 0 w3 (.slice a1 n1 c1) (delS l s) ∧ w.grownBy w3 (Value.slice a0 l.length c0).ownBlock ∧ (Value.slice a1 n1 c1).ownBlock = (Value.slice a0 l.length c0).ownBlock) := by
      exact ⟨by rw [HD.out]; exact ho, (grownBy.ofBelow HB1.out _).trans hg, hv⟩
    clear ho hg hv
    go_wp2
    go_ret
    exact ⟨_, rfl, HF.out⟩

set_option maxHeartbeats 1000000 in
theorem has0_any (s : St) (w : World) : Calls Try.prog 23 #[.pointer none, .agg #[.int .i64 s.1, .int .i64 s.2]] w fun e w' => e = .returned (.bool false) ∧ Below w.heap.size w w' := by
  go_enter Try.func23, Try.ntmps23
  go_wp2
  go_ret
  exact ⟨rfl, (Below.refl _ _).alloc (Nat.le_refl _) _⟩

set_option maxHeartbeats 2000000 in
theorem hasIs_any (F : Nat → Prop) (rb : Nat) (A : List Sl) (B : St → List St) (Fr : List St) (ma mb : Nat) (fv : Value) (E : List (St × Value)) (s : St) (w : World) (h : RowIs F w rb A B Fr ma mb fv E) :
    Calls Try.prog 23 #[.pointer (some ⟨rb, 0, none⟩), .agg #[.int .i64 s.1, .int .i64 s.2]] w fun e w' => e = .returned (.bool (hasL A s)) ∧ Below w.heap.size w w' := by
  obtain ⟨W0, eW⟩ : ∃ X, X = w.alloc (.cells (stCells s).toArray 33) := ⟨_, rfl⟩
  have hb0 : Below w.heap.size w W0 := by rw [eW]; exact (Below.refl _ _).alloc (Nat.le_refl _) _
  have HB : Hid (Below w.heap.size w W0) := hb0
  have HX : Hid (BxC w.heap.size (stCells s) 33 W0) := by rw [eW]; exact BxC.new w _ _
  have HR : Hid (RowIs F W0 rb A B Fr ma mb fv E) := h.below hb0
  clear h hb0
  obtain ⟨bx, ebx⟩ : ∃ b, b = w.heap.size := ⟨_, rfl⟩
  have HBx : Hid (w.heap.size ≤ bx) := Nat.le_of_eq ebx.symm
  go_enter Try.func23, Try.ntmps23
  go_wp2
  have eW2 := eW
  simp only [stCells] at eW2
  rw [← eW2]
  rw [← ebx] at HX ⊢
  clear eW2 eW ebx
  refine wp_region_held_drew (S := fun W' => BxC bx (stCells s) 33 W' ∧ RowIs F W' rb A B Fr ma mb fv E) (by kernel_rfl) ⟨HX.out.below (Below.refl _ _).drew, HR.out.below (Below.refl _ _).drew⟩ (fun hHeld => ?_)
  obtain ⟨Uh1u0, eW⟩ : ∃ X, X = W0.drew := ⟨_, rfl⟩
  have hb : Below W0.heap.size W0 Uh1u0 := by rw [eW]; exact (Below.refl _ _).drew
  replace HB : Hid (Below w.heap.size w Uh1u0) := HB.out.trans (hb.mono HB.out.size)
  rw [← eW] at hHeld ⊢
  clear eW hb
  refine tkW 0 (some 10) (v := ?_) ?_ hHeld ?_
  rotate_left
  · (intro ww _; go_simp; try with_reducible rfl)
  refine tkW 1 (some 11) (v := ?_) ?_ hHeld ?_
  rotate_left
  · (intro ww hSw; (try dsimp only at hSw); go_simp; try with_reducible rfl)
  refine tkW 2 (some 12) (v := ?_) ?_ hHeld ?_
  rotate_left
  · (intro ww _; go_simp; try with_reducible rfl)
  refine tkW 3 (some 13) (v := ?_) ?_ hHeld ?_
  rotate_left
  · (intro ww hSw; (try dsimp only at hSw); have c0 := hSw.2.c0; have hlk : (Instr.lookup 53 (.map (some ma)) (.agg #[.int .i64 s.1, .int .i64 s.2]) true).run Try.prog ww = .ok (.tuple #[stV (afO A s), .bool (hasL A s)]) ww := hSw.2.am.look hSw.2.good s; have x0 := hSw.1.cell 0 _ rfl; have x1 := hSw.1.cell 1 _ rfl; go_simp; try with_reducible rfl)
  refine tkW 4 (some 14) (v := ?_) ?_ hHeld ?_
  rotate_left
  · (intro ww hSw; (try dsimp only at hSw); have c0 := hSw.2.c0; have hlk : (Instr.lookup 53 (.map (some ma)) (.agg #[.int .i64 s.1, .int .i64 s.2]) true).run Try.prog ww = .ok (.tuple #[stV (afO A s), .bool (hasL A s)]) ww := hSw.2.am.look hSw.2.good s; have x0 := hSw.1.cell 0 _ rfl; have x1 := hSw.1.cell 1 _ rfl; go_simp; try with_reducible rfl)
  refine tkW 5 (some 15) (v := ?_) ?_ hHeld ?_
  rotate_left
  · (intro ww hSw; (try dsimp only at hSw); have c0 := hSw.2.c0; have hlk : (Instr.lookup 53 (.map (some ma)) (.agg #[.int .i64 s.1, .int .i64 s.2]) true).run Try.prog ww = .ok (.tuple #[stV (afO A s), .bool (hasL A s)]) ww := hSw.2.am.look hSw.2.good s; have x0 := hSw.1.cell 0 _ rfl; have x1 := hSw.1.cell 1 _ rfl; go_simp; try with_reducible rfl)
  refine tkW 6 (some 9) (v := ?_) ?_ hHeld ?_
  rotate_left
  · (intro ww _; go_simp; try with_reducible rfl)
  refine tkW 7 (some 16) (v := ?_) ?_ hHeld ?_
  rotate_left
  · (intro ww _; go_simp; try with_reducible rfl)
  refine tkW 8 (some 17) (v := ?_) ?_ hHeld ?_
  rotate_left
  · (intro ww _; go_simp; try with_reducible rfl)
  refine wpAnyH_ready (rs := [9]) (by kernel_rfl) (by simp) ?_
  refine AllReadyH.cons (o := ⟨some 5, _, _, _, _, _⟩) rfl (fun K hK => ?_) AllReadyH.nil
  have HNb0 : Hid (bx < Uh1u0.heap.size ∧ ∀ j, F j → j ≠ Uh1u0.heap.size) := ⟨hHeld.1.lt, fun j hj e => by have := hHeld.2.lt j hj; omega⟩
  have hbx : Below Uh1u0.heap.size Uh1u0 (Uh1u0.alloc (.cells #[.int .i64 0, .int .i64 0] 33)) := (Below.refl _ _).alloc (Nat.le_refl _) _
  go_simp
  refine hK.out _ _ (⟨hHeld.1.below hbx, hHeld.2.below hbx⟩) (fun hHeld2 => ?_)
  clear hK K hHeld
  have hHeld := hHeld2
  clear hHeld2
  (try simp only [Act.put, List.setIfInBounds_toArray, List.set_cons_zero, List.set_cons_succ])
  obtain ⟨Uh1u1, eW⟩ : ∃ X, X = Uh1u0.alloc (.cells #[.int .i64 0, .int .i64 0] 33) := ⟨_, rfl⟩
  have hb : Below Uh1u0.heap.size Uh1u0 Uh1u1 := by rw [eW]; exact (Below.refl _ _).alloc (Nat.le_refl _) _
  replace HB : Hid (Below w.heap.size w Uh1u1) := HB.out.trans (hb.mono HB.out.size)
  have HZ : Hid (Uh1u1.heap[Uh1u0.heap.size]? = some (.cells #[.int .i64 0, .int .i64 0] 33)) := by rw [eW]; exact heap_alloc_new _ _
  rw [← eW] at hHeld ⊢
  clear eW
  clear hbx
  obtain ⟨nb, enb⟩ : ∃ b, b = Uh1u0.heap.size := ⟨_, rfl⟩
  have HNb : Hid (bx < nb ∧ ∀ j, F j → j ≠ nb) := by rw [enb]; exact HNb0.out
  rw [← enb] at HZ ⊢
  clear enb
  clear HNb0
  clear hb
  refine wpAnyH_ready (rs := [10]) (by kernel_rfl) (by simp) ?_
  refine AllReadyH.cons (o := ⟨none, _, _, _, _, _⟩) rfl (fun K hK => ?_) AllReadyH.nil
  refine step_store_row rfl 33 (.tmp 5) (.tmp 16) rfl nb 33 #[.int .i64 0, .int .i64 0] (stCells (afO A s)).toArray rfl rfl HZ.out sizeStamp rfl (by simp [Value.oneCell', stCells]) ?_
  obtain ⟨Uh1u2, eW⟩ : ∃ Y, Y = Uh1u1.setRow nb (stCells (afO A s)).toArray := ⟨_, rfl⟩
  have ht9 : Touch (fun j => j = nb) Uh1u1 Uh1u2 := by rw [eW]; exact Touch.of_grown (grown_setRow _ _ _) fun j e _ => by cases e; rfl
  rw [← eW]
  have hS2 : BxC bx (stCells s) 33 Uh1u2 ∧ RowIs F Uh1u2 rb A B Fr ma mb fv E := ⟨hHeld.1.touch ht9 (fun e => by have := HNb.out.1; omega), hHeld.2.touch ht9 (fun j hj e => HNb.out.2 j hj e)⟩
  replace HB : Hid (Below w.heap.size w Uh1u2) := HB.out.trans (ht9.below (fun j e => by have := HNb.out.1; have := HBx.out; omega) HB.out.size)
  refine hK.out _ _ (hS2) (fun hHeld2 => ?_)
  clear hK K hHeld
  have hHeld := hHeld2
  clear hHeld2
  (try simp only [Act.put, List.setIfInBounds_toArray, List.set_cons_zero, List.set_cons_succ])
  clear eW hS2 HZ ht9
  refine tkW 11 (some 6) (v := ?_) ?_ hHeld ?_
  rotate_left
  · (intro ww _; go_simp; try with_reducible rfl)
  refine wpAnyH_done (by kernel_rfl) ?_ _
  clear hHeld
  go_wp2
  go_ret
  exact ⟨rfl, HB.out⟩

theorem lenA {w : World} {b : Nat} {A : List Sl} (h : AMap w b A) : (Builtin.len_ #[53] 3 #[.map (some b)]).run Try.prog w = .ok (.int .i64 (A.length : Int)) w := by
  obtain ⟨D, ⟨es, clock, hb, he⟩, hp⟩ := h
  have hz : es.size = A.length := by
    have := congrArg List.length he.ent
    rw [← hp.length_eq]
    simpa using this
  simp [Builtin.len_, run_underlying Try.underlying53, run_underlying Try.underlying3, MapKept.run_getObj_map hb, hz, Result.andThen]
  rfl

set_option maxHeartbeats 1000000 in
theorem lenIs_any (F : Nat → Prop) (rb : Nat) (L : List Sl) (w : World) (h : RowOk F w rb L) :
    Calls Try.prog 28 #[.pointer (some ⟨rb, 0, none⟩)] w fun e w' => e = .returned (.int .i64 (L.length : Int)) ∧ w' = w := by
  obtain ⟨ma, mb, fv, E, h, _⟩ := h
  have c0 := h.c0
  have hl := lenA h.am
  clear h
  go_enter Try.func28, Try.ntmps28
  go_wp2
  go_ret
  exact ⟨rfl, rfl⟩

set_option maxHeartbeats 1000000 in
theorem len0_any (w : World) : Calls Try.prog 28 #[.pointer none] w fun e w' => e = .returned (.int .i64 0) ∧ w' = w := by
  go_enter Try.func28, Try.ntmps28
  go_wp2
  go_ret
  exact ⟨rfl, rfl⟩

theorem makeA (w : World) : (Instr.makeMap 53 none).run Try.prog w = .ok (.map (some w.heap.size)) (w.alloc (.map #[] 0)) := by kernel_rfl
theorem makeB (w : World) : (Instr.makeMap 55 none).run Try.prog w = .ok (.map (some w.heap.size)) (w.alloc (.map #[] 0)) := by kernel_rfl
theorem frL_nil : frL [] = [] := rfl
theorem RowIs.new (w : World) : RowIs (fun j => w.heap.size ≤ j ∧ j < w.heap.size + 3) (((w.alloc (.map #[] 0)).alloc (.map #[] 0)).alloc (.cells #[.map (some w.heap.size), .map (some (w.heap.size + 1)), .slice none 0 0] 57)) (w.heap.size + 2) [] (behZ []) (frL []) w.heap.size (w.heap.size + 1) (.slice none 0 0) [] := by
  have h0 : (((w.alloc (.map #[] 0)).alloc (.map #[] 0)).alloc (.cells #[.map (some w.heap.size), .map (some (w.heap.size + 1)), .slice none 0 0] 57)).heap[w.heap.size]? = some (.map #[] 0) := (Below.heap_alloc _ _ _ (by simp; omega)).trans ((Below.heap_alloc _ _ _ (by simp)).trans (heap_alloc_new w _))
  have h1 : (((w.alloc (.map #[] 0)).alloc (.map #[] 0)).alloc (.cells #[.map (some w.heap.size), .map (some (w.heap.size + 1)), .slice none 0 0] 57)).heap[w.heap.size + 1]? = some (.map #[] 0) := by
    refine (Below.heap_alloc _ _ _ (by simp)).trans ?_
    have := heap_alloc_new (w.alloc (.map #[] 0)) (.map #[] 0)
    simpa using this
  have h2 : (((w.alloc (.map #[] 0)).alloc (.map #[] 0)).alloc (.cells #[.map (some w.heap.size), .map (some (w.heap.size + 1)), .slice none 0 0] 57)).heap[w.heap.size + 2]? = some (.cells #[.map (some w.heap.size), .map (some (w.heap.size + 1)), .slice none 0 0] 57) := by
    have := heap_alloc_new ((w.alloc (.map #[] 0)).alloc (.map #[] 0)) (.cells #[.map (some w.heap.size), .map (some (w.heap.size + 1)), .slice none 0 0] 57)
    simpa using this
  have e : ∀ {α : Type} (ky : α → St) (vl : α → Value), MapE ky vl #[] 0 [] := fun ky vl => ⟨rfl, List.nodup_nil, fun x h => by simp at h⟩
  exact {
    row := h2
    am := ⟨[], ⟨_, _, h0, e _ _⟩, List.Perm.refl _⟩
    good := GoodL.nil
    bm := ⟨_, _, h1, e _ _⟩
    nod := List.nodup_nil
    beh := fun x hx => by cases hx
    no := fun a _ => by unfold behZ; split <;> rfl
    own := OwnE.nil0 _ _
    ne := by omega
    fr := ⟨by omega, by omega⟩
    fa := ⟨by omega, by omega⟩
    fb := ⟨by omega, by omega⟩
    ff := fun g h => by cases h
    fe := fun x hx => by cases hx
    dis := fun x hx => by cases hx
    dif := fun x hx => by cases hx
    lt := fun j h => by simp; omega }

set_option maxHeartbeats 1000000 in
theorem new_any (w : World) : Calls Try.prog 15 #[] w fun e w' => ∃ rb F, e = .returned (.pointer (some ⟨rb, 0, none⟩)) ∧ RowOk F w' rb [] ∧ (∀ k, F k → w.heap.size ≤ k) ∧ Below w.heap.size w w' := by
  have hS := makeA
  have hK := makeB
  have HN : Hid (RowIs (fun j => w.heap.size ≤ j ∧ j < w.heap.size + 3) (((w.alloc (.map #[] 0)).alloc (.map #[] 0)).alloc (.cells #[.map (some w.heap.size), .map (some (w.heap.size + 1)), .slice none 0 0] 57)) (w.heap.size + 2) [] (behZ []) (frL []) w.heap.size (w.heap.size + 1) (.slice none 0 0) []) := RowIs.new w
  go_enter Try.func15, Try.ntmps15
  go_wp2
  go_ret
  exact ⟨_, _, rfl, ⟨_, _, _, _, HN.out, by simp⟩, fun k h => h.1, (((Below.refl _ _).alloc (Nat.le_refl _) _).alloc (by simp) _).alloc (by simp; omega) _⟩

end Go.Proofs.Ytfgkdbidgbpobaa
