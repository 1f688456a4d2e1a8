/- MovesBack: done and undone, undone and done. -/
import Derived.Test.YtljepindfdhbbabRfD
import Derived.Test.YtljepindfdhbbabTrN
import Derived.Test.YtljepindfdhbbabTrO
import Derived.Test.YtljepindfdhbbabTrQ
namespace Go.Proofs.Ytljepindfdhbbab
open Go.RowKit
set_option linter.unusedVariables false
set_option linter.unusedSimpArgs false

theorem cellB {W : World} {b : Nat} {cs : Array Value} {T : TypeId} (h : W.heap[b]? = some (.cells cs T)) (j : Nat) (u : Value) (hj : cs[j]? = some u) : W.cell? ⟨b, j, none⟩ = some u := by
  rw [cell_of_row W b j _ _ _ h]
  exact hj
/-- The state of MovesBack: the tree, the document's moves, what stood at first, and one more row. -/
structure BkS (W0 : World) (tb : Nat) (F : Nat → Prop) (dv : Value) (L1 L : List Mv) (wv : Value) (xb : Nat) (xo : Obj) (W : World) : Prop where
  md : MdS W0 tb F dv L1 L W
  was : LsE plCells 6 (fun j => ¬ F j) W wv (doneT L)
  row : W.heap[xb]? = some xo
  nx : ¬ F xb
section
variable {W0 W W' : World} {tb : Nat} {F F' : Nat → Prop} {dv wv : Value} {L1 L2 L : List Mv} {xb xb2 : Nat} {xo xo2 : Obj}
theorem BkS.below (h : BkS W0 tb F dv L1 L wv xb xo W) (hb : Below W.heap.size W W') : BkS W0 tb F dv L1 L wv xb xo W' := ⟨h.md.below hb, h.was.below hb, (hb.block _ (row_lt h.row)).trans h.row, h.nx⟩
theorem BkS.asked (h : BkS W0 tb F dv L1 L wv xb xo W) (ha : AskP F W (.pointer (some ⟨tb, 0, none⟩)) L1 W') : BkS W0 tb F dv L1 L wv xb xo W' := ⟨h.md.asked ha, h.was.touch ha.2 (fun _ hk => hk), row_touch h.row ha.2 h.nx, h.nx⟩
theorem BkS.swap (h : BkS W0 tb F dv L1 L wv xb xo W) (hr : W.heap[xb2]? = some xo2) (hn : ¬ F xb2) : BkS W0 tb F dv L1 L wv xb2 xo2 W := ⟨h.md, h.was, hr, hn⟩
theorem BkS.moved (h : BkS W0 tb F dv L1 L wv xb xo W) (ht : TreeOk F' W' tb L2) (hnew : ∀ k, F' k → F k ∨ W.heap.size ≤ k) (hto : Touch F W W') : BkS W0 tb F' dv L2 L wv xb xo W' := by
  refine ⟨⟨ht, fun j hj => ?_, h.md.doc.did hnew hto, h.md.bel.trans (hto.below h.md.hi h.md.bel.size)⟩, h.was.did hnew hto, row_touch h.row hto h.nx, fun hk => ?_⟩
  · rcases hnew j hj with h1 | h1
    · exact h.md.hi j h1
    · exact Nat.le_trans h.md.bel.size h1
  · rcases hnew _ hk with h1 | h1
    · exact h.nx h1
    · have := row_lt h.row; omega
end
/-- Rows at their place. -/
structure RwB {α : Type} (enc : α → List Value) (n : Nat) (b o : Nat) (D : List α) (W : World) : Prop where
  row : ∀ i (h : i < D.length) j u, (enc D[i])[j]? = some u → W.cell? ⟨b, o + i * n + j, none⟩ = some u
theorem RwB.at {α : Type} {enc : α → List Value} {n b o : Nat} {D : List α} {W : World} (h : RwB enc n b o D W) {i : Nat} {x : α} (hi : D[i]? = some x) (j : Nat) (u : Value) (hj : (enc x)[j]? = some u) : W.cell? ⟨b, o + i * n + j, none⟩ = some u := by
  obtain ⟨h1, h2⟩ := List.getElem?_eq_some_iff.1 hi
  exact h.row i h1 j u (by rw [h2]; exact hj)
theorem LsE.rwB {α : Type} {enc : α → List Value} {n : Nat} {G : Nat → Prop} {D : List α} {W : World} {v : Value} (h : LsE enc n G W v D) {i : Nat} (hi : i < D.length) : ∃ b o c, v = .slice (some ⟨b, o, none⟩) D.length c ∧ RwB enc n b o D W := by
  obtain ⟨a, cap, e, hc, hl, h9⟩ := h
  rcases h9 with h9 | ⟨b, o, ea, hg, hlt, hr⟩
  · rw [h9] at hi; simp at hi
  · exact ⟨b, o, cap, by rw [e, ea], ⟨hr⟩⟩
theorem fl_at {L : List Mv} {i : Nat} {x : Mv} (h : L[i]? = some x) : (fl L)[i]? = some (x, false) := by unfold fl; rw [List.getElem?_map, h]; rfl
theorem mem_delM {L : List Mv} {t : St} {x : Mv} : x ∈ delM L t ↔ x ∈ L ∧ x.ts ≠ t := by unfold delM; rw [List.mem_filter]; simp
theorem del_has (L : List Mv) (t : St) : hasM (delM L t) t = false := hasM_no.2 fun x hx => (mem_delM.1 hx).2
theorem undo_in {L : List Mv} {x : Mv} (h : x ∈ L) : undoE L x.ts = 0 := by unfold undoE; rw [hasM_iff.2 ⟨x, h, rfl⟩]; rfl
theorem undo_out (L : List Mv) (t : St) : undoE (delM L t) t = 4 := by unfold undoE; rw [del_has]; rfl
theorem do_back {L : List Mv} (hf : ∀ x ∈ L, FmM x) {x : Mv} (h : x ∈ L) : doE (delM L x.ts) x = 0 := by
  obtain ⟨h1, h2, h3⟩ := hf x h
  unfold doE
  rw [h1, h2, h3, del_has]
  rfl
theorem srtM_uniq {L : List Mv} (hs : SrtM L) {x y : Mv} (hx : x ∈ L) (hy : y ∈ L) (e : x.ts = y.ts) : x = y := by
  obtain ⟨i, hi, rfl⟩ := List.mem_iff_getElem.1 hx
  obtain ⟨j, hj, rfl⟩ := List.mem_iff_getElem.1 hy
  rcases Nat.lt_trichotomy i j with h | h | h
  · exact absurd e (ltS_ne (hs.lt hi hj h))
  · subst h; rfl
  · exact absurd e.symm (ltS_ne (hs.lt hj hi h))
theorem doL_back {L : List Mv} (hf : ∀ x ∈ L, FmM x) (hs : SrtM L) {x : Mv} (h : x ∈ L) : doL (delM L x.ts) x = L := by
  rw [doL_ok (do_back hf h)]
  refine SrtM.ext (insM_srt (delM_srt hs _) x) hs fun y => ?_
  rw [mem_insM (del_has L x.ts), mem_delM]
  constructor
  · rintro (rfl | ⟨h1, _⟩)
    · exact h
    · exact h1
  · intro h1
    by_cases e : y.ts = x.ts
    · exact .inl (srtM_uniq hs h1 h e)
    · exact .inr ⟨h1, e⟩
theorem undo_do {L : List Mv} (hs : SrtM L) {m : Mv} (he : doE L m = 0) : undoE (doL L m) m.ts = 0 ∧ delM (doL L m) m.ts = L := by
  have hn := (doE_ok he).2
  rw [doL_ok he]
  refine ⟨undo_in ((mem_insM hn).2 (.inl rfl)), SrtM.ext (delM_srt (insM_srt hs m) _) hs fun y => ?_⟩
  rw [mem_delM, mem_insM hn]
  constructor
  · rintro ⟨rfl | h1, h2⟩
    · exact absurd rfl h2
    · exact h1
  · exact fun h1 => ⟨.inr h1, hasM_no.1 hn y h1⟩

set_option maxRecDepth 100000 in
set_option maxHeartbeats 8000000 in
theorem movesBack_walk (v : Value) (l : List Ma) (a : Ma) (w : World) (h : IsMa w v l) :
    Calls Try.prog 3 #[v, .agg (maCells a).toArray] w fun e w' => e = .returned (.bool true) ∧ Below w.heap.size w w' := by
  obtain ⟨a0, c0, e0⟩ := h.form
  subst e0
  obtain ⟨W0, eW⟩ : ∃ X, X = w.alloc (.cells (maCells a).toArray 26) := ⟨_, rfl⟩
  have hb0 : Below w.heap.size w W0 := by rw [eW]; exact (Below.refl _ _).alloc (Nat.le_refl _) _
  have HBe : Hid (Below w.heap.size w W0) := hb0
  have HLs : Hid (IsMa W0 (.slice a0 l.length c0) l) := h.below hb0
  have HAr : Hid (W0.heap[w.heap.size]? = some (.cells (maCells a).toArray 26)) := by rw [eW]; exact heap_alloc_new _ _
  have HeW : Hid (W0 = w.alloc (.cells #[.int .i64 a.1, .int .i64 a.2.ts.1, .int .i64 a.2.ts.2, .int .i64 a.2.nd.1, .int .i64 a.2.nd.2, .int .i64 a.2.pr.1, .int .i64 a.2.pr.2] 26)) := eW
  clear h hb0 eW
  go_enter Try.func3, Try.ntmps3
  go_wp2_with fail
  rw [show w.alloc (.cells (maCells a).toArray 26) = W0 from HeW.out.symm]
  clear HeW
  refine (made_any (.slice a0 l.length c0) l _ HLs.out).mono ?_
  rintro e w1 ⟨tb, F, a1, c1, rfl, hM⟩
  obtain ⟨L, eL⟩ : ∃ X, X = madeL l := ⟨_, rfl⟩
  have hLl : L.length ≤ 200 := by rw [eL]; exact madeL_len l
  have HFm : Hid (∀ x ∈ L, FmM x) := by rw [eL]; exact madeL_fm l
  have HTl : Hid ((doneT L).length ≤ 200) := Nat.le_trans (doneT_length _) hLl
  have HLd : Hid (L.length ≤ 200) := hLl
  rw [← eL] at hM ⊢
  have HM1 : Hid (MdS W0 tb F (.slice a1 L.length c1) L L w1) := hM
  have HSr : Hid (SrtM L) := hM.tr.srt
  clear hM eL HLs
  go_wp2_with fail
  refine (all_any F (.pointer (some ⟨tb, 0, none⟩)) L _ HM1.out.tv HM1.out.tr.lt).mono ?_
  rintro e w2 ⟨wv, rfl, ho, ha⟩
  obtain ⟨aw, cw, ew⟩ := ho.form
  subst ew
  have HN : Hid (BkS W0 tb F (.slice a1 L.length c1) L L (.slice aw (doneT L).length cw) w.heap.size (.cells (maCells a).toArray 26) w2) := ⟨HM1.out.asked ha, ho.lsE plCells_len (by have := HTl.out; omega) (fun k e hk => by have h1 := (ho.lt k e).1; have h2 := HM1.out.tr.lt k hk; omega), ((HM1.out.asked ha).bel.block _ (row_lt HAr.out)).trans HAr.out, fun hk => by have h1 := HM1.out.hi _ hk; have h2 := row_lt HAr.out; omega⟩
  clear ho ha HM1 HAr
  have f1 : w2.cell? ⟨w.heap.size, 1, none⟩ = some (.int .i64 a.2.ts.1) := cellB HN.out.row 1 _ rfl
  have f2 : w2.cell? ⟨w.heap.size, 2, none⟩ = some (.int .i64 a.2.ts.2) := cellB HN.out.row 2 _ rfl
  have f3 : w2.cell? ⟨w.heap.size, 3, none⟩ = some (.int .i64 a.2.nd.1) := cellB HN.out.row 3 _ rfl
  have f4 : w2.cell? ⟨w.heap.size, 4, none⟩ = some (.int .i64 a.2.nd.2) := cellB HN.out.row 4 _ rfl
  have f5 : w2.cell? ⟨w.heap.size, 5, none⟩ = some (.int .i64 a.2.pr.1) := cellB HN.out.row 5 _ rfl
  have f6 : w2.cell? ⟨w.heap.size, 6, none⟩ = some (.int .i64 a.2.pr.2) := cellB HN.out.row 6 _ rfl
  go_wp2_with fail
  clear f1 f2 f3 f4 f5 f6
  rcases doE_ran L a.2 with hE | hE | hE
  · have HE0 : Hid (doL L a.2 = L) := doL_err (by rw [hE]; decide)
    have HEc : Hid (doE L a.2 = 2) := hE
    clear hE
    refine (do_any F tb L a.2.ts a.2.nd a.2.pr _ HN.out.md.tr (by have := HLd.out; omega)).mono ?_
    rintro e w4 ⟨he, F2, ht, hsub, hnew, hto⟩
    have hN9 := HN.out.moved ht hnew hto
    replace HN : Hid (BkS W0 tb F2 (.slice a1 L.length c1) L L (.slice aw (doneT L).length cw) w.heap.size (.cells (maCells a).toArray 26) w4) := by (have h9 := hN9; rw [show doL L ⟨a.2.ts, a.2.nd, a.2.pr⟩ = L from HE0.out] at h9; exact h9)
    clear ht hsub hnew hto hN9
    rw [show doE L ⟨a.2.ts, a.2.nd, a.2.pr⟩ = 2 from HEc.out] at he
    subst he
    go_wp2
    go_loopw [8] (fun iv wr => ∃ (i : Nat) (F : Nat → Prop) (xb : Nat) (xo : Obj), iv = .int .i64 (i : Int) ∧ i ≤ L.length ∧ i ≤ 20 ∧ Hid (BkS W0 tb F (.slice a1 L.length c1) L L (.slice aw (doneT L).length cw) xb xo wr)) (fun iv _ => L.length - (intOf iv).toNat)
    case atStart => exact ⟨0, F2, _, _, rfl, Nat.zero_le _, Nat.zero_le _, HN⟩
    case round =>
      clear HN
      obtain ⟨i, F, xb, xo, rfl, hi, hi2, HN⟩ := hrel
      by_cases hil : i < L.length
      · by_cases hi3 : i < 20
        · obtain ⟨x, hx⟩ : ∃ x, L[i]? = some x := ⟨_, List.getElem?_eq_getElem hil⟩
          have hxm := List.mem_of_getElem? hx
          have HXi : Hid ((fl L)[i]? = some (x, false)) := fl_at hx
          obtain ⟨b, o, c2, ev, hR⟩ := HN.out.md.doc.rwB (i := i) (by rw [fl_length]; exact hil)
          injection ev with ev1 ev2 ev3
          subst ev1
          subst ev3
          clear ev2
          have HU1 : Hid (undoE L x.ts = 0) := undo_in hxm
          have HU2 : Hid (undoE (delM L x.ts) x.ts = 4) := undo_out L x.ts
          have HD2 : Hid (delM (delM L x.ts) x.ts = delM L x.ts) := delM_no (del_has L x.ts)
          have HD3 : Hid (doE (delM L x.ts) x = 0) := do_back HFm.out hxm
          have HD4 : Hid (doL (delM L x.ts) x = L) := doL_back HFm.out HSr.out hxm
          have HLd : Hid ((delM L x.ts).length ≤ 200) := Nat.le_trans (List.length_filter_le _ _) hLl
          have x0 : wr.cell? ⟨b, o + i * 7, none⟩ = some (.int .i64 x.ts.1) := hR.at HXi.out 0 _ rfl
          have x1 : wr.cell? ⟨b, o + i * 7 + 1, none⟩ = some (.int .i64 x.ts.2) := hR.at HXi.out 1 _ rfl
          have x2 : wr.cell? ⟨b, o + i * 7 + 2, none⟩ = some (.int .i64 x.nd.1) := hR.at HXi.out 2 _ rfl
          have x3 : wr.cell? ⟨b, o + i * 7 + 3, none⟩ = some (.int .i64 x.nd.2) := hR.at HXi.out 3 _ rfl
          have x4 : wr.cell? ⟨b, o + i * 7 + 4, none⟩ = some (.int .i64 x.pr.1) := hR.at HXi.out 4 _ rfl
          have x5 : wr.cell? ⟨b, o + i * 7 + 5, none⟩ = some (.int .i64 x.pr.2) := hR.at HXi.out 5 _ rfl
          have x6 : wr.cell? ⟨b, o + i * 7 + 6, none⟩ = some (.bool false) := hR.at HXi.out 6 _ rfl
          obtain ⟨wm, ewm⟩ : ∃ X, X = wr.alloc (.cells (mcCells (x, false)).toArray 39) := ⟨_, rfl⟩
          obtain ⟨mb, emb⟩ : ∃ b, b = wr.heap.size := ⟨_, rfl⟩
          have hbm : Below wr.heap.size wr wm := by rw [ewm]; exact (Below.refl _ _).alloc (Nat.le_refl _) _
          have hNm := (HN.out.below hbm).swap (xb2 := mb) (xo2 := .cells (mcCells (x, false)).toArray 39) (by (rw [emb, ewm]; exact heap_alloc_new _ _)) (fun hk => by have h1 := HN.out.md.tr.lt _ hk; omega)
          have HeW : Hid (wm = wr.alloc (.cells #[.int .i64 x.ts.1, .int .i64 x.ts.2, .int .i64 x.nd.1, .int .i64 x.nd.2, .int .i64 x.pr.1, .int .i64 x.pr.2, .bool false] 39)) := ewm
          have HeB : Hid (mb = wr.heap.size) := emb
          replace HN : Hid (BkS W0 tb F (.slice (some ⟨b, o, none⟩) L.length c1) L L (.slice aw (doneT L).length cw) mb (.cells (mcCells (x, false)).toArray 39) wm) := hNm
          have g0 : wm.cell? ⟨mb, 0, none⟩ = some (.int .i64 x.ts.1) := cellB HN.out.row 0 _ rfl
          have g1 : wm.cell? ⟨mb, 1, none⟩ = some (.int .i64 x.ts.2) := cellB HN.out.row 1 _ rfl
          have g2 : wm.cell? ⟨mb, 2, none⟩ = some (.int .i64 x.nd.1) := cellB HN.out.row 2 _ rfl
          have g3 : wm.cell? ⟨mb, 3, none⟩ = some (.int .i64 x.nd.2) := cellB HN.out.row 3 _ rfl
          have g4 : wm.cell? ⟨mb, 4, none⟩ = some (.int .i64 x.pr.1) := cellB HN.out.row 4 _ rfl
          have g5 : wm.cell? ⟨mb, 5, none⟩ = some (.int .i64 x.pr.2) := cellB HN.out.row 5 _ rfl
          rw [ewm, emb] at g0 g1 g2 g3 g4 g5
          have i1 : (i : Int) < (L.length : Int) := by omega
          have i0 : (0 : Int) ≤ (i : Int) := by omega
          have i2 : (i : Int) < 20 := by omega
          clear hNm ewm emb hbm hR hx hxm
          go_wp2_with fail
          rw [← HeW.out, ← HeB.out]
          clear g0 g1 g2 g3 g4 g5
          clear HeW HeB x0 x1 x2 x3 x4 x5 x6
          refine (undo_any F tb L x.ts _ HN.out.md.tr).mono ?_
          rintro e w5 ⟨he, Fa, ht, hsub, hnew, hto⟩
          have hN9 := HN.out.moved ht hnew hto
          replace HN : Hid (BkS W0 tb Fa (.slice (some ⟨b, o, none⟩) L.length c1) (delM L x.ts) L (.slice aw (doneT L).length cw) mb (.cells (mcCells (x, false)).toArray 39) w5) := hN9
          clear ht hsub hnew hto hN9
          rw [HU1.out] at he
          subst he
          have g0 : w5.cell? ⟨mb, 0, none⟩ = some (.int .i64 x.ts.1) := cellB HN.out.row 0 _ rfl
          have g1 : w5.cell? ⟨mb, 1, none⟩ = some (.int .i64 x.ts.2) := cellB HN.out.row 1 _ rfl
          have g2 : w5.cell? ⟨mb, 2, none⟩ = some (.int .i64 x.nd.1) := cellB HN.out.row 2 _ rfl
          have g3 : w5.cell? ⟨mb, 3, none⟩ = some (.int .i64 x.nd.2) := cellB HN.out.row 3 _ rfl
          have g4 : w5.cell? ⟨mb, 4, none⟩ = some (.int .i64 x.pr.1) := cellB HN.out.row 4 _ rfl
          have g5 : w5.cell? ⟨mb, 5, none⟩ = some (.int .i64 x.pr.2) := cellB HN.out.row 5 _ rfl
          go_wp2_with fail
          clear g0 g1 g2 g3 g4 g5
          refine (undo_any Fa tb (delM L x.ts) x.ts _ HN.out.md.tr).mono ?_
          rintro e w6 ⟨he, Fb, ht, hsub, hnew, hto⟩
          have hN9 := HN.out.moved ht hnew hto
          replace HN : Hid (BkS W0 tb Fb (.slice (some ⟨b, o, none⟩) L.length c1) (delM L x.ts) L (.slice aw (doneT L).length cw) mb (.cells (mcCells (x, false)).toArray 39) w6) := by (have h9 := hN9; rw [HD2.out] at h9; exact h9)
          clear ht hsub hnew hto hN9
          rw [HU2.out] at he
          subst he
          have g0 : w6.cell? ⟨mb, 0, none⟩ = some (.int .i64 x.ts.1) := cellB HN.out.row 0 _ rfl
          have g1 : w6.cell? ⟨mb, 1, none⟩ = some (.int .i64 x.ts.2) := cellB HN.out.row 1 _ rfl
          have g2 : w6.cell? ⟨mb, 2, none⟩ = some (.int .i64 x.nd.1) := cellB HN.out.row 2 _ rfl
          have g3 : w6.cell? ⟨mb, 3, none⟩ = some (.int .i64 x.nd.2) := cellB HN.out.row 3 _ rfl
          have g4 : w6.cell? ⟨mb, 4, none⟩ = some (.int .i64 x.pr.1) := cellB HN.out.row 4 _ rfl
          have g5 : w6.cell? ⟨mb, 5, none⟩ = some (.int .i64 x.pr.2) := cellB HN.out.row 5 _ rfl
          go_wp2_with fail
          clear g0 g1 g2 g3 g4 g5
          refine (do_any Fb tb (delM L x.ts) x.ts x.nd x.pr _ HN.out.md.tr (by have := HLd.out; omega)).mono ?_
          rintro e w7 ⟨he, Fc, ht, hsub, hnew, hto⟩
          have hN9 := HN.out.moved ht hnew hto
          replace HN : Hid (BkS W0 tb Fc (.slice (some ⟨b, o, none⟩) L.length c1) L L (.slice aw (doneT L).length cw) mb (.cells (mcCells (x, false)).toArray 39) w7) := by (have h9 := hN9; rw [show doL (delM L x.ts) ⟨x.ts, x.nd, x.pr⟩ = L from HD4.out] at h9; exact h9)
          clear ht hsub hnew hto hN9
          rw [show doE (delM L x.ts) ⟨x.ts, x.nd, x.pr⟩ = 0 from HD3.out] at he
          subst he
          have g0 : w7.cell? ⟨mb, 0, none⟩ = some (.int .i64 x.ts.1) := cellB HN.out.row 0 _ rfl
          have g1 : w7.cell? ⟨mb, 1, none⟩ = some (.int .i64 x.ts.2) := cellB HN.out.row 1 _ rfl
          have g2 : w7.cell? ⟨mb, 2, none⟩ = some (.int .i64 x.nd.1) := cellB HN.out.row 2 _ rfl
          have g3 : w7.cell? ⟨mb, 3, none⟩ = some (.int .i64 x.nd.2) := cellB HN.out.row 3 _ rfl
          have g4 : w7.cell? ⟨mb, 4, none⟩ = some (.int .i64 x.pr.1) := cellB HN.out.row 4 _ rfl
          have g5 : w7.cell? ⟨mb, 5, none⟩ = some (.int .i64 x.pr.2) := cellB HN.out.row 5 _ rfl
          go_wp2_with fail
          clear g0 g1 g2 g3 g4 g5
          refine (all_any Fc (.pointer (some ⟨tb, 0, none⟩)) L _ HN.out.md.tv HN.out.md.tr.lt).mono ?_
          rintro e w8a ⟨v7, rfl, ho, ha⟩
          replace HN : Hid (BkS W0 tb Fc (.slice (some ⟨b, o, none⟩) L.length c1) L L (.slice aw (doneT L).length cw) mb (.cells (mcCells (x, false)).toArray 39) w8a) := HN.out.asked ha
          have HV7 : Hid (LsE plCells 6 (fun _ => True) w8a v7 (doneT L)) := ho.lsE plCells_len (by have := HTl.out; omega) (fun _ _ => trivial)
          obtain ⟨a7, c7, e7⟩ := ho.form
          subst e7
          clear ho ha
          have g0 : w8a.cell? ⟨mb, 0, none⟩ = some (.int .i64 x.ts.1) := cellB HN.out.row 0 _ rfl
          have g1 : w8a.cell? ⟨mb, 1, none⟩ = some (.int .i64 x.ts.2) := cellB HN.out.row 1 _ rfl
          have g2 : w8a.cell? ⟨mb, 2, none⟩ = some (.int .i64 x.nd.1) := cellB HN.out.row 2 _ rfl
          have g3 : w8a.cell? ⟨mb, 3, none⟩ = some (.int .i64 x.nd.2) := cellB HN.out.row 3 _ rfl
          have g4 : w8a.cell? ⟨mb, 4, none⟩ = some (.int .i64 x.pr.1) := cellB HN.out.row 4 _ rfl
          have g5 : w8a.cell? ⟨mb, 5, none⟩ = some (.int .i64 x.pr.2) := cellB HN.out.row 5 _ rfl
          go_wp2_with fail
          clear g0 g1 g2 g3 g4 g5
          refine (same_eq (fun _ => True) (fun j => ¬ Fc j) _ _ (doneT L) _ HV7.out HN.out.was).mono ?_
          rintro e w8b ⟨rfl, hb⟩
          replace HN : Hid (BkS W0 tb Fc (.slice (some ⟨b, o, none⟩) L.length c1) L L (.slice aw (doneT L).length cw) mb (.cells (mcCells (x, false)).toArray 39) w8b) := HN.out.below hb
          clear hb HV7
          have g0 : w8b.cell? ⟨mb, 0, none⟩ = some (.int .i64 x.ts.1) := cellB HN.out.row 0 _ rfl
          have g1 : w8b.cell? ⟨mb, 1, none⟩ = some (.int .i64 x.ts.2) := cellB HN.out.row 1 _ rfl
          have g2 : w8b.cell? ⟨mb, 2, none⟩ = some (.int .i64 x.nd.1) := cellB HN.out.row 2 _ rfl
          have g3 : w8b.cell? ⟨mb, 3, none⟩ = some (.int .i64 x.nd.2) := cellB HN.out.row 3 _ rfl
          have g4 : w8b.cell? ⟨mb, 4, none⟩ = some (.int .i64 x.pr.1) := cellB HN.out.row 4 _ rfl
          have g5 : w8b.cell? ⟨mb, 5, none⟩ = some (.int .i64 x.pr.2) := cellB HN.out.row 5 _ rfl
          clear g0 g1 g2 g3 g4 g5
          go_wp2
          go_roundw
          case rel => exact ⟨i + 1, Fc, _, _, by go_num, by omega, by omega, HN⟩
          case measure => simp [intOf]; omega
        · obtain rfl : i = 20 := by omega
          have i1 : (20 : Int) < (L.length : Int) := by omega
          go_wp2_with fail
          refine (awake_any _).mono ?_
          rintro e w9 ⟨rfl, hb⟩
          have HB : Hid (Below w.heap.size w w9) := HBe.out.trans ((HN.out.md.bel.trans (hb.mono HN.out.md.bel.size)).mono HBe.out.size)
          clear hb HN
          go_wp2
          go_ret
          exact ⟨rfl, HB.out⟩
      · obtain rfl : i = L.length := by omega
        go_wp2_with fail
        refine (awake_any _).mono ?_
        rintro e w9 ⟨rfl, hb⟩
        have HB : Hid (Below w.heap.size w w9) := HBe.out.trans ((HN.out.md.bel.trans (hb.mono HN.out.md.bel.size)).mono HBe.out.size)
        clear hb HN
        go_wp2
        go_ret
        exact ⟨rfl, HB.out⟩
  · have HE0 : Hid (doL L a.2 = L) := doL_err (by rw [hE]; decide)
    have HEc : Hid (doE L a.2 = 5) := hE
    clear hE
    refine (do_any F tb L a.2.ts a.2.nd a.2.pr _ HN.out.md.tr (by have := HLd.out; omega)).mono ?_
    rintro e w4 ⟨he, F2, ht, hsub, hnew, hto⟩
    have hN9 := HN.out.moved ht hnew hto
    replace HN : Hid (BkS W0 tb F2 (.slice a1 L.length c1) L L (.slice aw (doneT L).length cw) w.heap.size (.cells (maCells a).toArray 26) w4) := by (have h9 := hN9; rw [show doL L ⟨a.2.ts, a.2.nd, a.2.pr⟩ = L from HE0.out] at h9; exact h9)
    clear ht hsub hnew hto hN9
    rw [show doE L ⟨a.2.ts, a.2.nd, a.2.pr⟩ = 5 from HEc.out] at he
    subst he
    go_wp2
    go_loopw [8] (fun iv wr => ∃ (i : Nat) (F : Nat → Prop) (xb : Nat) (xo : Obj), iv = .int .i64 (i : Int) ∧ i ≤ L.length ∧ i ≤ 20 ∧ Hid (BkS W0 tb F (.slice a1 L.length c1) L L (.slice aw (doneT L).length cw) xb xo wr)) (fun iv _ => L.length - (intOf iv).toNat)
    case atStart => exact ⟨0, F2, _, _, rfl, Nat.zero_le _, Nat.zero_le _, HN⟩
    case round =>
      clear HN
      obtain ⟨i, F, xb, xo, rfl, hi, hi2, HN⟩ := hrel
      by_cases hil : i < L.length
      · by_cases hi3 : i < 20
        · obtain ⟨x, hx⟩ : ∃ x, L[i]? = some x := ⟨_, List.getElem?_eq_getElem hil⟩
          have hxm := List.mem_of_getElem? hx
          have HXi : Hid ((fl L)[i]? = some (x, false)) := fl_at hx
          obtain ⟨b, o, c2, ev, hR⟩ := HN.out.md.doc.rwB (i := i) (by rw [fl_length]; exact hil)
          injection ev with ev1 ev2 ev3
          subst ev1
          subst ev3
          clear ev2
          have HU1 : Hid (undoE L x.ts = 0) := undo_in hxm
          have HU2 : Hid (undoE (delM L x.ts) x.ts = 4) := undo_out L x.ts
          have HD2 : Hid (delM (delM L x.ts) x.ts = delM L x.ts) := delM_no (del_has L x.ts)
          have HD3 : Hid (doE (delM L x.ts) x = 0) := do_back HFm.out hxm
          have HD4 : Hid (doL (delM L x.ts) x = L) := doL_back HFm.out HSr.out hxm
          have HLd : Hid ((delM L x.ts).length ≤ 200) := Nat.le_trans (List.length_filter_le _ _) hLl
          have x0 : wr.cell? ⟨b, o + i * 7, none⟩ = some (.int .i64 x.ts.1) := hR.at HXi.out 0 _ rfl
          have x1 : wr.cell? ⟨b, o + i * 7 + 1, none⟩ = some (.int .i64 x.ts.2) := hR.at HXi.out 1 _ rfl
          have x2 : wr.cell? ⟨b, o + i * 7 + 2, none⟩ = some (.int .i64 x.nd.1) := hR.at HXi.out 2 _ rfl
          have x3 : wr.cell? ⟨b, o + i * 7 + 3, none⟩ = some (.int .i64 x.nd.2) := hR.at HXi.out 3 _ rfl
          have x4 : wr.cell? ⟨b, o + i * 7 + 4, none⟩ = some (.int .i64 x.pr.1) := hR.at HXi.out 4 _ rfl
          have x5 : wr.cell? ⟨b, o + i * 7 + 5, none⟩ = some (.int .i64 x.pr.2) := hR.at HXi.out 5 _ rfl
          have x6 : wr.cell? ⟨b, o + i * 7 + 6, none⟩ = some (.bool false) := hR.at HXi.out 6 _ rfl
          obtain ⟨wm, ewm⟩ : ∃ X, X = wr.alloc (.cells (mcCells (x, false)).toArray 39) := ⟨_, rfl⟩
          obtain ⟨mb, emb⟩ : ∃ b, b = wr.heap.size := ⟨_, rfl⟩
          have hbm : Below wr.heap.size wr wm := by rw [ewm]; exact (Below.refl _ _).alloc (Nat.le_refl _) _
          have hNm := (HN.out.below hbm).swap (xb2 := mb) (xo2 := .cells (mcCells (x, false)).toArray 39) (by (rw [emb, ewm]; exact heap_alloc_new _ _)) (fun hk => by have h1 := HN.out.md.tr.lt _ hk; omega)
          have HeW : Hid (wm = wr.alloc (.cells #[.int .i64 x.ts.1, .int .i64 x.ts.2, .int .i64 x.nd.1, .int .i64 x.nd.2, .int .i64 x.pr.1, .int .i64 x.pr.2, .bool false] 39)) := ewm
          have HeB : Hid (mb = wr.heap.size) := emb
          replace HN : Hid (BkS W0 tb F (.slice (some ⟨b, o, none⟩) L.length c1) L L (.slice aw (doneT L).length cw) mb (.cells (mcCells (x, false)).toArray 39) wm) := hNm
          have g0 : wm.cell? ⟨mb, 0, none⟩ = some (.int .i64 x.ts.1) := cellB HN.out.row 0 _ rfl
          have g1 : wm.cell? ⟨mb, 1, none⟩ = some (.int .i64 x.ts.2) := cellB HN.out.row 1 _ rfl
          have g2 : wm.cell? ⟨mb, 2, none⟩ = some (.int .i64 x.nd.1) := cellB HN.out.row 2 _ rfl
          have g3 : wm.cell? ⟨mb, 3, none⟩ = some (.int .i64 x.nd.2) := cellB HN.out.row 3 _ rfl
          have g4 : wm.cell? ⟨mb, 4, none⟩ = some (.int .i64 x.pr.1) := cellB HN.out.row 4 _ rfl
          have g5 : wm.cell? ⟨mb, 5, none⟩ = some (.int .i64 x.pr.2) := cellB HN.out.row 5 _ rfl
          rw [ewm, emb] at g0 g1 g2 g3 g4 g5
          have i1 : (i : Int) < (L.length : Int) := by omega
          have i0 : (0 : Int) ≤ (i : Int) := by omega
          have i2 : (i : Int) < 20 := by omega
          clear hNm ewm emb hbm hR hx hxm
          go_wp2_with fail
          rw [← HeW.out, ← HeB.out]
          clear g0 g1 g2 g3 g4 g5
          clear HeW HeB x0 x1 x2 x3 x4 x5 x6
          refine (undo_any F tb L x.ts _ HN.out.md.tr).mono ?_
          rintro e w5 ⟨he, Fa, ht, hsub, hnew, hto⟩
          have hN9 := HN.out.moved ht hnew hto
          replace HN : Hid (BkS W0 tb Fa (.slice (some ⟨b, o, none⟩) L.length c1) (delM L x.ts) L (.slice aw (doneT L).length cw) mb (.cells (mcCells (x, false)).toArray 39) w5) := hN9
          clear ht hsub hnew hto hN9
          rw [HU1.out] at he
          subst he
          have g0 : w5.cell? ⟨mb, 0, none⟩ = some (.int .i64 x.ts.1) := cellB HN.out.row 0 _ rfl
          have g1 : w5.cell? ⟨mb, 1, none⟩ = some (.int .i64 x.ts.2) := cellB HN.out.row 1 _ rfl
          have g2 : w5.cell? ⟨mb, 2, none⟩ = some (.int .i64 x.nd.1) := cellB HN.out.row 2 _ rfl
          have g3 : w5.cell? ⟨mb, 3, none⟩ = some (.int .i64 x.nd.2) := cellB HN.out.row 3 _ rfl
          have g4 : w5.cell? ⟨mb, 4, none⟩ = some (.int .i64 x.pr.1) := cellB HN.out.row 4 _ rfl
          have g5 : w5.cell? ⟨mb, 5, none⟩ = some (.int .i64 x.pr.2) := cellB HN.out.row 5 _ rfl
          go_wp2_with fail
          clear g0 g1 g2 g3 g4 g5
          refine (undo_any Fa tb (delM L x.ts) x.ts _ HN.out.md.tr).mono ?_
          rintro e w6 ⟨he, Fb, ht, hsub, hnew, hto⟩
          have hN9 := HN.out.moved ht hnew hto
          replace HN : Hid (BkS W0 tb Fb (.slice (some ⟨b, o, none⟩) L.length c1) (delM L x.ts) L (.slice aw (doneT L).length cw) mb (.cells (mcCells (x, false)).toArray 39) w6) := by (have h9 := hN9; rw [HD2.out] at h9; exact h9)
          clear ht hsub hnew hto hN9
          rw [HU2.out] at he
          subst he
          have g0 : w6.cell? ⟨mb, 0, none⟩ = some (.int .i64 x.ts.1) := cellB HN.out.row 0 _ rfl
          have g1 : w6.cell? ⟨mb, 1, none⟩ = some (.int .i64 x.ts.2) := cellB HN.out.row 1 _ rfl
          have g2 : w6.cell? ⟨mb, 2, none⟩ = some (.int .i64 x.nd.1) := cellB HN.out.row 2 _ rfl
          have g3 : w6.cell? ⟨mb, 3, none⟩ = some (.int .i64 x.nd.2) := cellB HN.out.row 3 _ rfl
          have g4 : w6.cell? ⟨mb, 4, none⟩ = some (.int .i64 x.pr.1) := cellB HN.out.row 4 _ rfl
          have g5 : w6.cell? ⟨mb, 5, none⟩ = some (.int .i64 x.pr.2) := cellB HN.out.row 5 _ rfl
          go_wp2_with fail
          clear g0 g1 g2 g3 g4 g5
          refine (do_any Fb tb (delM L x.ts) x.ts x.nd x.pr _ HN.out.md.tr (by have := HLd.out; omega)).mono ?_
          rintro e w7 ⟨he, Fc, ht, hsub, hnew, hto⟩
          have hN9 := HN.out.moved ht hnew hto
          replace HN : Hid (BkS W0 tb Fc (.slice (some ⟨b, o, none⟩) L.length c1) L L (.slice aw (doneT L).length cw) mb (.cells (mcCells (x, false)).toArray 39) w7) := by (have h9 := hN9; rw [show doL (delM L x.ts) ⟨x.ts, x.nd, x.pr⟩ = L from HD4.out] at h9; exact h9)
          clear ht hsub hnew hto hN9
          rw [show doE (delM L x.ts) ⟨x.ts, x.nd, x.pr⟩ = 0 from HD3.out] at he
          subst he
          have g0 : w7.cell? ⟨mb, 0, none⟩ = some (.int .i64 x.ts.1) := cellB HN.out.row 0 _ rfl
          have g1 : w7.cell? ⟨mb, 1, none⟩ = some (.int .i64 x.ts.2) := cellB HN.out.row 1 _ rfl
          have g2 : w7.cell? ⟨mb, 2, none⟩ = some (.int .i64 x.nd.1) := cellB HN.out.row 2 _ rfl
          have g3 : w7.cell? ⟨mb, 3, none⟩ = some (.int .i64 x.nd.2) := cellB HN.out.row 3 _ rfl
          have g4 : w7.cell? ⟨mb, 4, none⟩ = some (.int .i64 x.pr.1) := cellB HN.out.row 4 _ rfl
          have g5 : w7.cell? ⟨mb, 5, none⟩ = some (.int .i64 x.pr.2) := cellB HN.out.row 5 _ rfl
          go_wp2_with fail
          clear g0 g1 g2 g3 g4 g5
          refine (all_any Fc (.pointer (some ⟨tb, 0, none⟩)) L _ HN.out.md.tv HN.out.md.tr.lt).mono ?_
          rintro e w8a ⟨v7, rfl, ho, ha⟩
          replace HN : Hid (BkS W0 tb Fc (.slice (some ⟨b, o, none⟩) L.length c1) L L (.slice aw (doneT L).length cw) mb (.cells (mcCells (x, false)).toArray 39) w8a) := HN.out.asked ha
          have HV7 : Hid (LsE plCells 6 (fun _ => True) w8a v7 (doneT L)) := ho.lsE plCells_len (by have := HTl.out; omega) (fun _ _ => trivial)
          obtain ⟨a7, c7, e7⟩ := ho.form
          subst e7
          clear ho ha
          have g0 : w8a.cell? ⟨mb, 0, none⟩ = some (.int .i64 x.ts.1) := cellB HN.out.row 0 _ rfl
          have g1 : w8a.cell? ⟨mb, 1, none⟩ = some (.int .i64 x.ts.2) := cellB HN.out.row 1 _ rfl
          have g2 : w8a.cell? ⟨mb, 2, none⟩ = some (.int .i64 x.nd.1) := cellB HN.out.row 2 _ rfl
          have g3 : w8a.cell? ⟨mb, 3, none⟩ = some (.int .i64 x.nd.2) := cellB HN.out.row 3 _ rfl
          have g4 : w8a.cell? ⟨mb, 4, none⟩ = some (.int .i64 x.pr.1) := cellB HN.out.row 4 _ rfl
          have g5 : w8a.cell? ⟨mb, 5, none⟩ = some (.int .i64 x.pr.2) := cellB HN.out.row 5 _ rfl
          go_wp2_with fail
          clear g0 g1 g2 g3 g4 g5
          refine (same_eq (fun _ => True) (fun j => ¬ Fc j) _ _ (doneT L) _ HV7.out HN.out.was).mono ?_
          rintro e w8b ⟨rfl, hb⟩
          replace HN : Hid (BkS W0 tb Fc (.slice (some ⟨b, o, none⟩) L.length c1) L L (.slice aw (doneT L).length cw) mb (.cells (mcCells (x, false)).toArray 39) w8b) := HN.out.below hb
          clear hb HV7
          have g0 : w8b.cell? ⟨mb, 0, none⟩ = some (.int .i64 x.ts.1) := cellB HN.out.row 0 _ rfl
          have g1 : w8b.cell? ⟨mb, 1, none⟩ = some (.int .i64 x.ts.2) := cellB HN.out.row 1 _ rfl
          have g2 : w8b.cell? ⟨mb, 2, none⟩ = some (.int .i64 x.nd.1) := cellB HN.out.row 2 _ rfl
          have g3 : w8b.cell? ⟨mb, 3, none⟩ = some (.int .i64 x.nd.2) := cellB HN.out.row 3 _ rfl
          have g4 : w8b.cell? ⟨mb, 4, none⟩ = some (.int .i64 x.pr.1) := cellB HN.out.row 4 _ rfl
          have g5 : w8b.cell? ⟨mb, 5, none⟩ = some (.int .i64 x.pr.2) := cellB HN.out.row 5 _ rfl
          clear g0 g1 g2 g3 g4 g5
          go_wp2
          go_roundw
          case rel => exact ⟨i + 1, Fc, _, _, by go_num, by omega, by omega, HN⟩
          case measure => simp [intOf]; omega
        · obtain rfl : i = 20 := by omega
          have i1 : (20 : Int) < (L.length : Int) := by omega
          go_wp2_with fail
          refine (awake_any _).mono ?_
          rintro e w9 ⟨rfl, hb⟩
          have HB : Hid (Below w.heap.size w w9) := HBe.out.trans ((HN.out.md.bel.trans (hb.mono HN.out.md.bel.size)).mono HBe.out.size)
          clear hb HN
          go_wp2
          go_ret
          exact ⟨rfl, HB.out⟩
      · obtain rfl : i = L.length := by omega
        go_wp2_with fail
        refine (awake_any _).mono ?_
        rintro e w9 ⟨rfl, hb⟩
        have HB : Hid (Below w.heap.size w w9) := HBe.out.trans ((HN.out.md.bel.trans (hb.mono HN.out.md.bel.size)).mono HBe.out.size)
        clear hb HN
        go_wp2
        go_ret
        exact ⟨rfl, HB.out⟩
  · have HE0 : Hid (doE L a.2 = 0) := hE
    obtain ⟨hp1, hp2⟩ := undo_do HSr.out hE
    have HP1 : Hid (undoE (doL L a.2) a.2.ts = 0) := hp1
    have HP2 : Hid (delM (doL L a.2) a.2.ts = L) := hp2
    clear hE hp1 hp2
    refine (do_any F tb L a.2.ts a.2.nd a.2.pr _ HN.out.md.tr (by have := HLd.out; omega)).mono ?_
    rintro e w4 ⟨he, F2, ht, hsub, hnew, hto⟩
    have hN9 := HN.out.moved ht hnew hto
    replace HN : Hid (BkS W0 tb F2 (.slice a1 L.length c1) (doL L a.2) L (.slice aw (doneT L).length cw) w.heap.size (.cells (maCells a).toArray 26) w4) := hN9
    clear ht hsub hnew hto hN9
    rw [show doE L ⟨a.2.ts, a.2.nd, a.2.pr⟩ = 0 from HE0.out] at he
    subst he
    have f1 : w4.cell? ⟨w.heap.size, 1, none⟩ = some (.int .i64 a.2.ts.1) := cellB HN.out.row 1 _ rfl
    have f2 : w4.cell? ⟨w.heap.size, 2, none⟩ = some (.int .i64 a.2.ts.2) := cellB HN.out.row 2 _ rfl
    have f3 : w4.cell? ⟨w.heap.size, 3, none⟩ = some (.int .i64 a.2.nd.1) := cellB HN.out.row 3 _ rfl
    have f4 : w4.cell? ⟨w.heap.size, 4, none⟩ = some (.int .i64 a.2.nd.2) := cellB HN.out.row 4 _ rfl
    have f5 : w4.cell? ⟨w.heap.size, 5, none⟩ = some (.int .i64 a.2.pr.1) := cellB HN.out.row 5 _ rfl
    have f6 : w4.cell? ⟨w.heap.size, 6, none⟩ = some (.int .i64 a.2.pr.2) := cellB HN.out.row 6 _ rfl
    go_wp2_with fail
    clear f1 f2 f3 f4 f5 f6
    refine (undo_any F2 tb (doL L a.2) a.2.ts _ HN.out.md.tr).mono ?_
    rintro e w5 ⟨he, F3, ht, hsub, hnew, hto⟩
    have hN9 := HN.out.moved ht hnew hto
    replace HN : Hid (BkS W0 tb F3 (.slice a1 L.length c1) L L (.slice aw (doneT L).length cw) w.heap.size (.cells (maCells a).toArray 26) w5) := by (have h9 := hN9; rw [HP2.out] at h9; exact h9)
    clear ht hsub hnew hto hN9
    rw [HP1.out] at he
    subst he
    go_wp2_with fail
    refine (all_any F3 (.pointer (some ⟨tb, 0, none⟩)) L _ HN.out.md.tv HN.out.md.tr.lt).mono ?_
    rintro e w6a ⟨v7, rfl, ho, ha⟩
    replace HN : Hid (BkS W0 tb F3 (.slice a1 L.length c1) L L (.slice aw (doneT L).length cw) w.heap.size (.cells (maCells a).toArray 26) w6a) := HN.out.asked ha
    have HV7 : Hid (LsE plCells 6 (fun _ => True) w6a v7 (doneT L)) := ho.lsE plCells_len (by have := HTl.out; omega) (fun _ _ => trivial)
    obtain ⟨a7, c7, e7⟩ := ho.form
    subst e7
    clear ho ha
    go_wp2_with fail
    refine (same_eq (fun _ => True) (fun j => ¬ F3 j) _ _ (doneT L) _ HV7.out HN.out.was).mono ?_
    rintro e w6b ⟨rfl, hb⟩
    replace HN : Hid (BkS W0 tb F3 (.slice a1 L.length c1) L L (.slice aw (doneT L).length cw) w.heap.size (.cells (maCells a).toArray 26) w6b) := HN.out.below hb
    clear hb HV7
    go_wp2_with fail
    refine (len_any F3 tb L _ HN.out.md.tr).mono ?_
    rintro e w7 ⟨rfl, hw7⟩
    replace hw7 := hw7.symm
    subst hw7
    go_wp2
    go_loopw [8] (fun iv wr => ∃ (i : Nat) (F : Nat → Prop) (xb : Nat) (xo : Obj), iv = .int .i64 (i : Int) ∧ i ≤ L.length ∧ i ≤ 20 ∧ Hid (BkS W0 tb F (.slice a1 L.length c1) L L (.slice aw (doneT L).length cw) xb xo wr)) (fun iv _ => L.length - (intOf iv).toNat)
    case atStart => exact ⟨0, F3, _, _, rfl, Nat.zero_le _, Nat.zero_le _, HN⟩
    case round =>
      clear HN
      obtain ⟨i, F, xb, xo, rfl, hi, hi2, HN⟩ := hrel
      by_cases hil : i < L.length
      · by_cases hi3 : i < 20
        · obtain ⟨x, hx⟩ : ∃ x, L[i]? = some x := ⟨_, List.getElem?_eq_getElem hil⟩
          have hxm := List.mem_of_getElem? hx
          have HXi : Hid ((fl L)[i]? = some (x, false)) := fl_at hx
          obtain ⟨b, o, c2, ev, hR⟩ := HN.out.md.doc.rwB (i := i) (by rw [fl_length]; exact hil)
          injection ev with ev1 ev2 ev3
          subst ev1
          subst ev3
          clear ev2
          have HU1 : Hid (undoE L x.ts = 0) := undo_in hxm
          have HU2 : Hid (undoE (delM L x.ts) x.ts = 4) := undo_out L x.ts
          have HD2 : Hid (delM (delM L x.ts) x.ts = delM L x.ts) := delM_no (del_has L x.ts)
          have HD3 : Hid (doE (delM L x.ts) x = 0) := do_back HFm.out hxm
          have HD4 : Hid (doL (delM L x.ts) x = L) := doL_back HFm.out HSr.out hxm
          have HLd : Hid ((delM L x.ts).length ≤ 200) := Nat.le_trans (List.length_filter_le _ _) hLl
          have x0 : wr.cell? ⟨b, o + i * 7, none⟩ = some (.int .i64 x.ts.1) := hR.at HXi.out 0 _ rfl
          have x1 : wr.cell? ⟨b, o + i * 7 + 1, none⟩ = some (.int .i64 x.ts.2) := hR.at HXi.out 1 _ rfl
          have x2 : wr.cell? ⟨b, o + i * 7 + 2, none⟩ = some (.int .i64 x.nd.1) := hR.at HXi.out 2 _ rfl
          have x3 : wr.cell? ⟨b, o + i * 7 + 3, none⟩ = some (.int .i64 x.nd.2) := hR.at HXi.out 3 _ rfl
          have x4 : wr.cell? ⟨b, o + i * 7 + 4, none⟩ = some (.int .i64 x.pr.1) := hR.at HXi.out 4 _ rfl
          have x5 : wr.cell? ⟨b, o + i * 7 + 5, none⟩ = some (.int .i64 x.pr.2) := hR.at HXi.out 5 _ rfl
          have x6 : wr.cell? ⟨b, o + i * 7 + 6, none⟩ = some (.bool false) := hR.at HXi.out 6 _ rfl
          obtain ⟨wm, ewm⟩ : ∃ X, X = wr.alloc (.cells (mcCells (x, false)).toArray 39) := ⟨_, rfl⟩
          obtain ⟨mb, emb⟩ : ∃ b, b = wr.heap.size := ⟨_, rfl⟩
          have hbm : Below wr.heap.size wr wm := by rw [ewm]; exact (Below.refl _ _).alloc (Nat.le_refl _) _
          have hNm := (HN.out.below hbm).swap (xb2 := mb) (xo2 := .cells (mcCells (x, false)).toArray 39) (by (rw [emb, ewm]; exact heap_alloc_new _ _)) (fun hk => by have h1 := HN.out.md.tr.lt _ hk; omega)
          have HeW : Hid (wm = wr.alloc (.cells #[.int .i64 x.ts.1, .int .i64 x.ts.2, .int .i64 x.nd.1, .int .i64 x.nd.2, .int .i64 x.pr.1, .int .i64 x.pr.2, .bool false] 39)) := ewm
          have HeB : Hid (mb = wr.heap.size) := emb
          replace HN : Hid (BkS W0 tb F (.slice (some ⟨b, o, none⟩) L.length c1) L L (.slice aw (doneT L).length cw) mb (.cells (mcCells (x, false)).toArray 39) wm) := hNm
          have g0 : wm.cell? ⟨mb, 0, none⟩ = some (.int .i64 x.ts.1) := cellB HN.out.row 0 _ rfl
          have g1 : wm.cell? ⟨mb, 1, none⟩ = some (.int .i64 x.ts.2) := cellB HN.out.row 1 _ rfl
          have g2 : wm.cell? ⟨mb, 2, none⟩ = some (.int .i64 x.nd.1) := cellB HN.out.row 2 _ rfl
          have g3 : wm.cell? ⟨mb, 3, none⟩ = some (.int .i64 x.nd.2) := cellB HN.out.row 3 _ rfl
          have g4 : wm.cell? ⟨mb, 4, none⟩ = some (.int .i64 x.pr.1) := cellB HN.out.row 4 _ rfl
          have g5 : wm.cell? ⟨mb, 5, none⟩ = some (.int .i64 x.pr.2) := cellB HN.out.row 5 _ rfl
          rw [ewm, emb] at g0 g1 g2 g3 g4 g5
          have i1 : (i : Int) < (L.length : Int) := by omega
          have i0 : (0 : Int) ≤ (i : Int) := by omega
          have i2 : (i : Int) < 20 := by omega
          clear hNm ewm emb hbm hR hx hxm
          go_wp2_with fail
          rw [← HeW.out, ← HeB.out]
          clear g0 g1 g2 g3 g4 g5
          clear HeW HeB x0 x1 x2 x3 x4 x5 x6
          refine (undo_any F tb L x.ts _ HN.out.md.tr).mono ?_
          rintro e w5 ⟨he, Fa, ht, hsub, hnew, hto⟩
          have hN9 := HN.out.moved ht hnew hto
          replace HN : Hid (BkS W0 tb Fa (.slice (some ⟨b, o, none⟩) L.length c1) (delM L x.ts) L (.slice aw (doneT L).length cw) mb (.cells (mcCells (x, false)).toArray 39) w5) := hN9
          clear ht hsub hnew hto hN9
          rw [HU1.out] at he
          subst he
          have g0 : w5.cell? ⟨mb, 0, none⟩ = some (.int .i64 x.ts.1) := cellB HN.out.row 0 _ rfl
          have g1 : w5.cell? ⟨mb, 1, none⟩ = some (.int .i64 x.ts.2) := cellB HN.out.row 1 _ rfl
          have g2 : w5.cell? ⟨mb, 2, none⟩ = some (.int .i64 x.nd.1) := cellB HN.out.row 2 _ rfl
          have g3 : w5.cell? ⟨mb, 3, none⟩ = some (.int .i64 x.nd.2) := cellB HN.out.row 3 _ rfl
          have g4 : w5.cell? ⟨mb, 4, none⟩ = some (.int .i64 x.pr.1) := cellB HN.out.row 4 _ rfl
          have g5 : w5.cell? ⟨mb, 5, none⟩ = some (.int .i64 x.pr.2) := cellB HN.out.row 5 _ rfl
          go_wp2_with fail
          clear g0 g1 g2 g3 g4 g5
          refine (undo_any Fa tb (delM L x.ts) x.ts _ HN.out.md.tr).mono ?_
          rintro e w6 ⟨he, Fb, ht, hsub, hnew, hto⟩
          have hN9 := HN.out.moved ht hnew hto
          replace HN : Hid (BkS W0 tb Fb (.slice (some ⟨b, o, none⟩) L.length c1) (delM L x.ts) L (.slice aw (doneT L).length cw) mb (.cells (mcCells (x, false)).toArray 39) w6) := by (have h9 := hN9; rw [HD2.out] at h9; exact h9)
          clear ht hsub hnew hto hN9
          rw [HU2.out] at he
          subst he
          have g0 : w6.cell? ⟨mb, 0, none⟩ = some (.int .i64 x.ts.1) := cellB HN.out.row 0 _ rfl
          have g1 : w6.cell? ⟨mb, 1, none⟩ = some (.int .i64 x.ts.2) := cellB HN.out.row 1 _ rfl
          have g2 : w6.cell? ⟨mb, 2, none⟩ = some (.int .i64 x.nd.1) := cellB HN.out.row 2 _ rfl
          have g3 : w6.cell? ⟨mb, 3, none⟩ = some (.int .i64 x.nd.2) := cellB HN.out.row 3 _ rfl
          have g4 : w6.cell? ⟨mb, 4, none⟩ = some (.int .i64 x.pr.1) := cellB HN.out.row 4 _ rfl
          have g5 : w6.cell? ⟨mb, 5, none⟩ = some (.int .i64 x.pr.2) := cellB HN.out.row 5 _ rfl
          go_wp2_with fail
          clear g0 g1 g2 g3 g4 g5
          refine (do_any Fb tb (delM L x.ts) x.ts x.nd x.pr _ HN.out.md.tr (by have := HLd.out; omega)).mono ?_
          rintro e w7 ⟨he, Fc, ht, hsub, hnew, hto⟩
          have hN9 := HN.out.moved ht hnew hto
          replace HN : Hid (BkS W0 tb Fc (.slice (some ⟨b, o, none⟩) L.length c1) L L (.slice aw (doneT L).length cw) mb (.cells (mcCells (x, false)).toArray 39) w7) := by (have h9 := hN9; rw [show doL (delM L x.ts) ⟨x.ts, x.nd, x.pr⟩ = L from HD4.out] at h9; exact h9)
          clear ht hsub hnew hto hN9
          rw [show doE (delM L x.ts) ⟨x.ts, x.nd, x.pr⟩ = 0 from HD3.out] at he
          subst he
          have g0 : w7.cell? ⟨mb, 0, none⟩ = some (.int .i64 x.ts.1) := cellB HN.out.row 0 _ rfl
          have g1 : w7.cell? ⟨mb, 1, none⟩ = some (.int .i64 x.ts.2) := cellB HN.out.row 1 _ rfl
          have g2 : w7.cell? ⟨mb, 2, none⟩ = some (.int .i64 x.nd.1) := cellB HN.out.row 2 _ rfl
          have g3 : w7.cell? ⟨mb, 3, none⟩ = some (.int .i64 x.nd.2) := cellB HN.out.row 3 _ rfl
          have g4 : w7.cell? ⟨mb, 4, none⟩ = some (.int .i64 x.pr.1) := cellB HN.out.row 4 _ rfl
          have g5 : w7.cell? ⟨mb, 5, none⟩ = some (.int .i64 x.pr.2) := cellB HN.out.row 5 _ rfl
          go_wp2_with fail
          clear g0 g1 g2 g3 g4 g5
          refine (all_any Fc (.pointer (some ⟨tb, 0, none⟩)) L _ HN.out.md.tv HN.out.md.tr.lt).mono ?_
          rintro e w8a ⟨v7, rfl, ho, ha⟩
          replace HN : Hid (BkS W0 tb Fc (.slice (some ⟨b, o, none⟩) L.length c1) L L (.slice aw (doneT L).length cw) mb (.cells (mcCells (x, false)).toArray 39) w8a) := HN.out.asked ha
          have HV7 : Hid (LsE plCells 6 (fun _ => True) w8a v7 (doneT L)) := ho.lsE plCells_len (by have := HTl.out; omega) (fun _ _ => trivial)
          obtain ⟨a7, c7, e7⟩ := ho.form
          subst e7
          clear ho ha
          have g0 : w8a.cell? ⟨mb, 0, none⟩ = some (.int .i64 x.ts.1) := cellB HN.out.row 0 _ rfl
          have g1 : w8a.cell? ⟨mb, 1, none⟩ = some (.int .i64 x.ts.2) := cellB HN.out.row 1 _ rfl
          have g2 : w8a.cell? ⟨mb, 2, none⟩ = some (.int .i64 x.nd.1) := cellB HN.out.row 2 _ rfl
          have g3 : w8a.cell? ⟨mb, 3, none⟩ = some (.int .i64 x.nd.2) := cellB HN.out.row 3 _ rfl
          have g4 : w8a.cell? ⟨mb, 4, none⟩ = some (.int .i64 x.pr.1) := cellB HN.out.row 4 _ rfl
          have g5 : w8a.cell? ⟨mb, 5, none⟩ = some (.int .i64 x.pr.2) := cellB HN.out.row 5 _ rfl
          go_wp2_with fail
          clear g0 g1 g2 g3 g4 g5
          refine (same_eq (fun _ => True) (fun j => ¬ Fc j) _ _ (doneT L) _ HV7.out HN.out.was).mono ?_
          rintro e w8b ⟨rfl, hb⟩
          replace HN : Hid (BkS W0 tb Fc (.slice (some ⟨b, o, none⟩) L.length c1) L L (.slice aw (doneT L).length cw) mb (.cells (mcCells (x, false)).toArray 39) w8b) := HN.out.below hb
          clear hb HV7
          have g0 : w8b.cell? ⟨mb, 0, none⟩ = some (.int .i64 x.ts.1) := cellB HN.out.row 0 _ rfl
          have g1 : w8b.cell? ⟨mb, 1, none⟩ = some (.int .i64 x.ts.2) := cellB HN.out.row 1 _ rfl
          have g2 : w8b.cell? ⟨mb, 2, none⟩ = some (.int .i64 x.nd.1) := cellB HN.out.row 2 _ rfl
          have g3 : w8b.cell? ⟨mb, 3, none⟩ = some (.int .i64 x.nd.2) := cellB HN.out.row 3 _ rfl
          have g4 : w8b.cell? ⟨mb, 4, none⟩ = some (.int .i64 x.pr.1) := cellB HN.out.row 4 _ rfl
          have g5 : w8b.cell? ⟨mb, 5, none⟩ = some (.int .i64 x.pr.2) := cellB HN.out.row 5 _ rfl
          clear g0 g1 g2 g3 g4 g5
          go_wp2
          go_roundw
          case rel => exact ⟨i + 1, Fc, _, _, by go_num, by omega, by omega, HN⟩
          case measure => simp [intOf]; omega
        · obtain rfl : i = 20 := by omega
          have i1 : (20 : Int) < (L.length : Int) := by omega
          go_wp2_with fail
          refine (awake_any _).mono ?_
          rintro e w9 ⟨rfl, hb⟩
          have HB : Hid (Below w.heap.size w w9) := HBe.out.trans ((HN.out.md.bel.trans (hb.mono HN.out.md.bel.size)).mono HBe.out.size)
          clear hb HN
          go_wp2
          go_ret
          exact ⟨rfl, HB.out⟩
      · obtain rfl : i = L.length := by omega
        go_wp2_with fail
        refine (awake_any _).mono ?_
        rintro e w9 ⟨rfl, hb⟩
        have HB : Hid (Below w.heap.size w w9) := HBe.out.trans ((HN.out.md.bel.trans (hb.mono HN.out.md.bel.size)).mono HBe.out.size)
        clear hb HN
        go_wp2
        go_ret
        exact ⟨rfl, HB.out⟩

end Go.Proofs.Ytljepindfdhbbab
