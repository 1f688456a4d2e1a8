/- MovesLast: a node stands in the slot of its last move that counts. -/
import Derived.Test.YtljepindfdhbbaaRfD
import Derived.Test.YtljepindfdhbbaaTrO
namespace Go.Proofs.Ytljepindfdhbbaa
open Go.RowKit
set_option linter.unusedVariables false
set_option linter.unusedSimpArgs false

theorem cellP {W : World} {b : Nat} {cs : Array Value} {T : TypeId} (h : W.heap[b]? = some (.cells cs T)) (j : Nat) (u : Value) (hj : cs[j]? = some u) : W.cell? ⟨b, j, none⟩ = some u := by
  rw [cell_of_row W b j _ _ _ h]
  exact hj
/-- The state of MovesLast: the document's moves at their place. -/
structure LaS (W0 : World) (tb : Nat) (F : Nat → Prop) (dv : Value) (b o : Nat) (L : List Mv) (W : World) : Prop where
  md : MdS W0 tb F dv L L W
  nb : ¬ F b
  lt : b < W.heap.size
  row : ∀ i (h : i < L.length) j u, (mcCells (L[i], false))[j]? = some u → W.cell? ⟨b, o + i * 7 + j, none⟩ = some u
section
variable {W0 W W' : World} {tb : Nat} {F : Nat → Prop} {dv : Value} {b o : Nat} {L : List Mv}
theorem LaS.below (h : LaS W0 tb F dv b o L W) (hb : Below W.heap.size W W') : LaS W0 tb F dv b o L W' := ⟨h.md.below hb, h.nb, Nat.lt_of_lt_of_le h.lt hb.size, fun i hi j u hj => (hb.cell (p := ⟨b, _, none⟩) h.lt).trans (h.row i hi j u hj)⟩
theorem LaS.drew (h : LaS W0 tb F dv b o L W) : LaS W0 tb F dv b o L W.drew := h.below (Below.refl _ _).drew
theorem LaS.asked (h : LaS W0 tb F dv b o L W) (ha : AskP F W (.pointer (some ⟨tb, 0, none⟩)) L W') : LaS W0 tb F dv b o L W' := ⟨h.md.asked ha, h.nb, Nat.lt_of_lt_of_le h.lt ha.2.size, fun i hi j u hj => (World.cell?_of_block (w := W) (ha.2.block b h.lt h.nb)).trans (h.row i hi j u hj)⟩
theorem LaS.at (h : LaS W0 tb F dv b o L W) {i : Nat} {x : Mv} (hi : L[i]? = some x) (j : Nat) (u : Value) (hj : (mcCells (x, false))[j]? = some u) : W.cell? ⟨b, o + i * 7 + j, none⟩ = some u := by
  obtain ⟨h1, h2⟩ := List.getElem?_eq_some_iff.1 hi
  exact h.row i h1 j u (by rw [h2]; exact hj)
theorem MdS.laS (h : MdS W0 tb F dv L L W) {i : Nat} (hi : i < L.length) : ∃ b o c, dv = .slice (some ⟨b, o, none⟩) L.length c ∧ LaS W0 tb F dv b o L W := by
  obtain ⟨a, cap, e, hc, hl, h9⟩ := h.doc
  rcases h9 with h9 | ⟨b, o, ea, hg, hlt, hr⟩
  · have := congrArg List.length h9; rw [fl_length, List.length_nil] at this; omega
  · refine ⟨b, o, cap, by rw [e, ea, fl_length], h, hg, hlt, fun i hi j u hj => hr i (by rw [fl_length]; exact hi) j u ?_⟩
    rw [fl_get hi]; exact hj
end
/-- A round of the search for the last one. -/
theorem last_set {L : List Mv} (hs : SrtM L) {k : Nat} {x : Mv} (hk : L[k]? = some x) {n : St} (e : x.nd = n) (hc : cntS L x.ts = true) : whT (doneT (L.take (k + 1))) n = some (plOf x) := by
  obtain ⟨h1, h2⟩ := List.getElem?_eq_some_iff.1 hk
  rw [doneT_next L k h1, h2]
  have h3 := cntS_at hs h1
  rw [h2, hc] at h3
  unfold doM
  rw [← h3, if_pos rfl, ← e]
  exact whT_set_same (goodT _).srt (plOf x)
theorem last_no {L : List Mv} (hs : SrtM L) {k : Nat} {x : Mv} (hk : L[k]? = some x) {n : St} (hc : cntS L x.ts = false) : whT (doneT (L.take (k + 1))) n = whT (doneT (L.take k)) n := by
  obtain ⟨h1, h2⟩ := List.getElem?_eq_some_iff.1 hk
  rw [doneT_next L k h1, h2]
  have h3 := cntS_at hs h1
  rw [h2, hc] at h3
  unfold doM
  rw [← h3]
  rfl
theorem last_other {L : List Mv} {k : Nat} {x : Mv} (hk : L[k]? = some x) {n : St} (e : x.nd ≠ n) : whT (doneT (L.take (k + 1))) n = whT (doneT (L.take k)) n := by
  obtain ⟨h1, h2⟩ := List.getElem?_eq_some_iff.1 hk
  rw [doneT_next L k h1, h2]
  unfold doM
  split
  · exact whT_set_other (goodT _).srt (fun e2 => e e2.symm)
  · rfl
/-- What is known of the last one, k rounds on. -/
def LaI (L : List Mv) (n : St) (k : Nat) (v : Value) : Prop := (v = .int .i64 (-1) ∧ whT (doneT (L.take k)) n = none) ∨ ∃ (q : Nat) (z : Mv), q < k ∧ v = .int .i64 (q : Int) ∧ L[q]? = some z ∧ whT (doneT (L.take k)) n = some (plOf z)
theorem LaI.same {L : List Mv} {n : St} {k : Nat} {v : Value} (h : LaI L n k v) (e : whT (doneT (L.take (k + 1))) n = whT (doneT (L.take k)) n) : LaI L n (k + 1) v := by
  rcases h with ⟨h1, h2⟩ | ⟨q, z, h1, h2, h3, h4⟩
  · exact .inl ⟨h1, e.trans h2⟩
  · exact .inr ⟨q, z, by omega, h2, h3, e.trans h4⟩

set_option maxRecDepth 100000 in
set_option maxHeartbeats 8000000 in
theorem movesLast_walk (v : Value) (l : List Ma) (w : World) (h : IsMa w v l) :
    Calls Try.prog 7 #[v] w fun e w' => e = .returned (.bool true) ∧ Below w.heap.size w w' := by
  obtain ⟨a0, c0, e0⟩ := h.form
  subst e0
  have HLs : Hid (IsMa w (.slice a0 l.length c0) l) := h
  clear h
  go_enter Try.func7, Try.ntmps7
  go_wp2_with fail
  refine (made_any (.slice a0 l.length c0) l _ HLs.out).mono ?_
  rintro e w1 ⟨tb, F, a1, c1, rfl, hM⟩
  obtain ⟨L, eL⟩ : ∃ X, X = madeL l := ⟨_, rfl⟩
  have hLl : L.length ≤ 200 := by rw [eL]; exact madeL_len l
  rw [← eL] at hM ⊢
  have HM1 : Hid (MdS w tb F (.slice a1 L.length c1) L L w1) := hM
  have HSr : Hid (SrtM L) := hM.tr.srt
  clear hM eL HLs
  go_wp2
  go_loopw [5] (fun iv wr => ∃ i : Nat, iv = .int .i64 (i : Int) ∧ i ≤ L.length ∧ Hid (MdS w tb F (.slice a1 L.length c1) L L wr)) (fun iv _ => L.length - (intOf iv).toNat)
  case atStart => exact ⟨0, rfl, Nat.zero_le _, HM1⟩
  case round =>
    clear HM1
    obtain ⟨i, rfl, hi, HM⟩ := hrel
    by_cases hil : i < L.length
    · obtain ⟨b, o, c2, ev, hL⟩ := HM.out.laS hil
      injection ev with ev1 ev2 ev3
      subst ev1
      subst ev3
      clear ev2
      have HL0 : Hid (LaS w tb F (.slice (some ⟨b, o, none⟩) L.length c1) b o L wr) := hL
      clear HM hL
      obtain ⟨y, hy⟩ : ∃ y, L[i]? = some y := ⟨_, List.getElem?_eq_getElem hil⟩
      have HYi : Hid (L[i]? = some y) := hy
      have i1 : (i : Int) < (L.length : Int) := by omega
      have i0 : (0 : Int) ≤ (i : Int) := by omega
      clear hy
      go_wp2
      go_loopw [6, 7] (fun lv kv wq => ∃ k : Nat, kv = .int .i64 (k : Int) ∧ k ≤ L.length ∧ Hid (LaS w tb F (.slice (some ⟨b, o, none⟩) L.length c1) b o L wq) ∧ LaI L y.nd k lv) (fun _ kv _ => L.length - (intOf kv).toNat)
      case atStart => exact ⟨0, rfl, Nat.zero_le _, HL0, .inl ⟨rfl, rfl⟩⟩
      case round =>
        rename World => wq
        clear HL0
        obtain ⟨k, rfl, hk, HL, hla⟩ := hrel
        have HLa : Hid (LaI L y.nd k _) := hla
        by_cases hkl : k < L.length
        · obtain ⟨x, hx⟩ : ∃ x, L[k]? = some x := ⟨_, List.getElem?_eq_getElem hkl⟩
          have HXk : Hid (L[k]? = some x) := hx
          have k1 : (k : Int) < (L.length : Int) := by omega
          have k0 : (0 : Int) ≤ (k : Int) := by omega
          clear hx hla
          by_cases hxy : x.nd = y.nd
          · have HXY : Hid (x.nd = y.nd) := hxy
            clear hxy
            cases hc : cntS L x.ts with
            | true =>
              have HCt : Hid (cntS L x.ts = true) := hc
              have HNx : Hid (LaI L y.nd (k + 1) (.int .i64 (k : Int))) := .inr ⟨k, x, by omega, rfl, HXk.out, last_set HSr.out HXk.out HXY.out hc⟩
              clear hc HLa
              go_wp2_with fail
              refine wp_region_held_drew (S := fun W' => LaS w tb F (.slice (some ⟨b, o, none⟩) L.length c1) b o L W') (by kernel_rfl) HL.out.drew (fun hHeld => ?_)
              obtain ⟨Ua1u0, eW⟩ : ∃ X, X = wq.drew := ⟨_, rfl⟩
              have hb : Below wq.heap.size wq Ua1u0 := by rw [eW]; exact (Below.refl _ _).drew
              replace HL : Hid (LaS w tb F (.slice (some ⟨b, o, none⟩) L.length c1) b o L Ua1u0) := HL.out.below hb
              rw [← eW] at hHeld ⊢
              clear eW hb
              refine tkW 0 (some 27) (v := ?_) ?_ hHeld ?_
              rotate_left
              · (intro ww _; go_simp; try with_reducible rfl)
              refine tkW 1 (some 28) (v := ?_) ?_ hHeld ?_
              rotate_left
              · (intro ww _; go_simp; try with_reducible rfl)
              refine tkW 2 (some 29) (v := ?_) ?_ hHeld ?_
              rotate_left
              · (intro ww hSw; (try dsimp only at hSw); have hS := hSw; have x0 : ww.cell? ⟨b, o + k * 7, none⟩ = some (.int .i64 x.ts.1) := hS.at HXk.out 0 _ rfl; have x1 : ww.cell? ⟨b, o + k * 7 + 1, none⟩ = some (.int .i64 x.ts.2) := hS.at HXk.out 1 _ rfl; have x2 : ww.cell? ⟨b, o + k * 7 + 2, none⟩ = some (.int .i64 x.nd.1) := hS.at HXk.out 2 _ rfl; have x3 : ww.cell? ⟨b, o + k * 7 + 3, none⟩ = some (.int .i64 x.nd.2) := hS.at HXk.out 3 _ rfl; have y2 : ww.cell? ⟨b, o + i * 7 + 2, none⟩ = some (.int .i64 y.nd.1) := hS.at HYi.out 2 _ rfl; have y3 : ww.cell? ⟨b, o + i * 7 + 3, none⟩ = some (.int .i64 y.nd.2) := hS.at HYi.out 3 _ rfl; go_simp; try with_reducible rfl)
              refine tkW 3 (some 30) (v := ?_) ?_ hHeld ?_
              rotate_left
              · (intro ww _; go_simp; try with_reducible rfl)
              refine tkW 4 (some 31) (v := ?_) ?_ hHeld ?_
              rotate_left
              · (intro ww hSw; (try dsimp only at hSw); have hS := hSw; have x0 : ww.cell? ⟨b, o + k * 7, none⟩ = some (.int .i64 x.ts.1) := hS.at HXk.out 0 _ rfl; have x1 : ww.cell? ⟨b, o + k * 7 + 1, none⟩ = some (.int .i64 x.ts.2) := hS.at HXk.out 1 _ rfl; have x2 : ww.cell? ⟨b, o + k * 7 + 2, none⟩ = some (.int .i64 x.nd.1) := hS.at HXk.out 2 _ rfl; have x3 : ww.cell? ⟨b, o + k * 7 + 3, none⟩ = some (.int .i64 x.nd.2) := hS.at HXk.out 3 _ rfl; have y2 : ww.cell? ⟨b, o + i * 7 + 2, none⟩ = some (.int .i64 y.nd.1) := hS.at HYi.out 2 _ rfl; have y3 : ww.cell? ⟨b, o + i * 7 + 3, none⟩ = some (.int .i64 y.nd.2) := hS.at HYi.out 3 _ rfl; go_simp; try with_reducible rfl)
              refine tkW 5 (some 32) (v := ?_) ?_ hHeld ?_
              rotate_left
              · (intro ww _; go_simp; try with_reducible rfl)
              refine tkW 6 (some 33) (v := ?_) ?_ hHeld ?_
              rotate_left
              · (intro ww _; go_simp; try with_reducible rfl)
              refine tkW 7 (some 34) (v := ?_) ?_ hHeld ?_
              rotate_left
              · (intro ww hSw; (try dsimp only at hSw); have hS := hSw; have x0 : ww.cell? ⟨b, o + k * 7, none⟩ = some (.int .i64 x.ts.1) := hS.at HXk.out 0 _ rfl; have x1 : ww.cell? ⟨b, o + k * 7 + 1, none⟩ = some (.int .i64 x.ts.2) := hS.at HXk.out 1 _ rfl; have x2 : ww.cell? ⟨b, o + k * 7 + 2, none⟩ = some (.int .i64 x.nd.1) := hS.at HXk.out 2 _ rfl; have x3 : ww.cell? ⟨b, o + k * 7 + 3, none⟩ = some (.int .i64 x.nd.2) := hS.at HXk.out 3 _ rfl; have y2 : ww.cell? ⟨b, o + i * 7 + 2, none⟩ = some (.int .i64 y.nd.1) := hS.at HYi.out 2 _ rfl; have y3 : ww.cell? ⟨b, o + i * 7 + 3, none⟩ = some (.int .i64 y.nd.2) := hS.at HYi.out 3 _ rfl; go_simp; try with_reducible rfl)
              refine tkW 8 (some 35) (v := ?_) ?_ hHeld ?_
              rotate_left
              · (intro ww _; go_simp; try with_reducible rfl)
              refine tkW 9 (some 36) (v := ?_) ?_ hHeld ?_
              rotate_left
              · (intro ww hSw; (try dsimp only at hSw); have hS := hSw; have x0 : ww.cell? ⟨b, o + k * 7, none⟩ = some (.int .i64 x.ts.1) := hS.at HXk.out 0 _ rfl; have x1 : ww.cell? ⟨b, o + k * 7 + 1, none⟩ = some (.int .i64 x.ts.2) := hS.at HXk.out 1 _ rfl; have x2 : ww.cell? ⟨b, o + k * 7 + 2, none⟩ = some (.int .i64 x.nd.1) := hS.at HXk.out 2 _ rfl; have x3 : ww.cell? ⟨b, o + k * 7 + 3, none⟩ = some (.int .i64 x.nd.2) := hS.at HXk.out 3 _ rfl; have y2 : ww.cell? ⟨b, o + i * 7 + 2, none⟩ = some (.int .i64 y.nd.1) := hS.at HYi.out 2 _ rfl; have y3 : ww.cell? ⟨b, o + i * 7 + 3, none⟩ = some (.int .i64 y.nd.2) := hS.at HYi.out 3 _ rfl; go_simp; try with_reducible rfl)
              refine tkW 10 (some 37) (v := .bool true) ?_ hHeld ?_
              · (intro ww hSw; (try dsimp only at hSw); have hS := hSw; have x0 : ww.cell? ⟨b, o + k * 7, none⟩ = some (.int .i64 x.ts.1) := hS.at HXk.out 0 _ rfl; have x1 : ww.cell? ⟨b, o + k * 7 + 1, none⟩ = some (.int .i64 x.ts.2) := hS.at HXk.out 1 _ rfl; have x2 : ww.cell? ⟨b, o + k * 7 + 2, none⟩ = some (.int .i64 x.nd.1) := hS.at HXk.out 2 _ rfl; have x3 : ww.cell? ⟨b, o + k * 7 + 3, none⟩ = some (.int .i64 x.nd.2) := hS.at HXk.out 3 _ rfl; have y2 : ww.cell? ⟨b, o + i * 7 + 2, none⟩ = some (.int .i64 y.nd.1) := hS.at HYi.out 2 _ rfl; have y3 : ww.cell? ⟨b, o + i * 7 + 3, none⟩ = some (.int .i64 y.nd.2) := hS.at HYi.out 3 _ rfl; have e1 := congrArg Prod.fst HXY.out; have e2 := congrArg Prod.snd HXY.out; go_simp; (try simp [e1, e2]))
              refine tkW 11 (some 38) (v := ?_) ?_ hHeld ?_
              rotate_left
              · (intro ww _; go_simp; try with_reducible rfl)
              refine tkW 12 (some 39) (v := ?_) ?_ hHeld ?_
              rotate_left
              · (intro ww _; go_simp; try with_reducible rfl)
              refine tkW 13 (some 40) (v := ?_) ?_ hHeld ?_
              rotate_left
              · (intro ww _; go_simp; try with_reducible rfl)
              refine tkW 14 (some 41) (v := ?_) ?_ hHeld ?_
              rotate_left
              · (intro ww _; go_simp; try with_reducible rfl)
              refine tkW 15 (some 42) (v := ?_) ?_ hHeld ?_
              rotate_left
              · (intro ww hSw; (try dsimp only at hSw); have hS := hSw; have x0 : ww.cell? ⟨b, o + k * 7, none⟩ = some (.int .i64 x.ts.1) := hS.at HXk.out 0 _ rfl; have x1 : ww.cell? ⟨b, o + k * 7 + 1, none⟩ = some (.int .i64 x.ts.2) := hS.at HXk.out 1 _ rfl; have x2 : ww.cell? ⟨b, o + k * 7 + 2, none⟩ = some (.int .i64 x.nd.1) := hS.at HXk.out 2 _ rfl; have x3 : ww.cell? ⟨b, o + k * 7 + 3, none⟩ = some (.int .i64 x.nd.2) := hS.at HXk.out 3 _ rfl; have y2 : ww.cell? ⟨b, o + i * 7 + 2, none⟩ = some (.int .i64 y.nd.1) := hS.at HYi.out 2 _ rfl; have y3 : ww.cell? ⟨b, o + i * 7 + 3, none⟩ = some (.int .i64 y.nd.2) := hS.at HYi.out 3 _ rfl; go_simp; try with_reducible rfl)
              refine tkW 16 (some 43) (v := ?_) ?_ hHeld ?_
              rotate_left
              · (intro ww _; go_simp; try with_reducible rfl)
              refine tkW 17 (some 44) (v := ?_) ?_ hHeld ?_
              rotate_left
              · (intro ww hSw; (try dsimp only at hSw); have hS := hSw; have x0 : ww.cell? ⟨b, o + k * 7, none⟩ = some (.int .i64 x.ts.1) := hS.at HXk.out 0 _ rfl; have x1 : ww.cell? ⟨b, o + k * 7 + 1, none⟩ = some (.int .i64 x.ts.2) := hS.at HXk.out 1 _ rfl; have x2 : ww.cell? ⟨b, o + k * 7 + 2, none⟩ = some (.int .i64 x.nd.1) := hS.at HXk.out 2 _ rfl; have x3 : ww.cell? ⟨b, o + k * 7 + 3, none⟩ = some (.int .i64 x.nd.2) := hS.at HXk.out 3 _ rfl; have y2 : ww.cell? ⟨b, o + i * 7 + 2, none⟩ = some (.int .i64 y.nd.1) := hS.at HYi.out 2 _ rfl; have y3 : ww.cell? ⟨b, o + i * 7 + 3, none⟩ = some (.int .i64 y.nd.2) := hS.at HYi.out 3 _ rfl; go_simp; try with_reducible rfl)
              refine wpAnyH_ready (rs := [18]) (by kernel_rfl) (by simp) ?_
              refine AllReadyH.cons (o := ⟨some 45, _, _, _, _, _⟩) rfl (fun K hK => ?_) AllReadyH.nil
              go_simp
              refine (counts_any F (.pointer (some ⟨tb, 0, none⟩)) L x.ts _ HL.out.md.tv HL.out.md.tr.lt).mono ?_
              rintro e Ua1u1 ⟨he, ha⟩
              rw [show cntS L x.ts = true from HCt.out] at he
              subst he
              (try go_wp2_with fail)
              replace HL : Hid (LaS w tb F (.slice (some ⟨b, o, none⟩) L.length c1) b o L Ua1u1) := HL.out.asked ha
              clear ha
              refine hK.out _ _ (HL.out) (fun hHeld2 => ?_)
              clear hK K hHeld
              have hHeld := hHeld2
              clear hHeld2
              (try simp only [Act.put, List.setIfInBounds_toArray, List.set_cons_zero, List.set_cons_succ])
              refine tkW 19 (some 46) (v := ?_) ?_ hHeld ?_
              rotate_left
              · (intro ww _; go_simp; try with_reducible rfl)
              refine wpAnyH_done (by kernel_rfl) ?_ _
              clear hHeld
              go_wp2
              go_roundw
              case rel => exact ⟨k + 1, by go_num, by omega, HL, HNx.out⟩
              case measure => simp [intOf]; omega
            | false =>
              have HCt : Hid (cntS L x.ts = false) := hc
              have HNx := Hid.out HLa |>.same (last_no HSr.out HXk.out hc)
              replace HNx : Hid (LaI L y.nd (k + 1) _) := HNx
              clear hc HLa
              go_wp2_with fail
              refine wp_region_held_drew (S := fun W' => LaS w tb F (.slice (some ⟨b, o, none⟩) L.length c1) b o L W') (by kernel_rfl) HL.out.drew (fun hHeld => ?_)
              obtain ⟨Ua2u0, eW⟩ : ∃ X, X = wq.drew := ⟨_, rfl⟩
              have hb : Below wq.heap.size wq Ua2u0 := by rw [eW]; exact (Below.refl _ _).drew
              replace HL : Hid (LaS w tb F (.slice (some ⟨b, o, none⟩) L.length c1) b o L Ua2u0) := HL.out.below hb
              rw [← eW] at hHeld ⊢
              clear eW hb
              refine tkW 0 (some 27) (v := ?_) ?_ hHeld ?_
              rotate_left
              · (intro ww _; go_simp; try with_reducible rfl)
              refine tkW 1 (some 28) (v := ?_) ?_ hHeld ?_
              rotate_left
              · (intro ww _; go_simp; try with_reducible rfl)
              refine tkW 2 (some 29) (v := ?_) ?_ hHeld ?_
              rotate_left
              · (intro ww hSw; (try dsimp only at hSw); have hS := hSw; have x0 : ww.cell? ⟨b, o + k * 7, none⟩ = some (.int .i64 x.ts.1) := hS.at HXk.out 0 _ rfl; have x1 : ww.cell? ⟨b, o + k * 7 + 1, none⟩ = some (.int .i64 x.ts.2) := hS.at HXk.out 1 _ rfl; have x2 : ww.cell? ⟨b, o + k * 7 + 2, none⟩ = some (.int .i64 x.nd.1) := hS.at HXk.out 2 _ rfl; have x3 : ww.cell? ⟨b, o + k * 7 + 3, none⟩ = some (.int .i64 x.nd.2) := hS.at HXk.out 3 _ rfl; have y2 : ww.cell? ⟨b, o + i * 7 + 2, none⟩ = some (.int .i64 y.nd.1) := hS.at HYi.out 2 _ rfl; have y3 : ww.cell? ⟨b, o + i * 7 + 3, none⟩ = some (.int .i64 y.nd.2) := hS.at HYi.out 3 _ rfl; go_simp; try with_reducible rfl)
              refine tkW 3 (some 30) (v := ?_) ?_ hHeld ?_
              rotate_left
              · (intro ww _; go_simp; try with_reducible rfl)
              refine tkW 4 (some 31) (v := ?_) ?_ hHeld ?_
              rotate_left
              · (intro ww hSw; (try dsimp only at hSw); have hS := hSw; have x0 : ww.cell? ⟨b, o + k * 7, none⟩ = some (.int .i64 x.ts.1) := hS.at HXk.out 0 _ rfl; have x1 : ww.cell? ⟨b, o + k * 7 + 1, none⟩ = some (.int .i64 x.ts.2) := hS.at HXk.out 1 _ rfl; have x2 : ww.cell? ⟨b, o + k * 7 + 2, none⟩ = some (.int .i64 x.nd.1) := hS.at HXk.out 2 _ rfl; have x3 : ww.cell? ⟨b, o + k * 7 + 3, none⟩ = some (.int .i64 x.nd.2) := hS.at HXk.out 3 _ rfl; have y2 : ww.cell? ⟨b, o + i * 7 + 2, none⟩ = some (.int .i64 y.nd.1) := hS.at HYi.out 2 _ rfl; have y3 : ww.cell? ⟨b, o + i * 7 + 3, none⟩ = some (.int .i64 y.nd.2) := hS.at HYi.out 3 _ rfl; go_simp; try with_reducible rfl)
              refine tkW 5 (some 32) (v := ?_) ?_ hHeld ?_
              rotate_left
              · (intro ww _; go_simp; try with_reducible rfl)
              refine tkW 6 (some 33) (v := ?_) ?_ hHeld ?_
              rotate_left
              · (intro ww _; go_simp; try with_reducible rfl)
              refine tkW 7 (some 34) (v := ?_) ?_ hHeld ?_
              rotate_left
              · (intro ww hSw; (try dsimp only at hSw); have hS := hSw; have x0 : ww.cell? ⟨b, o + k * 7, none⟩ = some (.int .i64 x.ts.1) := hS.at HXk.out 0 _ rfl; have x1 : ww.cell? ⟨b, o + k * 7 + 1, none⟩ = some (.int .i64 x.ts.2) := hS.at HXk.out 1 _ rfl; have x2 : ww.cell? ⟨b, o + k * 7 + 2, none⟩ = some (.int .i64 x.nd.1) := hS.at HXk.out 2 _ rfl; have x3 : ww.cell? ⟨b, o + k * 7 + 3, none⟩ = some (.int .i64 x.nd.2) := hS.at HXk.out 3 _ rfl; have y2 : ww.cell? ⟨b, o + i * 7 + 2, none⟩ = some (.int .i64 y.nd.1) := hS.at HYi.out 2 _ rfl; have y3 : ww.cell? ⟨b, o + i * 7 + 3, none⟩ = some (.int .i64 y.nd.2) := hS.at HYi.out 3 _ rfl; go_simp; try with_reducible rfl)
              refine tkW 8 (some 35) (v := ?_) ?_ hHeld ?_
              rotate_left
              · (intro ww _; go_simp; try with_reducible rfl)
              refine tkW 9 (some 36) (v := ?_) ?_ hHeld ?_
              rotate_left
              · (intro ww hSw; (try dsimp only at hSw); have hS := hSw; have x0 : ww.cell? ⟨b, o + k * 7, none⟩ = some (.int .i64 x.ts.1) := hS.at HXk.out 0 _ rfl; have x1 : ww.cell? ⟨b, o + k * 7 + 1, none⟩ = some (.int .i64 x.ts.2) := hS.at HXk.out 1 _ rfl; have x2 : ww.cell? ⟨b, o + k * 7 + 2, none⟩ = some (.int .i64 x.nd.1) := hS.at HXk.out 2 _ rfl; have x3 : ww.cell? ⟨b, o + k * 7 + 3, none⟩ = some (.int .i64 x.nd.2) := hS.at HXk.out 3 _ rfl; have y2 : ww.cell? ⟨b, o + i * 7 + 2, none⟩ = some (.int .i64 y.nd.1) := hS.at HYi.out 2 _ rfl; have y3 : ww.cell? ⟨b, o + i * 7 + 3, none⟩ = some (.int .i64 y.nd.2) := hS.at HYi.out 3 _ rfl; go_simp; try with_reducible rfl)
              refine tkW 10 (some 37) (v := .bool true) ?_ hHeld ?_
              · (intro ww hSw; (try dsimp only at hSw); have hS := hSw; have x0 : ww.cell? ⟨b, o + k * 7, none⟩ = some (.int .i64 x.ts.1) := hS.at HXk.out 0 _ rfl; have x1 : ww.cell? ⟨b, o + k * 7 + 1, none⟩ = some (.int .i64 x.ts.2) := hS.at HXk.out 1 _ rfl; have x2 : ww.cell? ⟨b, o + k * 7 + 2, none⟩ = some (.int .i64 x.nd.1) := hS.at HXk.out 2 _ rfl; have x3 : ww.cell? ⟨b, o + k * 7 + 3, none⟩ = some (.int .i64 x.nd.2) := hS.at HXk.out 3 _ rfl; have y2 : ww.cell? ⟨b, o + i * 7 + 2, none⟩ = some (.int .i64 y.nd.1) := hS.at HYi.out 2 _ rfl; have y3 : ww.cell? ⟨b, o + i * 7 + 3, none⟩ = some (.int .i64 y.nd.2) := hS.at HYi.out 3 _ rfl; have e1 := congrArg Prod.fst HXY.out; have e2 := congrArg Prod.snd HXY.out; go_simp; (try simp [e1, e2]))
              refine tkW 11 (some 38) (v := ?_) ?_ hHeld ?_
              rotate_left
              · (intro ww _; go_simp; try with_reducible rfl)
              refine tkW 12 (some 39) (v := ?_) ?_ hHeld ?_
              rotate_left
              · (intro ww _; go_simp; try with_reducible rfl)
              refine tkW 13 (some 40) (v := ?_) ?_ hHeld ?_
              rotate_left
              · (intro ww _; go_simp; try with_reducible rfl)
              refine tkW 14 (some 41) (v := ?_) ?_ hHeld ?_
              rotate_left
              · (intro ww _; go_simp; try with_reducible rfl)
              refine tkW 15 (some 42) (v := ?_) ?_ hHeld ?_
              rotate_left
              · (intro ww hSw; (try dsimp only at hSw); have hS := hSw; have x0 : ww.cell? ⟨b, o + k * 7, none⟩ = some (.int .i64 x.ts.1) := hS.at HXk.out 0 _ rfl; have x1 : ww.cell? ⟨b, o + k * 7 + 1, none⟩ = some (.int .i64 x.ts.2) := hS.at HXk.out 1 _ rfl; have x2 : ww.cell? ⟨b, o + k * 7 + 2, none⟩ = some (.int .i64 x.nd.1) := hS.at HXk.out 2 _ rfl; have x3 : ww.cell? ⟨b, o + k * 7 + 3, none⟩ = some (.int .i64 x.nd.2) := hS.at HXk.out 3 _ rfl; have y2 : ww.cell? ⟨b, o + i * 7 + 2, none⟩ = some (.int .i64 y.nd.1) := hS.at HYi.out 2 _ rfl; have y3 : ww.cell? ⟨b, o + i * 7 + 3, none⟩ = some (.int .i64 y.nd.2) := hS.at HYi.out 3 _ rfl; go_simp; try with_reducible rfl)
              refine tkW 16 (some 43) (v := ?_) ?_ hHeld ?_
              rotate_left
              · (intro ww _; go_simp; try with_reducible rfl)
              refine tkW 17 (some 44) (v := ?_) ?_ hHeld ?_
              rotate_left
              · (intro ww hSw; (try dsimp only at hSw); have hS := hSw; have x0 : ww.cell? ⟨b, o + k * 7, none⟩ = some (.int .i64 x.ts.1) := hS.at HXk.out 0 _ rfl; have x1 : ww.cell? ⟨b, o + k * 7 + 1, none⟩ = some (.int .i64 x.ts.2) := hS.at HXk.out 1 _ rfl; have x2 : ww.cell? ⟨b, o + k * 7 + 2, none⟩ = some (.int .i64 x.nd.1) := hS.at HXk.out 2 _ rfl; have x3 : ww.cell? ⟨b, o + k * 7 + 3, none⟩ = some (.int .i64 x.nd.2) := hS.at HXk.out 3 _ rfl; have y2 : ww.cell? ⟨b, o + i * 7 + 2, none⟩ = some (.int .i64 y.nd.1) := hS.at HYi.out 2 _ rfl; have y3 : ww.cell? ⟨b, o + i * 7 + 3, none⟩ = some (.int .i64 y.nd.2) := hS.at HYi.out 3 _ rfl; go_simp; try with_reducible rfl)
              refine wpAnyH_ready (rs := [18]) (by kernel_rfl) (by simp) ?_
              refine AllReadyH.cons (o := ⟨some 45, _, _, _, _, _⟩) rfl (fun K hK => ?_) AllReadyH.nil
              go_simp
              refine (counts_any F (.pointer (some ⟨tb, 0, none⟩)) L x.ts _ HL.out.md.tv HL.out.md.tr.lt).mono ?_
              rintro e Ua2u1 ⟨he, ha⟩
              rw [show cntS L x.ts = false from HCt.out] at he
              subst he
              (try go_wp2_with fail)
              replace HL : Hid (LaS w tb F (.slice (some ⟨b, o, none⟩) L.length c1) b o L Ua2u1) := HL.out.asked ha
              clear ha
              refine hK.out _ _ (HL.out) (fun hHeld2 => ?_)
              clear hK K hHeld
              have hHeld := hHeld2
              clear hHeld2
              (try simp only [Act.put, List.setIfInBounds_toArray, List.set_cons_zero, List.set_cons_succ])
              refine tkW 19 (some 46) (v := ?_) ?_ hHeld ?_
              rotate_left
              · (intro ww _; go_simp; try with_reducible rfl)
              refine wpAnyH_done (by kernel_rfl) ?_ _
              clear hHeld
              go_wp2
              go_roundw
              case rel => exact ⟨k + 1, by go_num, by omega, HL, HNx.out⟩
              case measure => simp [intOf]; omega
          · have HXY : Hid (x.nd ≠ y.nd) := hxy
            have HNx := Hid.out HLa |>.same (last_other HXk.out hxy)
            replace HNx : Hid (LaI L y.nd (k + 1) _) := HNx
            clear hxy HLa
            go_wp2_with fail
            refine wp_region_held_drew (S := fun W' => LaS w tb F (.slice (some ⟨b, o, none⟩) L.length c1) b o L W') (by kernel_rfl) HL.out.drew (fun hHeld => ?_)
            obtain ⟨Ua3u0, eW⟩ : ∃ X, X = wq.drew := ⟨_, rfl⟩
            have hb : Below wq.heap.size wq Ua3u0 := by rw [eW]; exact (Below.refl _ _).drew
            replace HL : Hid (LaS w tb F (.slice (some ⟨b, o, none⟩) L.length c1) b o L Ua3u0) := HL.out.below hb
            rw [← eW] at hHeld ⊢
            clear eW hb
            refine tkW 0 (some 27) (v := ?_) ?_ hHeld ?_
            rotate_left
            · (intro ww _; go_simp; try with_reducible rfl)
            refine tkW 1 (some 28) (v := ?_) ?_ hHeld ?_
            rotate_left
            · (intro ww _; go_simp; try with_reducible rfl)
            refine tkW 2 (some 29) (v := ?_) ?_ hHeld ?_
            rotate_left
            · (intro ww hSw; (try dsimp only at hSw); have hS := hSw; have x0 : ww.cell? ⟨b, o + k * 7, none⟩ = some (.int .i64 x.ts.1) := hS.at HXk.out 0 _ rfl; have x1 : ww.cell? ⟨b, o + k * 7 + 1, none⟩ = some (.int .i64 x.ts.2) := hS.at HXk.out 1 _ rfl; have x2 : ww.cell? ⟨b, o + k * 7 + 2, none⟩ = some (.int .i64 x.nd.1) := hS.at HXk.out 2 _ rfl; have x3 : ww.cell? ⟨b, o + k * 7 + 3, none⟩ = some (.int .i64 x.nd.2) := hS.at HXk.out 3 _ rfl; have y2 : ww.cell? ⟨b, o + i * 7 + 2, none⟩ = some (.int .i64 y.nd.1) := hS.at HYi.out 2 _ rfl; have y3 : ww.cell? ⟨b, o + i * 7 + 3, none⟩ = some (.int .i64 y.nd.2) := hS.at HYi.out 3 _ rfl; go_simp; try with_reducible rfl)
            refine tkW 3 (some 30) (v := ?_) ?_ hHeld ?_
            rotate_left
            · (intro ww _; go_simp; try with_reducible rfl)
            refine tkW 4 (some 31) (v := ?_) ?_ hHeld ?_
            rotate_left
            · (intro ww hSw; (try dsimp only at hSw); have hS := hSw; have x0 : ww.cell? ⟨b, o + k * 7, none⟩ = some (.int .i64 x.ts.1) := hS.at HXk.out 0 _ rfl; have x1 : ww.cell? ⟨b, o + k * 7 + 1, none⟩ = some (.int .i64 x.ts.2) := hS.at HXk.out 1 _ rfl; have x2 : ww.cell? ⟨b, o + k * 7 + 2, none⟩ = some (.int .i64 x.nd.1) := hS.at HXk.out 2 _ rfl; have x3 : ww.cell? ⟨b, o + k * 7 + 3, none⟩ = some (.int .i64 x.nd.2) := hS.at HXk.out 3 _ rfl; have y2 : ww.cell? ⟨b, o + i * 7 + 2, none⟩ = some (.int .i64 y.nd.1) := hS.at HYi.out 2 _ rfl; have y3 : ww.cell? ⟨b, o + i * 7 + 3, none⟩ = some (.int .i64 y.nd.2) := hS.at HYi.out 3 _ rfl; go_simp; try with_reducible rfl)
            refine tkW 5 (some 32) (v := ?_) ?_ hHeld ?_
            rotate_left
            · (intro ww _; go_simp; try with_reducible rfl)
            refine tkW 6 (some 33) (v := ?_) ?_ hHeld ?_
            rotate_left
            · (intro ww _; go_simp; try with_reducible rfl)
            refine tkW 7 (some 34) (v := ?_) ?_ hHeld ?_
            rotate_left
            · (intro ww hSw; (try dsimp only at hSw); have hS := hSw; have x0 : ww.cell? ⟨b, o + k * 7, none⟩ = some (.int .i64 x.ts.1) := hS.at HXk.out 0 _ rfl; have x1 : ww.cell? ⟨b, o + k * 7 + 1, none⟩ = some (.int .i64 x.ts.2) := hS.at HXk.out 1 _ rfl; have x2 : ww.cell? ⟨b, o + k * 7 + 2, none⟩ = some (.int .i64 x.nd.1) := hS.at HXk.out 2 _ rfl; have x3 : ww.cell? ⟨b, o + k * 7 + 3, none⟩ = some (.int .i64 x.nd.2) := hS.at HXk.out 3 _ rfl; have y2 : ww.cell? ⟨b, o + i * 7 + 2, none⟩ = some (.int .i64 y.nd.1) := hS.at HYi.out 2 _ rfl; have y3 : ww.cell? ⟨b, o + i * 7 + 3, none⟩ = some (.int .i64 y.nd.2) := hS.at HYi.out 3 _ rfl; go_simp; try with_reducible rfl)
            refine tkW 8 (some 35) (v := ?_) ?_ hHeld ?_
            rotate_left
            · (intro ww _; go_simp; try with_reducible rfl)
            refine tkW 9 (some 36) (v := ?_) ?_ hHeld ?_
            rotate_left
            · (intro ww hSw; (try dsimp only at hSw); have hS := hSw; have x0 : ww.cell? ⟨b, o + k * 7, none⟩ = some (.int .i64 x.ts.1) := hS.at HXk.out 0 _ rfl; have x1 : ww.cell? ⟨b, o + k * 7 + 1, none⟩ = some (.int .i64 x.ts.2) := hS.at HXk.out 1 _ rfl; have x2 : ww.cell? ⟨b, o + k * 7 + 2, none⟩ = some (.int .i64 x.nd.1) := hS.at HXk.out 2 _ rfl; have x3 : ww.cell? ⟨b, o + k * 7 + 3, none⟩ = some (.int .i64 x.nd.2) := hS.at HXk.out 3 _ rfl; have y2 : ww.cell? ⟨b, o + i * 7 + 2, none⟩ = some (.int .i64 y.nd.1) := hS.at HYi.out 2 _ rfl; have y3 : ww.cell? ⟨b, o + i * 7 + 3, none⟩ = some (.int .i64 y.nd.2) := hS.at HYi.out 3 _ rfl; go_simp; try with_reducible rfl)
            refine tkW 10 (some 37) (v := .bool false) ?_ hHeld ?_
            · (intro ww hSw; (try dsimp only at hSw); have hS := hSw; have x0 : ww.cell? ⟨b, o + k * 7, none⟩ = some (.int .i64 x.ts.1) := hS.at HXk.out 0 _ rfl; have x1 : ww.cell? ⟨b, o + k * 7 + 1, none⟩ = some (.int .i64 x.ts.2) := hS.at HXk.out 1 _ rfl; have x2 : ww.cell? ⟨b, o + k * 7 + 2, none⟩ = some (.int .i64 x.nd.1) := hS.at HXk.out 2 _ rfl; have x3 : ww.cell? ⟨b, o + k * 7 + 3, none⟩ = some (.int .i64 x.nd.2) := hS.at HXk.out 3 _ rfl; have y2 : ww.cell? ⟨b, o + i * 7 + 2, none⟩ = some (.int .i64 y.nd.1) := hS.at HYi.out 2 _ rfl; have y3 : ww.cell? ⟨b, o + i * 7 + 3, none⟩ = some (.int .i64 y.nd.2) := hS.at HYi.out 3 _ rfl; go_simp; by_cases e1 : x.nd.1 = y.nd.1 <;> by_cases e2 : x.nd.2 = y.nd.2 <;> first | exact absurd (Prod.ext e1 e2) HXY.out | simp [e1, e2])
            refine tkW 11 (some 38) (v := ?_) ?_ hHeld ?_
            rotate_left
            · (intro ww _; go_simp; try with_reducible rfl)
            refine tkU 12 (some 39) hHeld ?_
            refine tkU 13 (some 40) hHeld ?_
            refine tkU 14 (some 41) hHeld ?_
            refine tkU 15 (some 42) hHeld ?_
            refine tkU 16 (some 43) hHeld ?_
            refine tkU 17 (some 44) hHeld ?_
            refine tkU 18 (some 45) hHeld ?_
            refine tkW 19 (some 46) (v := ?_) ?_ hHeld ?_
            rotate_left
            · (intro ww _; go_simp; try with_reducible rfl)
            refine wpAnyH_done (by kernel_rfl) ?_ _
            clear hHeld
            go_wp2
            go_roundw
            case rel => exact ⟨k + 1, by go_num, by omega, HL, HNx.out⟩
            case measure => simp [intOf]; omega
        · obtain rfl : k = L.length := by omega
          clear HLa
          have y2 : wq.cell? ⟨b, o + i * 7 + 2, none⟩ = some (.int .i64 y.nd.1) := HL.out.at HYi.out 2 _ rfl
          have y3 : wq.cell? ⟨b, o + i * 7 + 3, none⟩ = some (.int .i64 y.nd.2) := HL.out.at HYi.out 3 _ rfl
          rcases hla with ⟨rfl, hwh⟩ | ⟨q, z, hqk, rfl, hz, hwh⟩
          · have HWh : Hid (whT (doneT L) y.nd = none) := by (rw [List.take_length] at hwh; exact hwh)
            clear hwh
            go_wp2_with fail
            clear y2 y3
            refine (where_any F (.pointer (some ⟨tb, 0, none⟩)) L y.nd _ HL.out.md.tv HL.out.md.tr.lt).mono ?_
            rintro e w6 ⟨he, ha⟩
            rw [HWh.out] at he
            have he2 : e = .returned (.tuple #[.agg #[.int .i64 0, .int .i64 0, .int .i64 0, .int .i64 0, .int .i64 0, .int .i64 0], .bool false]) := he
            subst he2
            clear he
            replace HL : Hid (LaS w tb F (.slice (some ⟨b, o, none⟩) L.length c1) b o L w6) := HL.out.asked ha
            clear ha
            obtain ⟨w7, ew7⟩ : ∃ X, X = w6.alloc (.cells #[.int .i64 0, .int .i64 0, .int .i64 0, .int .i64 0, .int .i64 0, .int .i64 0] 43) := ⟨_, rfl⟩
            obtain ⟨pb, epb⟩ : ∃ b, b = w6.heap.size := ⟨_, rfl⟩
            have hb7 : Below w6.heap.size w6 w7 := by rw [ew7]; exact (Below.refl _ _).alloc (Nat.le_refl _) _
            replace HL : Hid (LaS w tb F (.slice (some ⟨b, o, none⟩) L.length c1) b o L w7) := HL.out.below hb7
            have HP : Hid (w7.heap[pb]? = some (.cells #[.int .i64 0, .int .i64 0, .int .i64 0, .int .i64 0, .int .i64 0, .int .i64 0] 43)) := by (rw [epb, ew7]; exact heap_alloc_new _ _)
            have HeW : Hid (w7 = w6.alloc (.cells #[.int .i64 0, .int .i64 0, .int .i64 0, .int .i64 0, .int .i64 0, .int .i64 0] 43)) := ew7
            have HeP : Hid (pb = w6.heap.size) := epb
            clear hb7 ew7 epb
            go_wp2_with fail
            rw [← HeW.out, ← HeP.out]
            clear HeW HeP
            refine wp_region_held_drew (S := fun W' => LaS w tb F (.slice (some ⟨b, o, none⟩) L.length c1) b o L W' ∧ W'.heap[pb]? = some (.cells #[.int .i64 0, .int .i64 0, .int .i64 0, .int .i64 0, .int .i64 0, .int .i64 0] 43)) (by kernel_rfl) ⟨HL.out.drew, HP.out⟩ (fun hHeld => ?_)
            obtain ⟨Ub4u0, eW⟩ : ∃ X, X = w7.drew := ⟨_, rfl⟩
            have hb : Below w7.heap.size w7 Ub4u0 := by rw [eW]; exact (Below.refl _ _).drew
            replace HL : Hid (LaS w tb F (.slice (some ⟨b, o, none⟩) L.length c1) b o L Ub4u0) := HL.out.below hb
            replace HP : Hid (Ub4u0.heap[pb]? = some (.cells #[.int .i64 0, .int .i64 0, .int .i64 0, .int .i64 0, .int .i64 0, .int .i64 0] 43)) := (hb.block _ (row_lt HP.out)).trans HP.out
            rw [← eW] at hHeld ⊢
            clear eW hb
            refine tkW 0 (some 58) (v := ?_) ?_ hHeld ?_
            rotate_left
            · (intro ww _; go_simp; try with_reducible rfl)
            refine tkW 1 (some 59) (v := ?_) ?_ hHeld ?_
            rotate_left
            · (intro ww hSw; (try dsimp only at hSw); obtain ⟨hS, hP⟩ := hSw; have g0 : ww.cell? ⟨pb, 0, none⟩ = some (.int .i64 0) := cellP hP 0 _ rfl; have g1 : ww.cell? ⟨pb, 1, none⟩ = some (.int .i64 0) := cellP hP 1 _ rfl; have g2 : ww.cell? ⟨pb, 2, none⟩ = some (.int .i64 0) := cellP hP 2 _ rfl; have g3 : ww.cell? ⟨pb, 3, none⟩ = some (.int .i64 0) := cellP hP 3 _ rfl; have g4 : ww.cell? ⟨pb, 4, none⟩ = some (.int .i64 0) := cellP hP 4 _ rfl; have g5 : ww.cell? ⟨pb, 5, none⟩ = some (.int .i64 0) := cellP hP 5 _ rfl; go_simp; try with_reducible rfl)
            refine tkW 2 (some 60) (v := ?_) ?_ hHeld ?_
            rotate_left
            · (intro ww _; go_simp; try with_reducible rfl)
            refine tkW 3 (some 61) (v := ?_) ?_ hHeld ?_
            rotate_left
            · (intro ww _; go_simp; try with_reducible rfl)
            refine tkW 4 (some 62) (v := ?_) ?_ hHeld ?_
            rotate_left
            · (intro ww _; go_simp; try with_reducible rfl)
            refine tkW 5 (some 63) (v := ?_) ?_ hHeld ?_
            rotate_left
            · (intro ww _; go_simp; try with_reducible rfl)
            refine tkW 6 (some 64) (v := ?_) ?_ hHeld ?_
            rotate_left
            · (intro ww _; go_simp; try with_reducible rfl)
            refine tkW 7 (some 65) (v := ?_) ?_ hHeld ?_
            rotate_left
            · (intro ww hSw; (try dsimp only at hSw); obtain ⟨hS, hP⟩ := hSw; have g0 : ww.cell? ⟨pb, 0, none⟩ = some (.int .i64 0) := cellP hP 0 _ rfl; have g1 : ww.cell? ⟨pb, 1, none⟩ = some (.int .i64 0) := cellP hP 1 _ rfl; have g2 : ww.cell? ⟨pb, 2, none⟩ = some (.int .i64 0) := cellP hP 2 _ rfl; have g3 : ww.cell? ⟨pb, 3, none⟩ = some (.int .i64 0) := cellP hP 3 _ rfl; have g4 : ww.cell? ⟨pb, 4, none⟩ = some (.int .i64 0) := cellP hP 4 _ rfl; have g5 : ww.cell? ⟨pb, 5, none⟩ = some (.int .i64 0) := cellP hP 5 _ rfl; go_simp; try with_reducible rfl)
            refine tkW 8 (some 66) (v := ?_) ?_ hHeld ?_
            rotate_left
            · (intro ww _; go_simp; try with_reducible rfl)
            refine tkU 9 (some 67) hHeld ?_
            refine tkU 10 (some 68) hHeld ?_
            refine tkU 11 (some 69) hHeld ?_
            refine tkU 12 (some 70) hHeld ?_
            refine tkU 13 (some 71) hHeld ?_
            refine tkU 14 (some 72) hHeld ?_
            refine tkU 15 (some 73) hHeld ?_
            refine tkU 16 (some 74) hHeld ?_
            refine tkU 17 (some 75) hHeld ?_
            refine tkU 18 (some 76) hHeld ?_
            refine tkU 19 (some 77) hHeld ?_
            refine tkU 20 (some 78) hHeld ?_
            refine tkU 21 (some 79) hHeld ?_
            refine tkU 22 (some 80) hHeld ?_
            refine tkU 23 (some 81) hHeld ?_
            refine tkU 24 (some 82) hHeld ?_
            refine tkU 25 (some 83) hHeld ?_
            refine tkU 26 (some 84) hHeld ?_
            refine tkU 27 (some 85) hHeld ?_
            refine tkU 28 (some 86) hHeld ?_
            refine tkU 29 (some 87) hHeld ?_
            refine tkU 30 (some 88) hHeld ?_
            refine tkW 31 (some 89) (v := ?_) ?_ hHeld ?_
            rotate_left
            · (intro ww _; go_simp; try with_reducible rfl)
            refine tkW 32 (some 90) (v := ?_) ?_ hHeld ?_
            rotate_left
            · (intro ww _; go_simp; try with_reducible rfl)
            refine wpAnyH_done (by kernel_rfl) ?_ _
            clear hHeld
            go_wp2
            go_roundw
            case rel => exact ⟨i + 1, by go_num, by omega, HL.out.md⟩
            case measure => simp [intOf]; omega
          · have HWh : Hid (whT (doneT L) y.nd = some (plOf z)) := by (rw [List.take_length] at hwh; exact hwh)
            have HZq : Hid (L[q]? = some z) := hz
            have q1 : (q : Int) < (L.length : Int) := by omega
            have q0 : (0 : Int) ≤ (q : Int) := by omega
            have q2 : ¬ (q : Int) < 0 := by omega
            clear hwh hz
            go_wp2_with fail
            clear y2 y3
            refine (where_any F (.pointer (some ⟨tb, 0, none⟩)) L y.nd _ HL.out.md.tv HL.out.md.tr.lt).mono ?_
            rintro e w6 ⟨he, ha⟩
            rw [HWh.out] at he
            have hpv : plOf z = ⟨y.nd, z.pr, z.ts⟩ := by (have h9 := (whT_some HWh.out).2; unfold plOf at h9 ⊢; dsimp only at h9; rw [h9])
            rw [hpv] at he
            clear hpv
            have he2 : e = .returned (.tuple #[.agg #[.int .i64 y.nd.1, .int .i64 y.nd.2, .int .i64 z.pr.1, .int .i64 z.pr.2, .int .i64 z.ts.1, .int .i64 z.ts.2], .bool true]) := he
            subst he2
            clear he
            replace HL : Hid (LaS w tb F (.slice (some ⟨b, o, none⟩) L.length c1) b o L w6) := HL.out.asked ha
            clear ha
            obtain ⟨w7, ew7⟩ : ∃ X, X = w6.alloc (.cells #[.int .i64 y.nd.1, .int .i64 y.nd.2, .int .i64 z.pr.1, .int .i64 z.pr.2, .int .i64 z.ts.1, .int .i64 z.ts.2] 43) := ⟨_, rfl⟩
            obtain ⟨pb, epb⟩ : ∃ b, b = w6.heap.size := ⟨_, rfl⟩
            have hb7 : Below w6.heap.size w6 w7 := by rw [ew7]; exact (Below.refl _ _).alloc (Nat.le_refl _) _
            replace HL : Hid (LaS w tb F (.slice (some ⟨b, o, none⟩) L.length c1) b o L w7) := HL.out.below hb7
            have HP : Hid (w7.heap[pb]? = some (.cells #[.int .i64 y.nd.1, .int .i64 y.nd.2, .int .i64 z.pr.1, .int .i64 z.pr.2, .int .i64 z.ts.1, .int .i64 z.ts.2] 43)) := by (rw [epb, ew7]; exact heap_alloc_new _ _)
            have HeW : Hid (w7 = w6.alloc (.cells #[.int .i64 y.nd.1, .int .i64 y.nd.2, .int .i64 z.pr.1, .int .i64 z.pr.2, .int .i64 z.ts.1, .int .i64 z.ts.2] 43)) := ew7
            have HeP : Hid (pb = w6.heap.size) := epb
            clear hb7 ew7 epb
            go_wp2_with fail
            rw [← HeW.out, ← HeP.out]
            clear HeW HeP
            refine wp_region_held_drew (S := fun W' => LaS w tb F (.slice (some ⟨b, o, none⟩) L.length c1) b o L W' ∧ W'.heap[pb]? = some (.cells #[.int .i64 y.nd.1, .int .i64 y.nd.2, .int .i64 z.pr.1, .int .i64 z.pr.2, .int .i64 z.ts.1, .int .i64 z.ts.2] 43)) (by kernel_rfl) ⟨HL.out.drew, HP.out⟩ (fun hHeld => ?_)
            obtain ⟨Ub5u0, eW⟩ : ∃ X, X = w7.drew := ⟨_, rfl⟩
            have hb : Below w7.heap.size w7 Ub5u0 := by rw [eW]; exact (Below.refl _ _).drew
            replace HL : Hid (LaS w tb F (.slice (some ⟨b, o, none⟩) L.length c1) b o L Ub5u0) := HL.out.below hb
            replace HP : Hid (Ub5u0.heap[pb]? = some (.cells #[.int .i64 y.nd.1, .int .i64 y.nd.2, .int .i64 z.pr.1, .int .i64 z.pr.2, .int .i64 z.ts.1, .int .i64 z.ts.2] 43)) := (hb.block _ (row_lt HP.out)).trans HP.out
            rw [← eW] at hHeld ⊢
            clear eW hb
            refine tkW 0 (some 58) (v := ?_) ?_ hHeld ?_
            rotate_left
            · (intro ww _; go_simp; try with_reducible rfl)
            refine tkW 1 (some 59) (v := .bool false) ?_ hHeld ?_
            · (intro ww hSw; (try dsimp only at hSw); obtain ⟨hS, hP⟩ := hSw; have y2 : ww.cell? ⟨b, o + i * 7 + 2, none⟩ = some (.int .i64 y.nd.1) := hS.at HYi.out 2 _ rfl; have y3 : ww.cell? ⟨b, o + i * 7 + 3, none⟩ = some (.int .i64 y.nd.2) := hS.at HYi.out 3 _ rfl; have z0 : ww.cell? ⟨b, o + q * 7, none⟩ = some (.int .i64 z.ts.1) := hS.at HZq.out 0 _ rfl; have z1 : ww.cell? ⟨b, o + q * 7 + 1, none⟩ = some (.int .i64 z.ts.2) := hS.at HZq.out 1 _ rfl; have z4 : ww.cell? ⟨b, o + q * 7 + 4, none⟩ = some (.int .i64 z.pr.1) := hS.at HZq.out 4 _ rfl; have z5 : ww.cell? ⟨b, o + q * 7 + 5, none⟩ = some (.int .i64 z.pr.2) := hS.at HZq.out 5 _ rfl; have g0 : ww.cell? ⟨pb, 0, none⟩ = some (.int .i64 y.nd.1) := cellP hP 0 _ rfl; have g1 : ww.cell? ⟨pb, 1, none⟩ = some (.int .i64 y.nd.2) := cellP hP 1 _ rfl; have g2 : ww.cell? ⟨pb, 2, none⟩ = some (.int .i64 z.pr.1) := cellP hP 2 _ rfl; have g3 : ww.cell? ⟨pb, 3, none⟩ = some (.int .i64 z.pr.2) := cellP hP 3 _ rfl; have g4 : ww.cell? ⟨pb, 4, none⟩ = some (.int .i64 z.ts.1) := cellP hP 4 _ rfl; have g5 : ww.cell? ⟨pb, 5, none⟩ = some (.int .i64 z.ts.2) := cellP hP 5 _ rfl; go_simp; (try simp); (try omega))
            refine tkW 2 (some 60) (v := ?_) ?_ hHeld ?_
            rotate_left
            · (intro ww _; go_simp; try with_reducible rfl)
            refine tkU 3 (some 61) hHeld ?_
            refine tkW 4 (some 62) (v := ?_) ?_ hHeld ?_
            rotate_left
            · (intro ww _; go_simp; try with_reducible rfl)
            refine tkW 5 (some 63) (v := ?_) ?_ hHeld ?_
            rotate_left
            · (intro ww _; go_simp; try with_reducible rfl)
            refine tkW 6 (some 64) (v := ?_) ?_ hHeld ?_
            rotate_left
            · (intro ww _; go_simp; try with_reducible rfl)
            refine tkW 7 (some 65) (v := .bool true) ?_ hHeld ?_
            · (intro ww hSw; (try dsimp only at hSw); obtain ⟨hS, hP⟩ := hSw; have y2 : ww.cell? ⟨b, o + i * 7 + 2, none⟩ = some (.int .i64 y.nd.1) := hS.at HYi.out 2 _ rfl; have y3 : ww.cell? ⟨b, o + i * 7 + 3, none⟩ = some (.int .i64 y.nd.2) := hS.at HYi.out 3 _ rfl; have z0 : ww.cell? ⟨b, o + q * 7, none⟩ = some (.int .i64 z.ts.1) := hS.at HZq.out 0 _ rfl; have z1 : ww.cell? ⟨b, o + q * 7 + 1, none⟩ = some (.int .i64 z.ts.2) := hS.at HZq.out 1 _ rfl; have z4 : ww.cell? ⟨b, o + q * 7 + 4, none⟩ = some (.int .i64 z.pr.1) := hS.at HZq.out 4 _ rfl; have z5 : ww.cell? ⟨b, o + q * 7 + 5, none⟩ = some (.int .i64 z.pr.2) := hS.at HZq.out 5 _ rfl; have g0 : ww.cell? ⟨pb, 0, none⟩ = some (.int .i64 y.nd.1) := cellP hP 0 _ rfl; have g1 : ww.cell? ⟨pb, 1, none⟩ = some (.int .i64 y.nd.2) := cellP hP 1 _ rfl; have g2 : ww.cell? ⟨pb, 2, none⟩ = some (.int .i64 z.pr.1) := cellP hP 2 _ rfl; have g3 : ww.cell? ⟨pb, 3, none⟩ = some (.int .i64 z.pr.2) := cellP hP 3 _ rfl; have g4 : ww.cell? ⟨pb, 4, none⟩ = some (.int .i64 z.ts.1) := cellP hP 4 _ rfl; have g5 : ww.cell? ⟨pb, 5, none⟩ = some (.int .i64 z.ts.2) := cellP hP 5 _ rfl; go_simp; (try simp); (try omega))
            refine tkW 8 (some 66) (v := ?_) ?_ hHeld ?_
            rotate_left
            · (intro ww _; go_simp; try with_reducible rfl)
            refine tkW 9 (some 67) (v := ?_) ?_ hHeld ?_
            rotate_left
            · (intro ww _; go_simp; try with_reducible rfl)
            refine tkW 10 (some 68) (v := ?_) ?_ hHeld ?_
            rotate_left
            · (intro ww _; go_simp; try with_reducible rfl)
            refine tkW 11 (some 69) (v := ?_) ?_ hHeld ?_
            rotate_left
            · (intro ww _; go_simp; try with_reducible rfl)
            refine tkW 12 (some 70) (v := ?_) ?_ hHeld ?_
            rotate_left
            · (intro ww hSw; (try dsimp only at hSw); obtain ⟨hS, hP⟩ := hSw; have y2 : ww.cell? ⟨b, o + i * 7 + 2, none⟩ = some (.int .i64 y.nd.1) := hS.at HYi.out 2 _ rfl; have y3 : ww.cell? ⟨b, o + i * 7 + 3, none⟩ = some (.int .i64 y.nd.2) := hS.at HYi.out 3 _ rfl; have z0 : ww.cell? ⟨b, o + q * 7, none⟩ = some (.int .i64 z.ts.1) := hS.at HZq.out 0 _ rfl; have z1 : ww.cell? ⟨b, o + q * 7 + 1, none⟩ = some (.int .i64 z.ts.2) := hS.at HZq.out 1 _ rfl; have z4 : ww.cell? ⟨b, o + q * 7 + 4, none⟩ = some (.int .i64 z.pr.1) := hS.at HZq.out 4 _ rfl; have z5 : ww.cell? ⟨b, o + q * 7 + 5, none⟩ = some (.int .i64 z.pr.2) := hS.at HZq.out 5 _ rfl; have g0 : ww.cell? ⟨pb, 0, none⟩ = some (.int .i64 y.nd.1) := cellP hP 0 _ rfl; have g1 : ww.cell? ⟨pb, 1, none⟩ = some (.int .i64 y.nd.2) := cellP hP 1 _ rfl; have g2 : ww.cell? ⟨pb, 2, none⟩ = some (.int .i64 z.pr.1) := cellP hP 2 _ rfl; have g3 : ww.cell? ⟨pb, 3, none⟩ = some (.int .i64 z.pr.2) := cellP hP 3 _ rfl; have g4 : ww.cell? ⟨pb, 4, none⟩ = some (.int .i64 z.ts.1) := cellP hP 4 _ rfl; have g5 : ww.cell? ⟨pb, 5, none⟩ = some (.int .i64 z.ts.2) := cellP hP 5 _ rfl; go_simp; try with_reducible rfl)
            refine tkW 13 (some 71) (v := ?_) ?_ hHeld ?_
            rotate_left
            · (intro ww _; go_simp; try with_reducible rfl)
            refine tkW 14 (some 72) (v := ?_) ?_ hHeld ?_
            rotate_left
            · (intro ww _; go_simp; try with_reducible rfl)
            refine tkW 15 (some 73) (v := ?_) ?_ hHeld ?_
            rotate_left
            · (intro ww hSw; (try dsimp only at hSw); obtain ⟨hS, hP⟩ := hSw; have y2 : ww.cell? ⟨b, o + i * 7 + 2, none⟩ = some (.int .i64 y.nd.1) := hS.at HYi.out 2 _ rfl; have y3 : ww.cell? ⟨b, o + i * 7 + 3, none⟩ = some (.int .i64 y.nd.2) := hS.at HYi.out 3 _ rfl; have z0 : ww.cell? ⟨b, o + q * 7, none⟩ = some (.int .i64 z.ts.1) := hS.at HZq.out 0 _ rfl; have z1 : ww.cell? ⟨b, o + q * 7 + 1, none⟩ = some (.int .i64 z.ts.2) := hS.at HZq.out 1 _ rfl; have z4 : ww.cell? ⟨b, o + q * 7 + 4, none⟩ = some (.int .i64 z.pr.1) := hS.at HZq.out 4 _ rfl; have z5 : ww.cell? ⟨b, o + q * 7 + 5, none⟩ = some (.int .i64 z.pr.2) := hS.at HZq.out 5 _ rfl; have g0 : ww.cell? ⟨pb, 0, none⟩ = some (.int .i64 y.nd.1) := cellP hP 0 _ rfl; have g1 : ww.cell? ⟨pb, 1, none⟩ = some (.int .i64 y.nd.2) := cellP hP 1 _ rfl; have g2 : ww.cell? ⟨pb, 2, none⟩ = some (.int .i64 z.pr.1) := cellP hP 2 _ rfl; have g3 : ww.cell? ⟨pb, 3, none⟩ = some (.int .i64 z.pr.2) := cellP hP 3 _ rfl; have g4 : ww.cell? ⟨pb, 4, none⟩ = some (.int .i64 z.ts.1) := cellP hP 4 _ rfl; have g5 : ww.cell? ⟨pb, 5, none⟩ = some (.int .i64 z.ts.2) := cellP hP 5 _ rfl; go_simp; try with_reducible rfl)
            refine tkW 16 (some 74) (v := ?_) ?_ hHeld ?_
            rotate_left
            · (intro ww _; go_simp; try with_reducible rfl)
            refine tkW 17 (some 75) (v := ?_) ?_ hHeld ?_
            rotate_left
            · (intro ww hSw; (try dsimp only at hSw); obtain ⟨hS, hP⟩ := hSw; have y2 : ww.cell? ⟨b, o + i * 7 + 2, none⟩ = some (.int .i64 y.nd.1) := hS.at HYi.out 2 _ rfl; have y3 : ww.cell? ⟨b, o + i * 7 + 3, none⟩ = some (.int .i64 y.nd.2) := hS.at HYi.out 3 _ rfl; have z0 : ww.cell? ⟨b, o + q * 7, none⟩ = some (.int .i64 z.ts.1) := hS.at HZq.out 0 _ rfl; have z1 : ww.cell? ⟨b, o + q * 7 + 1, none⟩ = some (.int .i64 z.ts.2) := hS.at HZq.out 1 _ rfl; have z4 : ww.cell? ⟨b, o + q * 7 + 4, none⟩ = some (.int .i64 z.pr.1) := hS.at HZq.out 4 _ rfl; have z5 : ww.cell? ⟨b, o + q * 7 + 5, none⟩ = some (.int .i64 z.pr.2) := hS.at HZq.out 5 _ rfl; have g0 : ww.cell? ⟨pb, 0, none⟩ = some (.int .i64 y.nd.1) := cellP hP 0 _ rfl; have g1 : ww.cell? ⟨pb, 1, none⟩ = some (.int .i64 y.nd.2) := cellP hP 1 _ rfl; have g2 : ww.cell? ⟨pb, 2, none⟩ = some (.int .i64 z.pr.1) := cellP hP 2 _ rfl; have g3 : ww.cell? ⟨pb, 3, none⟩ = some (.int .i64 z.pr.2) := cellP hP 3 _ rfl; have g4 : ww.cell? ⟨pb, 4, none⟩ = some (.int .i64 z.ts.1) := cellP hP 4 _ rfl; have g5 : ww.cell? ⟨pb, 5, none⟩ = some (.int .i64 z.ts.2) := cellP hP 5 _ rfl; go_simp; try with_reducible rfl)
            refine tkW 18 (some 76) (v := ?_) ?_ hHeld ?_
            rotate_left
            · (intro ww _; go_simp; try with_reducible rfl)
            refine tkW 19 (some 77) (v := ?_) ?_ hHeld ?_
            rotate_left
            · (intro ww _; go_simp; try with_reducible rfl)
            refine tkW 20 (some 78) (v := ?_) ?_ hHeld ?_
            rotate_left
            · (intro ww hSw; (try dsimp only at hSw); obtain ⟨hS, hP⟩ := hSw; have y2 : ww.cell? ⟨b, o + i * 7 + 2, none⟩ = some (.int .i64 y.nd.1) := hS.at HYi.out 2 _ rfl; have y3 : ww.cell? ⟨b, o + i * 7 + 3, none⟩ = some (.int .i64 y.nd.2) := hS.at HYi.out 3 _ rfl; have z0 : ww.cell? ⟨b, o + q * 7, none⟩ = some (.int .i64 z.ts.1) := hS.at HZq.out 0 _ rfl; have z1 : ww.cell? ⟨b, o + q * 7 + 1, none⟩ = some (.int .i64 z.ts.2) := hS.at HZq.out 1 _ rfl; have z4 : ww.cell? ⟨b, o + q * 7 + 4, none⟩ = some (.int .i64 z.pr.1) := hS.at HZq.out 4 _ rfl; have z5 : ww.cell? ⟨b, o + q * 7 + 5, none⟩ = some (.int .i64 z.pr.2) := hS.at HZq.out 5 _ rfl; have g0 : ww.cell? ⟨pb, 0, none⟩ = some (.int .i64 y.nd.1) := cellP hP 0 _ rfl; have g1 : ww.cell? ⟨pb, 1, none⟩ = some (.int .i64 y.nd.2) := cellP hP 1 _ rfl; have g2 : ww.cell? ⟨pb, 2, none⟩ = some (.int .i64 z.pr.1) := cellP hP 2 _ rfl; have g3 : ww.cell? ⟨pb, 3, none⟩ = some (.int .i64 z.pr.2) := cellP hP 3 _ rfl; have g4 : ww.cell? ⟨pb, 4, none⟩ = some (.int .i64 z.ts.1) := cellP hP 4 _ rfl; have g5 : ww.cell? ⟨pb, 5, none⟩ = some (.int .i64 z.ts.2) := cellP hP 5 _ rfl; go_simp; try with_reducible rfl)
            refine tkW 21 (some 79) (v := ?_) ?_ hHeld ?_
            rotate_left
            · (intro ww _; go_simp; try with_reducible rfl)
            refine tkW 22 (some 80) (v := ?_) ?_ hHeld ?_
            rotate_left
            · (intro ww hSw; (try dsimp only at hSw); obtain ⟨hS, hP⟩ := hSw; have y2 : ww.cell? ⟨b, o + i * 7 + 2, none⟩ = some (.int .i64 y.nd.1) := hS.at HYi.out 2 _ rfl; have y3 : ww.cell? ⟨b, o + i * 7 + 3, none⟩ = some (.int .i64 y.nd.2) := hS.at HYi.out 3 _ rfl; have z0 : ww.cell? ⟨b, o + q * 7, none⟩ = some (.int .i64 z.ts.1) := hS.at HZq.out 0 _ rfl; have z1 : ww.cell? ⟨b, o + q * 7 + 1, none⟩ = some (.int .i64 z.ts.2) := hS.at HZq.out 1 _ rfl; have z4 : ww.cell? ⟨b, o + q * 7 + 4, none⟩ = some (.int .i64 z.pr.1) := hS.at HZq.out 4 _ rfl; have z5 : ww.cell? ⟨b, o + q * 7 + 5, none⟩ = some (.int .i64 z.pr.2) := hS.at HZq.out 5 _ rfl; have g0 : ww.cell? ⟨pb, 0, none⟩ = some (.int .i64 y.nd.1) := cellP hP 0 _ rfl; have g1 : ww.cell? ⟨pb, 1, none⟩ = some (.int .i64 y.nd.2) := cellP hP 1 _ rfl; have g2 : ww.cell? ⟨pb, 2, none⟩ = some (.int .i64 z.pr.1) := cellP hP 2 _ rfl; have g3 : ww.cell? ⟨pb, 3, none⟩ = some (.int .i64 z.pr.2) := cellP hP 3 _ rfl; have g4 : ww.cell? ⟨pb, 4, none⟩ = some (.int .i64 z.ts.1) := cellP hP 4 _ rfl; have g5 : ww.cell? ⟨pb, 5, none⟩ = some (.int .i64 z.ts.2) := cellP hP 5 _ rfl; go_simp; try with_reducible rfl)
            refine tkW 23 (some 81) (v := ?_) ?_ hHeld ?_
            rotate_left
            · (intro ww _; go_simp; try with_reducible rfl)
            refine tkW 24 (some 82) (v := ?_) ?_ hHeld ?_
            rotate_left
            · (intro ww _; go_simp; try with_reducible rfl)
            refine tkW 25 (some 83) (v := ?_) ?_ hHeld ?_
            rotate_left
            · (intro ww hSw; (try dsimp only at hSw); obtain ⟨hS, hP⟩ := hSw; have y2 : ww.cell? ⟨b, o + i * 7 + 2, none⟩ = some (.int .i64 y.nd.1) := hS.at HYi.out 2 _ rfl; have y3 : ww.cell? ⟨b, o + i * 7 + 3, none⟩ = some (.int .i64 y.nd.2) := hS.at HYi.out 3 _ rfl; have z0 : ww.cell? ⟨b, o + q * 7, none⟩ = some (.int .i64 z.ts.1) := hS.at HZq.out 0 _ rfl; have z1 : ww.cell? ⟨b, o + q * 7 + 1, none⟩ = some (.int .i64 z.ts.2) := hS.at HZq.out 1 _ rfl; have z4 : ww.cell? ⟨b, o + q * 7 + 4, none⟩ = some (.int .i64 z.pr.1) := hS.at HZq.out 4 _ rfl; have z5 : ww.cell? ⟨b, o + q * 7 + 5, none⟩ = some (.int .i64 z.pr.2) := hS.at HZq.out 5 _ rfl; have g0 : ww.cell? ⟨pb, 0, none⟩ = some (.int .i64 y.nd.1) := cellP hP 0 _ rfl; have g1 : ww.cell? ⟨pb, 1, none⟩ = some (.int .i64 y.nd.2) := cellP hP 1 _ rfl; have g2 : ww.cell? ⟨pb, 2, none⟩ = some (.int .i64 z.pr.1) := cellP hP 2 _ rfl; have g3 : ww.cell? ⟨pb, 3, none⟩ = some (.int .i64 z.pr.2) := cellP hP 3 _ rfl; have g4 : ww.cell? ⟨pb, 4, none⟩ = some (.int .i64 z.ts.1) := cellP hP 4 _ rfl; have g5 : ww.cell? ⟨pb, 5, none⟩ = some (.int .i64 z.ts.2) := cellP hP 5 _ rfl; go_simp; try with_reducible rfl)
            refine tkW 26 (some 84) (v := ?_) ?_ hHeld ?_
            rotate_left
            · (intro ww _; go_simp; try with_reducible rfl)
            refine tkW 27 (some 85) (v := ?_) ?_ hHeld ?_
            rotate_left
            · (intro ww hSw; (try dsimp only at hSw); obtain ⟨hS, hP⟩ := hSw; have y2 : ww.cell? ⟨b, o + i * 7 + 2, none⟩ = some (.int .i64 y.nd.1) := hS.at HYi.out 2 _ rfl; have y3 : ww.cell? ⟨b, o + i * 7 + 3, none⟩ = some (.int .i64 y.nd.2) := hS.at HYi.out 3 _ rfl; have z0 : ww.cell? ⟨b, o + q * 7, none⟩ = some (.int .i64 z.ts.1) := hS.at HZq.out 0 _ rfl; have z1 : ww.cell? ⟨b, o + q * 7 + 1, none⟩ = some (.int .i64 z.ts.2) := hS.at HZq.out 1 _ rfl; have z4 : ww.cell? ⟨b, o + q * 7 + 4, none⟩ = some (.int .i64 z.pr.1) := hS.at HZq.out 4 _ rfl; have z5 : ww.cell? ⟨b, o + q * 7 + 5, none⟩ = some (.int .i64 z.pr.2) := hS.at HZq.out 5 _ rfl; have g0 : ww.cell? ⟨pb, 0, none⟩ = some (.int .i64 y.nd.1) := cellP hP 0 _ rfl; have g1 : ww.cell? ⟨pb, 1, none⟩ = some (.int .i64 y.nd.2) := cellP hP 1 _ rfl; have g2 : ww.cell? ⟨pb, 2, none⟩ = some (.int .i64 z.pr.1) := cellP hP 2 _ rfl; have g3 : ww.cell? ⟨pb, 3, none⟩ = some (.int .i64 z.pr.2) := cellP hP 3 _ rfl; have g4 : ww.cell? ⟨pb, 4, none⟩ = some (.int .i64 z.ts.1) := cellP hP 4 _ rfl; have g5 : ww.cell? ⟨pb, 5, none⟩ = some (.int .i64 z.ts.2) := cellP hP 5 _ rfl; go_simp; try with_reducible rfl)
            refine tkW 28 (some 86) (v := ?_) ?_ hHeld ?_
            rotate_left
            · (intro ww hSw; (try dsimp only at hSw); obtain ⟨hS, hP⟩ := hSw; have y2 : ww.cell? ⟨b, o + i * 7 + 2, none⟩ = some (.int .i64 y.nd.1) := hS.at HYi.out 2 _ rfl; have y3 : ww.cell? ⟨b, o + i * 7 + 3, none⟩ = some (.int .i64 y.nd.2) := hS.at HYi.out 3 _ rfl; have z0 : ww.cell? ⟨b, o + q * 7, none⟩ = some (.int .i64 z.ts.1) := hS.at HZq.out 0 _ rfl; have z1 : ww.cell? ⟨b, o + q * 7 + 1, none⟩ = some (.int .i64 z.ts.2) := hS.at HZq.out 1 _ rfl; have z4 : ww.cell? ⟨b, o + q * 7 + 4, none⟩ = some (.int .i64 z.pr.1) := hS.at HZq.out 4 _ rfl; have z5 : ww.cell? ⟨b, o + q * 7 + 5, none⟩ = some (.int .i64 z.pr.2) := hS.at HZq.out 5 _ rfl; have g0 : ww.cell? ⟨pb, 0, none⟩ = some (.int .i64 y.nd.1) := cellP hP 0 _ rfl; have g1 : ww.cell? ⟨pb, 1, none⟩ = some (.int .i64 y.nd.2) := cellP hP 1 _ rfl; have g2 : ww.cell? ⟨pb, 2, none⟩ = some (.int .i64 z.pr.1) := cellP hP 2 _ rfl; have g3 : ww.cell? ⟨pb, 3, none⟩ = some (.int .i64 z.pr.2) := cellP hP 3 _ rfl; have g4 : ww.cell? ⟨pb, 4, none⟩ = some (.int .i64 z.ts.1) := cellP hP 4 _ rfl; have g5 : ww.cell? ⟨pb, 5, none⟩ = some (.int .i64 z.ts.2) := cellP hP 5 _ rfl; go_simp; try with_reducible rfl)
            refine tkW 29 (some 87) (v := ?_) ?_ hHeld ?_
            rotate_left
            · (intro ww hSw; (try dsimp only at hSw); obtain ⟨hS, hP⟩ := hSw; have y2 : ww.cell? ⟨b, o + i * 7 + 2, none⟩ = some (.int .i64 y.nd.1) := hS.at HYi.out 2 _ rfl; have y3 : ww.cell? ⟨b, o + i * 7 + 3, none⟩ = some (.int .i64 y.nd.2) := hS.at HYi.out 3 _ rfl; have z0 : ww.cell? ⟨b, o + q * 7, none⟩ = some (.int .i64 z.ts.1) := hS.at HZq.out 0 _ rfl; have z1 : ww.cell? ⟨b, o + q * 7 + 1, none⟩ = some (.int .i64 z.ts.2) := hS.at HZq.out 1 _ rfl; have z4 : ww.cell? ⟨b, o + q * 7 + 4, none⟩ = some (.int .i64 z.pr.1) := hS.at HZq.out 4 _ rfl; have z5 : ww.cell? ⟨b, o + q * 7 + 5, none⟩ = some (.int .i64 z.pr.2) := hS.at HZq.out 5 _ rfl; have g0 : ww.cell? ⟨pb, 0, none⟩ = some (.int .i64 y.nd.1) := cellP hP 0 _ rfl; have g1 : ww.cell? ⟨pb, 1, none⟩ = some (.int .i64 y.nd.2) := cellP hP 1 _ rfl; have g2 : ww.cell? ⟨pb, 2, none⟩ = some (.int .i64 z.pr.1) := cellP hP 2 _ rfl; have g3 : ww.cell? ⟨pb, 3, none⟩ = some (.int .i64 z.pr.2) := cellP hP 3 _ rfl; have g4 : ww.cell? ⟨pb, 4, none⟩ = some (.int .i64 z.ts.1) := cellP hP 4 _ rfl; have g5 : ww.cell? ⟨pb, 5, none⟩ = some (.int .i64 z.ts.2) := cellP hP 5 _ rfl; go_simp; try with_reducible rfl)
            refine tkW 30 (some 88) (v := ?_) ?_ hHeld ?_
            rotate_left
            · (intro ww _; go_simp; try with_reducible rfl)
            refine tkW 31 (some 89) (v := ?_) ?_ hHeld ?_
            rotate_left
            · (intro ww _; go_simp; try with_reducible rfl)
            refine tkW 32 (some 90) (v := ?_) ?_ hHeld ?_
            rotate_left
            · (intro ww _; go_simp; try with_reducible rfl)
            refine wpAnyH_done (by kernel_rfl) ?_ _
            clear hHeld
            go_wp2
            go_roundw
            case rel => exact ⟨i + 1, by go_num, by omega, HL.out.md⟩
            case measure => simp [intOf]; omega
    · obtain rfl : i = L.length := by omega
      go_wp2_with fail
      refine (awake_any _).mono ?_
      rintro e w9 ⟨rfl, hb⟩
      have HB : Hid (Below w.heap.size w w9) := HM.out.bel.trans (hb.mono HM.out.bel.size)
      clear hb HM
      go_wp2
      go_ret
      exact ⟨rfl, HB.out⟩

end Go.Proofs.Ytljepindfdhbbaa
