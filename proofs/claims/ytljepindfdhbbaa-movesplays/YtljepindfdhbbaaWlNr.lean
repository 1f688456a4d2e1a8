/- MovesNoRing: nobody is above itself. -/
import Derived.Test.YtljepindfdhbbaaWlLa
import Derived.Test.YtljepindfdhbbaaTrN
namespace Go.Proofs.Ytljepindfdhbbaa
open Go.RowKit
set_option linter.unusedVariables false
set_option linter.unusedSimpArgs false

/-- Rows at their place, in no block of F. -/
structure RwA {α : Type} (enc : α → List Value) (n : Nat) (F : Nat → Prop) (b o : Nat) (D : List α) (W : World) : Prop where
  nb : ¬ F b
  lt : b < W.heap.size
  row : ∀ i (h : i < D.length) j u, (enc D[i])[j]? = some u → W.cell? ⟨b, o + i * n + j, none⟩ = some u
section
variable {α : Type} {enc : α → List Value} {n : Nat} {F : Nat → Prop} {b o : Nat} {D : List α} {W W' : World}
theorem RwA.below (h : RwA enc n F b o D W) (hb : Below W.heap.size W W') : RwA enc n F b o D W' := ⟨h.nb, Nat.lt_of_lt_of_le h.lt hb.size, fun i hi j u hj => (hb.cell (p := ⟨b, _, none⟩) h.lt).trans (h.row i hi j u hj)⟩
theorem RwA.touch (h : RwA enc n F b o D W) (ht : Touch F W W') : RwA enc n F b o D W' := ⟨h.nb, Nat.lt_of_lt_of_le h.lt ht.size, fun i hi j u hj => (World.cell?_of_block (w := W) (ht.block b h.lt h.nb)).trans (h.row i hi j u hj)⟩
theorem RwA.at (h : RwA enc n F b o D W) {i : Nat} {x : α} (hi : D[i]? = some x) (j : Nat) (u : Value) (hj : (enc x)[j]? = some u) : W.cell? ⟨b, o + i * n + j, none⟩ = some u := by
  obtain ⟨h1, h2⟩ := List.getElem?_eq_some_iff.1 hi
  exact h.row i h1 j u (by rw [h2]; exact hj)
theorem LsE.rwA {v : Value} (h : LsE enc n (fun j => ¬ F j) W v D) {i : Nat} (hi : i < D.length) : ∃ b o c, v = .slice (some ⟨b, o, none⟩) D.length c ∧ RwA enc n F b o D W := by
  obtain ⟨a, cap, e, hc, hl, h9⟩ := h
  rcases h9 with h9 | ⟨b, o, ea, hg, hlt, hr⟩
  · rw [h9] at hi; simp at hi
  · exact ⟨b, o, cap, by rw [e, ea], hg, hlt, hr⟩
end
theorem RwA.lsE {α : Type} {enc : α → List Value} {n : Nat} {F : Nat → Prop} {b o c : Nat} {D : List α} {W : World} (h : RwA enc n F b o D W) (hc : D.length ≤ c ∧ D.length ≤ 8796093022208) : LsE enc n (fun j => ¬ F j) W (.slice (some ⟨b, o, none⟩) D.length c) D := ⟨_, c, rfl, hc.1, hc.2, .inr ⟨b, o, rfl, h.nb, h.lt, h.row⟩⟩
/-- The state of MovesNoRing. -/
structure NrS (W0 : World) (tb : Nat) (F : Nat → Prop) (dv : Value) (L : List Mv) (b o : Nat) (T : List Pl) (d u : Nat) (U : List St) (W : World) : Prop where
  md : MdS W0 tb F dv L L W
  al : RwA plCells 6 F b o T W
  up : RwA stCells 2 F d u U W
section
variable {W0 W W' : World} {tb : Nat} {F : Nat → Prop} {dv : Value} {L : List Mv} {b o d u : Nat} {T : List Pl} {U : List St}
theorem NrS.below (h : NrS W0 tb F dv L b o T d u U W) (hb : Below W.heap.size W W') : NrS W0 tb F dv L b o T d u U W' := ⟨h.md.below hb, h.al.below hb, h.up.below hb⟩
theorem NrS.drew (h : NrS W0 tb F dv L b o T d u U W) : NrS W0 tb F dv L b o T d u U W.drew := h.below (Below.refl _ _).drew
theorem NrS.asked (h : NrS W0 tb F dv L b o T d u U W) (ha : AskP F W (.pointer (some ⟨tb, 0, none⟩)) L W') : NrS W0 tb F dv L b o T d u U W' := ⟨h.md.asked ha, h.al.touch ha.2, h.up.touch ha.2⟩
end
/-- The way up, link by link. -/
theorem Up.link {T : List Pl} {n : St} {l : List St} (h : Up T n l) : ∀ {k : Nat}, k + 1 < l.length → ∃ r s p, l[k]? = some r ∧ l[k + 1]? = some s ∧ whT T r = some p ∧ p.pr = s := by
  induction h with
  | top => intro k hk; simp at hk
  | step h1 h2 ih =>
    intro k hk
    match k with
    | 0 =>
      cases h2 with
      | top => simp at hk
      | step h3 h4 => exact ⟨_, _, _, rfl, rfl, h3, rfl⟩
    | k + 1 => exact ih (k := k) (by simp at hk; omega)
theorem Up.fin {T : List Pl} {n : St} {l : List St} (h : Up T n l) : ∀ {k : Nat}, k + 1 = l.length → ∃ r, l[k]? = some r ∧ whT T r = none := by
  induction h with
  | top => intro k hk; simp at hk
  | step h1 h2 ih =>
    intro k hk
    match k with
    | 0 =>
      cases h2 with
      | top h3 => exact ⟨_, rfl, h3⟩
      | step h3 h4 => simp at hk
    | k + 1 => exact ih (k := k) (by simp at hk; omega)
theorem Up.first {T : List Pl} {n : St} {l : List St} {p : Pl} (h : Up T n l) (hw : whT T n = some p) : ∃ m, l.length = m + 1 ∧ l[0]? = some p.pr := by
  cases h with
  | top h1 => rw [h1] at hw; cases hw
  | step h1 h2 => rw [h1] at hw; cases hw; exact ⟨_, rfl, rfl⟩

set_option maxRecDepth 100000 in
set_option maxHeartbeats 8000000 in
theorem movesNoRing_walk (v : Value) (l : List Ma) (w : World) (h : IsMa w v l) :
    Calls Try.prog 6 #[v] w fun e w' => e = .returned (.bool true) ∧ Below w.heap.size w w' := by
  obtain ⟨a0, c0, e0⟩ := h.form
  subst e0
  have HLs : Hid (IsMa w (.slice a0 l.length c0) l) := h
  clear h
  go_enter Try.func6, Try.ntmps6
  go_wp2_with fail
  refine (made_any (.slice a0 l.length c0) l _ HLs.out).mono ?_
  rintro e w1 ⟨tb, F, a1, c1, rfl, hM⟩
  obtain ⟨L, eL⟩ : ∃ X, X = madeL l := ⟨_, rfl⟩
  have hLl : L.length ≤ 200 := by rw [eL]; exact madeL_len l
  rw [← eL] at hM ⊢
  have HM1 : Hid (MdS w tb F (.slice a1 L.length c1) L L w1) := hM
  clear hM eL HLs
  go_wp2_with fail
  refine (all_any F (.pointer (some ⟨tb, 0, none⟩)) L _ HM1.out.tv HM1.out.tr.lt).mono ?_
  rintro e w2 ⟨wv, rfl, ho, ha⟩
  obtain ⟨T, eT⟩ : ∃ X, X = doneT L := ⟨_, rfl⟩
  have HT : Hid (T = doneT L) := eT
  have hTl : T.length ≤ L.length := by rw [eT]; exact doneT_length L
  have HG : Hid (GoodT T) := by rw [eT]; exact goodT L
  have HA0 : Hid (MdS w tb F (.slice a1 L.length c1) L L w2 ∧ LsE plCells 6 (fun j => ¬ F j) w2 wv T) := ⟨HM1.out.asked ha, by (rw [eT]; exact ho.lsE plCells_len (by rw [← eT]; omega) (fun k e hk => by have h1 := (ho.lt k e).1; have h2 := HM1.out.tr.lt k hk; omega))⟩
  obtain ⟨aw, cw, ew⟩ := ho.form
  rw [← eT] at ew
  subst ew
  clear ho ha HM1 eT
  go_wp2
  go_loopw [6] (fun iv wr => ∃ i : Nat, iv = .int .i64 (i : Int) ∧ i ≤ T.length ∧ Hid (MdS w tb F (.slice a1 L.length c1) L L wr ∧ LsE plCells 6 (fun j => ¬ F j) wr (.slice aw T.length cw) T)) (fun iv _ => T.length - (intOf iv).toNat)
  case atStart => exact ⟨0, rfl, Nat.zero_le _, HA0⟩
  case round =>
    clear HA0
    obtain ⟨i, rfl, hi, HA⟩ := hrel
    by_cases hil : i < T.length
    · obtain ⟨b, o, c2, ev, hR⟩ := HA.out.2.rwA hil
      injection ev with ev1 ev2 ev3
      subst ev1
      subst ev3
      clear ev2
      obtain ⟨y, hy⟩ : ∃ y, T[i]? = some y := ⟨_, List.getElem?_eq_getElem hil⟩
      have HYi : Hid (T[i]? = some y) := hy
      have HYw : Hid (whT T y.nd = some y) := whT_mem HG.out.srt (List.mem_of_getElem? hy)
      have HR : Hid (RwA plCells 6 F b o T wr) := hR
      have HTl : Hid (T.length ≤ cw ∧ T.length ≤ 8796093022208) := by (obtain ⟨_, cap, e9, h91, h92, _⟩ := HA.out.2; injection e9 with _ _ e93; subst e93; exact ⟨h91, h92⟩)
      have i1 : (i : Int) < (T.length : Int) := by omega
      have i0 : (0 : Int) ≤ (i : Int) := by omega
      clear hy hR
      have y0 : wr.cell? ⟨b, o + i * 6, none⟩ = some (.int .i64 y.nd.1) := HR.out.at HYi.out 0 _ rfl
      have y1 : wr.cell? ⟨b, o + i * 6 + 1, none⟩ = some (.int .i64 y.nd.2) := HR.out.at HYi.out 1 _ rfl
      go_wp2_with fail
      clear y0 y1
      refine (above_any F (.pointer (some ⟨tb, 0, none⟩)) L y.nd _ HA.out.1.tv HA.out.1.tr.lt).mono ?_
      rintro e w5 ⟨v7, rfl, ho, ha⟩
      rw [← HT.out] at ho
      obtain ⟨U, eU⟩ : ∃ X, X = upL T y.nd := ⟨_, rfl⟩
      rw [← eU] at ho
      have hup : Up T y.nd U := by rw [eU]; exact HG.out.acy.up y.nd
      obtain ⟨m, hm, h0⟩ := hup.first HYw.out
      have hsh := hup.short
      have HUpp : Hid (Up T y.nd U) := hup
      have HUl : Hid (U.length = m + 1) := hm
      have HU0 : Hid (U[0]? = some y.pr) := h0
      have HNo : Hid (decide ((y.nd.1, y.nd.2) ∈ U) = false) := decide_eq_false hup.self
      have hmL : m + 1 ≤ L.length := by omega
      have hls : LsE stCells 2 (fun j => ¬ F j) w5 v7 U := ho.lsE (fun _ => rfl) (by omega) (fun k e hk => by have h1 := (ho.lt k e).1; have h2 := HA.out.1.tr.lt k hk; omega)
      obtain ⟨d, u, c7, ev, hRu⟩ := hls.rwA (i := 0) (by omega)
      rw [hm] at ev
      have HUp : Hid (S.IsS w5 v7 U) := ho.stS.isS (by omega)
      rw [ev] at HUp
      subst ev
      have HN : Hid (NrS w tb F (.slice a1 L.length c1) L b o T d u U w5) := ⟨HA.out.1.asked ha, HR.out.touch ha.2, hRu⟩
      clear ho ha hup hm hsh h0 hls hRu eU HA HR
      go_wp2_with fail
      refine wp_region_held_drew (S := fun W' => NrS w tb F (.slice a1 L.length c1) L b o T d u U W') (by kernel_rfl) HN.out.drew (fun hHeld => ?_)
      obtain ⟨Ua2u0, eW⟩ : ∃ X, X = w5.drew := ⟨_, rfl⟩
      have hb : Below w5.heap.size w5 Ua2u0 := by rw [eW]; exact (Below.refl _ _).drew
      replace HN : Hid (NrS w tb F (.slice a1 L.length c1) L b o T d u U Ua2u0) := HN.out.below hb
      replace HUp : Hid (S.IsS Ua2u0 (.slice (some ⟨d, u, none⟩) (m + 1) c7) U) := HUp.out.below hb
      rw [← eW] at hHeld ⊢
      clear eW hb
      refine tkW 0 (some 33) (v := ?_) ?_ hHeld ?_
      rotate_left
      · (intro ww _; go_simp; try with_reducible rfl)
      refine tkW 1 (some 34) (v := ?_) ?_ hHeld ?_
      rotate_left
      · (intro ww hSw; (try dsimp only at hSw); have hS := hSw; have y0 : ww.cell? ⟨b, o + i * 6, none⟩ = some (.int .i64 y.nd.1) := hS.al.at HYi.out 0 _ rfl; have y1 : ww.cell? ⟨b, o + i * 6 + 1, none⟩ = some (.int .i64 y.nd.2) := hS.al.at HYi.out 1 _ rfl; have y2 : ww.cell? ⟨b, o + i * 6 + 2, none⟩ = some (.int .i64 y.pr.1) := hS.al.at HYi.out 2 _ rfl; have y3 : ww.cell? ⟨b, o + i * 6 + 3, none⟩ = some (.int .i64 y.pr.2) := hS.al.at HYi.out 3 _ rfl; have s0 : ww.cell? ⟨d, u, none⟩ = some (.int .i64 y.pr.1) := hS.up.at HU0.out 0 _ rfl; have s1 : ww.cell? ⟨d, u + 1, none⟩ = some (.int .i64 y.pr.2) := hS.up.at HU0.out 1 _ rfl; go_simp; try with_reducible rfl)
      refine tkW 2 (some 35) (v := .bool false) ?_ hHeld ?_
      · (intro ww hSw; (try dsimp only at hSw); have hS := hSw; have y0 : ww.cell? ⟨b, o + i * 6, none⟩ = some (.int .i64 y.nd.1) := hS.al.at HYi.out 0 _ rfl; have y1 : ww.cell? ⟨b, o + i * 6 + 1, none⟩ = some (.int .i64 y.nd.2) := hS.al.at HYi.out 1 _ rfl; have y2 : ww.cell? ⟨b, o + i * 6 + 2, none⟩ = some (.int .i64 y.pr.1) := hS.al.at HYi.out 2 _ rfl; have y3 : ww.cell? ⟨b, o + i * 6 + 3, none⟩ = some (.int .i64 y.pr.2) := hS.al.at HYi.out 3 _ rfl; have s0 : ww.cell? ⟨d, u, none⟩ = some (.int .i64 y.pr.1) := hS.up.at HU0.out 0 _ rfl; have s1 : ww.cell? ⟨d, u + 1, none⟩ = some (.int .i64 y.pr.2) := hS.up.at HU0.out 1 _ rfl; go_simp; (try simp); (try omega))
      refine tkW 3 (some 36) (v := ?_) ?_ hHeld ?_
      rotate_left
      · (intro ww _; go_simp; try with_reducible rfl)
      refine tkW 4 (some 37) (v := ?_) ?_ hHeld ?_
      rotate_left
      · (intro ww _; go_simp; try with_reducible rfl)
      refine tkW 5 (some 38) (v := ?_) ?_ hHeld ?_
      rotate_left
      · (intro ww hSw; (try dsimp only at hSw); have hS := hSw; have y0 : ww.cell? ⟨b, o + i * 6, none⟩ = some (.int .i64 y.nd.1) := hS.al.at HYi.out 0 _ rfl; have y1 : ww.cell? ⟨b, o + i * 6 + 1, none⟩ = some (.int .i64 y.nd.2) := hS.al.at HYi.out 1 _ rfl; have y2 : ww.cell? ⟨b, o + i * 6 + 2, none⟩ = some (.int .i64 y.pr.1) := hS.al.at HYi.out 2 _ rfl; have y3 : ww.cell? ⟨b, o + i * 6 + 3, none⟩ = some (.int .i64 y.pr.2) := hS.al.at HYi.out 3 _ rfl; have s0 : ww.cell? ⟨d, u, none⟩ = some (.int .i64 y.pr.1) := hS.up.at HU0.out 0 _ rfl; have s1 : ww.cell? ⟨d, u + 1, none⟩ = some (.int .i64 y.pr.2) := hS.up.at HU0.out 1 _ rfl; go_simp; try with_reducible rfl)
      refine tkW 6 (some 39) (v := ?_) ?_ hHeld ?_
      rotate_left
      · (intro ww _; go_simp; try with_reducible rfl)
      refine tkW 7 (some 40) (v := ?_) ?_ hHeld ?_
      rotate_left
      · (intro ww hSw; (try dsimp only at hSw); have hS := hSw; have y0 : ww.cell? ⟨b, o + i * 6, none⟩ = some (.int .i64 y.nd.1) := hS.al.at HYi.out 0 _ rfl; have y1 : ww.cell? ⟨b, o + i * 6 + 1, none⟩ = some (.int .i64 y.nd.2) := hS.al.at HYi.out 1 _ rfl; have y2 : ww.cell? ⟨b, o + i * 6 + 2, none⟩ = some (.int .i64 y.pr.1) := hS.al.at HYi.out 2 _ rfl; have y3 : ww.cell? ⟨b, o + i * 6 + 3, none⟩ = some (.int .i64 y.pr.2) := hS.al.at HYi.out 3 _ rfl; have s0 : ww.cell? ⟨d, u, none⟩ = some (.int .i64 y.pr.1) := hS.up.at HU0.out 0 _ rfl; have s1 : ww.cell? ⟨d, u + 1, none⟩ = some (.int .i64 y.pr.2) := hS.up.at HU0.out 1 _ rfl; go_simp; try with_reducible rfl)
      refine tkW 8 (some 41) (v := .bool false) ?_ hHeld ?_
      · (intro ww hSw; (try dsimp only at hSw); have hS := hSw; have y0 : ww.cell? ⟨b, o + i * 6, none⟩ = some (.int .i64 y.nd.1) := hS.al.at HYi.out 0 _ rfl; have y1 : ww.cell? ⟨b, o + i * 6 + 1, none⟩ = some (.int .i64 y.nd.2) := hS.al.at HYi.out 1 _ rfl; have y2 : ww.cell? ⟨b, o + i * 6 + 2, none⟩ = some (.int .i64 y.pr.1) := hS.al.at HYi.out 2 _ rfl; have y3 : ww.cell? ⟨b, o + i * 6 + 3, none⟩ = some (.int .i64 y.pr.2) := hS.al.at HYi.out 3 _ rfl; have s0 : ww.cell? ⟨d, u, none⟩ = some (.int .i64 y.pr.1) := hS.up.at HU0.out 0 _ rfl; have s1 : ww.cell? ⟨d, u + 1, none⟩ = some (.int .i64 y.pr.2) := hS.up.at HU0.out 1 _ rfl; go_simp; (try simp); (try omega))
      refine tkW 9 (some 42) (v := ?_) ?_ hHeld ?_
      rotate_left
      · (intro ww _; go_simp; try with_reducible rfl)
      refine tkW 10 (some 43) (v := ?_) ?_ hHeld ?_
      rotate_left
      · (intro ww _; go_simp; try with_reducible rfl)
      refine tkW 11 (some 44) (v := ?_) ?_ hHeld ?_
      rotate_left
      · (intro ww _; go_simp; try with_reducible rfl)
      refine tkW 12 (some 45) (v := ?_) ?_ hHeld ?_
      rotate_left
      · (intro ww hSw; (try dsimp only at hSw); have hS := hSw; have y0 : ww.cell? ⟨b, o + i * 6, none⟩ = some (.int .i64 y.nd.1) := hS.al.at HYi.out 0 _ rfl; have y1 : ww.cell? ⟨b, o + i * 6 + 1, none⟩ = some (.int .i64 y.nd.2) := hS.al.at HYi.out 1 _ rfl; have y2 : ww.cell? ⟨b, o + i * 6 + 2, none⟩ = some (.int .i64 y.pr.1) := hS.al.at HYi.out 2 _ rfl; have y3 : ww.cell? ⟨b, o + i * 6 + 3, none⟩ = some (.int .i64 y.pr.2) := hS.al.at HYi.out 3 _ rfl; have s0 : ww.cell? ⟨d, u, none⟩ = some (.int .i64 y.pr.1) := hS.up.at HU0.out 0 _ rfl; have s1 : ww.cell? ⟨d, u + 1, none⟩ = some (.int .i64 y.pr.2) := hS.up.at HU0.out 1 _ rfl; go_simp; try with_reducible rfl)
      refine tkW 13 (some 46) (v := ?_) ?_ hHeld ?_
      rotate_left
      · (intro ww hSw; (try dsimp only at hSw); have hS := hSw; have y0 : ww.cell? ⟨b, o + i * 6, none⟩ = some (.int .i64 y.nd.1) := hS.al.at HYi.out 0 _ rfl; have y1 : ww.cell? ⟨b, o + i * 6 + 1, none⟩ = some (.int .i64 y.nd.2) := hS.al.at HYi.out 1 _ rfl; have y2 : ww.cell? ⟨b, o + i * 6 + 2, none⟩ = some (.int .i64 y.pr.1) := hS.al.at HYi.out 2 _ rfl; have y3 : ww.cell? ⟨b, o + i * 6 + 3, none⟩ = some (.int .i64 y.pr.2) := hS.al.at HYi.out 3 _ rfl; have s0 : ww.cell? ⟨d, u, none⟩ = some (.int .i64 y.pr.1) := hS.up.at HU0.out 0 _ rfl; have s1 : ww.cell? ⟨d, u + 1, none⟩ = some (.int .i64 y.pr.2) := hS.up.at HU0.out 1 _ rfl; go_simp; try with_reducible rfl)
      refine tkW 14 (some 47) (v := ?_) ?_ hHeld ?_
      rotate_left
      · (intro ww _; go_simp; try with_reducible rfl)
      refine tkW 15 (some 48) (v := ?_) ?_ hHeld ?_
      rotate_left
      · (intro ww _; go_simp; try with_reducible rfl)
      refine tkW 16 (some 49) (v := ?_) ?_ hHeld ?_
      rotate_left
      · (intro ww hSw; (try dsimp only at hSw); have hS := hSw; have y0 : ww.cell? ⟨b, o + i * 6, none⟩ = some (.int .i64 y.nd.1) := hS.al.at HYi.out 0 _ rfl; have y1 : ww.cell? ⟨b, o + i * 6 + 1, none⟩ = some (.int .i64 y.nd.2) := hS.al.at HYi.out 1 _ rfl; have y2 : ww.cell? ⟨b, o + i * 6 + 2, none⟩ = some (.int .i64 y.pr.1) := hS.al.at HYi.out 2 _ rfl; have y3 : ww.cell? ⟨b, o + i * 6 + 3, none⟩ = some (.int .i64 y.pr.2) := hS.al.at HYi.out 3 _ rfl; have s0 : ww.cell? ⟨d, u, none⟩ = some (.int .i64 y.pr.1) := hS.up.at HU0.out 0 _ rfl; have s1 : ww.cell? ⟨d, u + 1, none⟩ = some (.int .i64 y.pr.2) := hS.up.at HU0.out 1 _ rfl; go_simp; try with_reducible rfl)
      refine tkW 17 (some 50) (v := ?_) ?_ hHeld ?_
      rotate_left
      · (intro ww _; go_simp; try with_reducible rfl)
      refine tkW 18 (some 51) (v := ?_) ?_ hHeld ?_
      rotate_left
      · (intro ww hSw; (try dsimp only at hSw); have hS := hSw; have y0 : ww.cell? ⟨b, o + i * 6, none⟩ = some (.int .i64 y.nd.1) := hS.al.at HYi.out 0 _ rfl; have y1 : ww.cell? ⟨b, o + i * 6 + 1, none⟩ = some (.int .i64 y.nd.2) := hS.al.at HYi.out 1 _ rfl; have y2 : ww.cell? ⟨b, o + i * 6 + 2, none⟩ = some (.int .i64 y.pr.1) := hS.al.at HYi.out 2 _ rfl; have y3 : ww.cell? ⟨b, o + i * 6 + 3, none⟩ = some (.int .i64 y.pr.2) := hS.al.at HYi.out 3 _ rfl; have s0 : ww.cell? ⟨d, u, none⟩ = some (.int .i64 y.pr.1) := hS.up.at HU0.out 0 _ rfl; have s1 : ww.cell? ⟨d, u + 1, none⟩ = some (.int .i64 y.pr.2) := hS.up.at HU0.out 1 _ rfl; go_simp; try with_reducible rfl)
      refine tkW 19 (some 52) (v := .bool false) ?_ hHeld ?_
      · (intro ww hSw; (try dsimp only at hSw); have hS := hSw; have y0 : ww.cell? ⟨b, o + i * 6, none⟩ = some (.int .i64 y.nd.1) := hS.al.at HYi.out 0 _ rfl; have y1 : ww.cell? ⟨b, o + i * 6 + 1, none⟩ = some (.int .i64 y.nd.2) := hS.al.at HYi.out 1 _ rfl; have y2 : ww.cell? ⟨b, o + i * 6 + 2, none⟩ = some (.int .i64 y.pr.1) := hS.al.at HYi.out 2 _ rfl; have y3 : ww.cell? ⟨b, o + i * 6 + 3, none⟩ = some (.int .i64 y.pr.2) := hS.al.at HYi.out 3 _ rfl; have s0 : ww.cell? ⟨d, u, none⟩ = some (.int .i64 y.pr.1) := hS.up.at HU0.out 0 _ rfl; have s1 : ww.cell? ⟨d, u + 1, none⟩ = some (.int .i64 y.pr.2) := hS.up.at HU0.out 1 _ rfl; go_simp; try with_reducible rfl)
      refine tkW 20 (some 53) (v := ?_) ?_ hHeld ?_
      rotate_left
      · (intro ww _; go_simp; try with_reducible rfl)
      refine tkW 21 (some 54) (v := ?_) ?_ hHeld ?_
      rotate_left
      · (intro ww _; go_simp; try with_reducible rfl)
      refine tkW 22 (some 55) (v := ?_) ?_ hHeld ?_
      rotate_left
      · (intro ww _; go_simp; try with_reducible rfl)
      refine tkW 23 (some 56) (v := ?_) ?_ hHeld ?_
      rotate_left
      · (intro ww _; go_simp; try with_reducible rfl)
      refine tkW 24 (some 57) (v := ?_) ?_ hHeld ?_
      rotate_left
      · (intro ww _; go_simp; try with_reducible rfl)
      refine tkW 25 (some 58) (v := ?_) ?_ hHeld ?_
      rotate_left
      · (intro ww hSw; (try dsimp only at hSw); have hS := hSw; have y0 : ww.cell? ⟨b, o + i * 6, none⟩ = some (.int .i64 y.nd.1) := hS.al.at HYi.out 0 _ rfl; have y1 : ww.cell? ⟨b, o + i * 6 + 1, none⟩ = some (.int .i64 y.nd.2) := hS.al.at HYi.out 1 _ rfl; have y2 : ww.cell? ⟨b, o + i * 6 + 2, none⟩ = some (.int .i64 y.pr.1) := hS.al.at HYi.out 2 _ rfl; have y3 : ww.cell? ⟨b, o + i * 6 + 3, none⟩ = some (.int .i64 y.pr.2) := hS.al.at HYi.out 3 _ rfl; have s0 : ww.cell? ⟨d, u, none⟩ = some (.int .i64 y.pr.1) := hS.up.at HU0.out 0 _ rfl; have s1 : ww.cell? ⟨d, u + 1, none⟩ = some (.int .i64 y.pr.2) := hS.up.at HU0.out 1 _ rfl; go_simp; try with_reducible rfl)
      refine tkW 26 (some 59) (v := ?_) ?_ hHeld ?_
      rotate_left
      · (intro ww _; go_simp; try with_reducible rfl)
      refine tkW 27 (some 60) (v := ?_) ?_ hHeld ?_
      rotate_left
      · (intro ww hSw; (try dsimp only at hSw); have hS := hSw; have y0 : ww.cell? ⟨b, o + i * 6, none⟩ = some (.int .i64 y.nd.1) := hS.al.at HYi.out 0 _ rfl; have y1 : ww.cell? ⟨b, o + i * 6 + 1, none⟩ = some (.int .i64 y.nd.2) := hS.al.at HYi.out 1 _ rfl; have y2 : ww.cell? ⟨b, o + i * 6 + 2, none⟩ = some (.int .i64 y.pr.1) := hS.al.at HYi.out 2 _ rfl; have y3 : ww.cell? ⟨b, o + i * 6 + 3, none⟩ = some (.int .i64 y.pr.2) := hS.al.at HYi.out 3 _ rfl; have s0 : ww.cell? ⟨d, u, none⟩ = some (.int .i64 y.pr.1) := hS.up.at HU0.out 0 _ rfl; have s1 : ww.cell? ⟨d, u + 1, none⟩ = some (.int .i64 y.pr.2) := hS.up.at HU0.out 1 _ rfl; go_simp; try with_reducible rfl)
      refine wpAnyH_ready (rs := [28]) (by kernel_rfl) (by simp) ?_
      refine AllReadyH.cons (o := ⟨some 61, _, _, _, _, _⟩) rfl (fun K hK => ?_) AllReadyH.nil
      go_simp
      refine (S.has_any (.slice (some ⟨d, u, none⟩) (m + 1) c7) U y.nd.1 y.nd.2 _ HUp.out).mono ?_
      rintro e Ua2u1 ⟨rfl, hb⟩
      (try go_wp2_with fail)
      rw [show decide ((y.nd.1, y.nd.2) ∈ U) = false from HNo.out]
      replace HN : Hid (NrS w tb F (.slice a1 L.length c1) L b o T d u U Ua2u1) := HN.out.below hb
      clear hb HUp
      refine hK.out _ _ (HN.out) (fun hHeld2 => ?_)
      clear hK K hHeld
      have hHeld := hHeld2
      clear hHeld2
      (try simp only [Act.put, List.setIfInBounds_toArray, List.set_cons_zero, List.set_cons_succ])
      refine tkW 29 (some 62) (v := ?_) ?_ hHeld ?_
      rotate_left
      · (intro ww _; go_simp; try with_reducible rfl)
      refine wpAnyH_done (by kernel_rfl) ?_ _
      clear hHeld
      go_wp2
      obtain ⟨wv, ewv⟩ : ∃ X, X = Ua2u1 := ⟨_, rfl⟩
      rw [← ewv] at HN ⊢
      clear ewv
      go_loopw [8] (fun kv wq => ∃ k : Nat, kv = .int .i64 ((k : Int) + 1) ∧ k ≤ m ∧ Hid (NrS w tb F (.slice a1 L.length c1) L b o T d u U wq)) (fun kv _ => m + 1 - (intOf kv).toNat)
      case atStart => exact ⟨0, rfl, Nat.zero_le _, HN⟩
      case round =>
        rename World => wq
        clear HN
        obtain ⟨k, rfl, hk, HN⟩ := hrel
        by_cases hkm : k < m
        · obtain ⟨r, s, p, hr, hs2, hwh, hps⟩ := HUpp.out.link (k := k) (by rw [HUl.out]; omega)
          have HRk : Hid (U[k]? = some r) := hr
          have HSk : Hid (U[k + 1]? = some s) := hs2
          have HWh : Hid (whT T r = some p) := hwh
          have HPs : Hid (p.pr = s) := hps
          have k1 : (k : Int) < (m : Int) + 1 := by omega
          have k0 : (0 : Int) ≤ (k : Int) := by omega
          have k2 : (k : Int) + 1 < (m : Int) + 1 := by omega
          have k3 : (0 : Int) ≤ (k : Int) + 1 := by omega
          clear hr hs2 hwh hps
          have r0 : wq.cell? ⟨d, u + k * 2, none⟩ = some (.int .i64 r.1) := HN.out.up.at HRk.out 0 _ rfl
          have r1 : wq.cell? ⟨d, u + k * 2 + 1, none⟩ = some (.int .i64 r.2) := HN.out.up.at HRk.out 1 _ rfl
          go_wp2_with fail
          refine (where_any F (.pointer (some ⟨tb, 0, none⟩)) L r _ HN.out.md.tv HN.out.md.tr.lt).mono ?_
          rintro e w6 ⟨he, ha⟩
          rw [← HT.out, HWh.out] at he
          have hpv : p = ⟨p.nd, s, p.sl⟩ := by (rw [← HPs.out])
          rw [hpv] at he
          clear hpv
          have he2 : e = .returned (.tuple #[.agg #[.int .i64 p.nd.1, .int .i64 p.nd.2, .int .i64 s.1, .int .i64 s.2, .int .i64 p.sl.1, .int .i64 p.sl.2], .bool true]) := he
          subst he2
          clear he
          replace HN : Hid (NrS w tb F (.slice a1 L.length c1) L b o T d u U w6) := HN.out.asked ha
          clear ha
          obtain ⟨w7, ew7⟩ : ∃ X, X = w6.alloc (.cells #[.int .i64 p.nd.1, .int .i64 p.nd.2, .int .i64 s.1, .int .i64 s.2, .int .i64 p.sl.1, .int .i64 p.sl.2] 43) := ⟨_, rfl⟩
          obtain ⟨pb, epb⟩ : ∃ b, b = w6.heap.size := ⟨_, rfl⟩
          have hb7 : Below w6.heap.size w6 w7 := by rw [ew7]; exact (Below.refl _ _).alloc (Nat.le_refl _) _
          replace HN : Hid (NrS w tb F (.slice a1 L.length c1) L b o T d u U w7) := HN.out.below hb7
          have HP : Hid (w7.heap[pb]? = some (.cells #[.int .i64 p.nd.1, .int .i64 p.nd.2, .int .i64 s.1, .int .i64 s.2, .int .i64 p.sl.1, .int .i64 p.sl.2] 43)) := by (rw [epb, ew7]; exact heap_alloc_new _ _)
          have HeW : Hid (w7 = w6.alloc (.cells #[.int .i64 p.nd.1, .int .i64 p.nd.2, .int .i64 s.1, .int .i64 s.2, .int .i64 p.sl.1, .int .i64 p.sl.2] 43)) := ew7
          have HeP : Hid (pb = w6.heap.size) := epb
          clear hb7 ew7 epb
          clear r0 r1
          go_wp2_with fail
          rw [← HeW.out, ← HeP.out]
          clear HeW HeP
          refine wp_region_held_drew (S := fun W' => NrS w tb F (.slice a1 L.length c1) L b o T d u U W' ∧ W'.heap[pb]? = some (.cells #[.int .i64 p.nd.1, .int .i64 p.nd.2, .int .i64 s.1, .int .i64 s.2, .int .i64 p.sl.1, .int .i64 p.sl.2] 43)) (by kernel_rfl) ⟨HN.out.drew, HP.out⟩ (fun hHeld => ?_)
          obtain ⟨Uc1u0, eW⟩ : ∃ X, X = w7.drew := ⟨_, rfl⟩
          have hb : Below w7.heap.size w7 Uc1u0 := by rw [eW]; exact (Below.refl _ _).drew
          replace HN : Hid (NrS w tb F (.slice a1 L.length c1) L b o T d u U Uc1u0) := HN.out.below hb
          replace HP : Hid (Uc1u0.heap[pb]? = some (.cells #[.int .i64 p.nd.1, .int .i64 p.nd.2, .int .i64 s.1, .int .i64 s.2, .int .i64 p.sl.1, .int .i64 p.sl.2] 43)) := (hb.block _ (row_lt HP.out)).trans HP.out
          rw [← eW] at hHeld ⊢
          clear eW hb
          refine tkW 0 (some 79) (v := ?_) ?_ hHeld ?_
          rotate_left
          · (intro ww _; go_simp; try with_reducible rfl)
          refine tkW 1 (some 80) (v := ?_) ?_ hHeld ?_
          rotate_left
          · (intro ww _; go_simp; try with_reducible rfl)
          refine tkW 2 (some 81) (v := ?_) ?_ hHeld ?_
          rotate_left
          · (intro ww _; go_simp; try with_reducible rfl)
          refine tkW 3 (some 82) (v := ?_) ?_ hHeld ?_
          rotate_left
          · (intro ww _; go_simp; try with_reducible rfl)
          refine tkW 4 (some 83) (v := ?_) ?_ hHeld ?_
          rotate_left
          · (intro ww hSw; (try dsimp only at hSw); obtain ⟨hS, hP⟩ := hSw; have g2 : ww.cell? ⟨pb, 2, none⟩ = some (.int .i64 s.1) := cellP hP 2 _ rfl; have g3 : ww.cell? ⟨pb, 3, none⟩ = some (.int .i64 s.2) := cellP hP 3 _ rfl; have s0 : ww.cell? ⟨d, u + (k + 1) * 2, none⟩ = some (.int .i64 s.1) := hS.up.at HSk.out 0 _ rfl; have s1 : ww.cell? ⟨d, u + (k + 1) * 2 + 1, none⟩ = some (.int .i64 s.2) := hS.up.at HSk.out 1 _ rfl; go_simp; try with_reducible rfl)
          refine tkW 5 (some 84) (v := ?_) ?_ hHeld ?_
          rotate_left
          · (intro ww _; go_simp; try with_reducible rfl)
          refine tkW 6 (some 85) (v := ?_) ?_ hHeld ?_
          rotate_left
          · (intro ww _; go_simp; try with_reducible rfl)
          refine tkW 7 (some 86) (v := ?_) ?_ hHeld ?_
          rotate_left
          · (intro ww hSw; (try dsimp only at hSw); obtain ⟨hS, hP⟩ := hSw; have g2 : ww.cell? ⟨pb, 2, none⟩ = some (.int .i64 s.1) := cellP hP 2 _ rfl; have g3 : ww.cell? ⟨pb, 3, none⟩ = some (.int .i64 s.2) := cellP hP 3 _ rfl; have s0 : ww.cell? ⟨d, u + (k + 1) * 2, none⟩ = some (.int .i64 s.1) := hS.up.at HSk.out 0 _ rfl; have s1 : ww.cell? ⟨d, u + (k + 1) * 2 + 1, none⟩ = some (.int .i64 s.2) := hS.up.at HSk.out 1 _ rfl; go_simp; try with_reducible rfl)
          refine tkW 8 (some 87) (v := ?_) ?_ hHeld ?_
          rotate_left
          · (intro ww hSw; (try dsimp only at hSw); obtain ⟨hS, hP⟩ := hSw; have g2 : ww.cell? ⟨pb, 2, none⟩ = some (.int .i64 s.1) := cellP hP 2 _ rfl; have g3 : ww.cell? ⟨pb, 3, none⟩ = some (.int .i64 s.2) := cellP hP 3 _ rfl; have s0 : ww.cell? ⟨d, u + (k + 1) * 2, none⟩ = some (.int .i64 s.1) := hS.up.at HSk.out 0 _ rfl; have s1 : ww.cell? ⟨d, u + (k + 1) * 2 + 1, none⟩ = some (.int .i64 s.2) := hS.up.at HSk.out 1 _ rfl; go_simp; try with_reducible rfl)
          refine tkW 9 (some 88) (v := .bool false) ?_ hHeld ?_
          · (intro ww hSw; (try dsimp only at hSw); obtain ⟨hS, hP⟩ := hSw; have g2 : ww.cell? ⟨pb, 2, none⟩ = some (.int .i64 s.1) := cellP hP 2 _ rfl; have g3 : ww.cell? ⟨pb, 3, none⟩ = some (.int .i64 s.2) := cellP hP 3 _ rfl; have s0 : ww.cell? ⟨d, u + (k + 1) * 2, none⟩ = some (.int .i64 s.1) := hS.up.at HSk.out 0 _ rfl; have s1 : ww.cell? ⟨d, u + (k + 1) * 2 + 1, none⟩ = some (.int .i64 s.2) := hS.up.at HSk.out 1 _ rfl; go_simp; try with_reducible rfl)
          refine tkW 10 (some 89) (v := ?_) ?_ hHeld ?_
          rotate_left
          · (intro ww _; go_simp; try with_reducible rfl)
          refine wpAnyH_done (by kernel_rfl) ?_ _
          clear hHeld
          go_wp2
          go_roundw
          case rel => exact ⟨k + 1, by go_num, by omega, HN⟩
          case measure => simp [intOf]; omega
        · obtain rfl : k = m := by omega
          obtain ⟨r, hr, hwh⟩ := HUpp.out.fin (k := k) HUl.out.symm
          have HRm : Hid (U[k]? = some r) := hr
          have HWh : Hid (whT T r = none) := hwh
          have k1 : (k : Int) < (k : Int) + 1 := by omega
          have k0 : (0 : Int) ≤ (k : Int) := by omega
          clear hr hwh
          have r0 : wq.cell? ⟨d, u + k * 2, none⟩ = some (.int .i64 r.1) := HN.out.up.at HRm.out 0 _ rfl
          have r1 : wq.cell? ⟨d, u + k * 2 + 1, none⟩ = some (.int .i64 r.2) := HN.out.up.at HRm.out 1 _ rfl
          go_wp2_with fail
          refine (where_any F (.pointer (some ⟨tb, 0, none⟩)) L r _ HN.out.md.tv HN.out.md.tr.lt).mono ?_
          rintro e w8 ⟨he, ha⟩
          rw [← HT.out, HWh.out] at he
          have he2 : e = .returned (.tuple #[.agg #[.int .i64 0, .int .i64 0, .int .i64 0, .int .i64 0, .int .i64 0, .int .i64 0], .bool false]) := he
          subst he2
          clear he
          replace HN : Hid (NrS w tb F (.slice a1 L.length c1) L b o T d u U w8) := HN.out.asked ha
          clear ha
          obtain ⟨w9, ew7⟩ : ∃ X, X = w8.alloc (.cells #[.int .i64 0, .int .i64 0, .int .i64 0, .int .i64 0, .int .i64 0, .int .i64 0] 43) := ⟨_, rfl⟩
          obtain ⟨pb, epb⟩ : ∃ b, b = w8.heap.size := ⟨_, rfl⟩
          have hb7 : Below w8.heap.size w8 w9 := by rw [ew7]; exact (Below.refl _ _).alloc (Nat.le_refl _) _
          replace HN : Hid (NrS w tb F (.slice a1 L.length c1) L b o T d u U w9) := HN.out.below hb7
          have HP : Hid (w9.heap[pb]? = some (.cells #[.int .i64 0, .int .i64 0, .int .i64 0, .int .i64 0, .int .i64 0, .int .i64 0] 43)) := by (rw [epb, ew7]; exact heap_alloc_new _ _)
          have HeW : Hid (w9 = w8.alloc (.cells #[.int .i64 0, .int .i64 0, .int .i64 0, .int .i64 0, .int .i64 0, .int .i64 0] 43)) := ew7
          have HeP : Hid (pb = w8.heap.size) := epb
          clear hb7 ew7 epb
          clear r0 r1
          go_wp2
          rw [← HeW.out]
          clear HeW HeP
          go_roundw
          case rel => exact ⟨i + 1, by go_num, by omega, ⟨HN.out.md, HN.out.al.lsE HTl.out⟩⟩
          case measure => simp [intOf]; omega
    · obtain rfl : i = T.length := by omega
      go_wp2_with fail
      refine (awake_any _).mono ?_
      rintro e w9 ⟨rfl, hb⟩
      have HB : Hid (Below w.heap.size w w9) := HA.out.1.bel.trans (hb.mono HA.out.1.bel.size)
      clear hb HA
      go_wp2
      go_ret
      exact ⟨rfl, HB.out⟩

end Go.Proofs.Ytljepindfdhbbaa
