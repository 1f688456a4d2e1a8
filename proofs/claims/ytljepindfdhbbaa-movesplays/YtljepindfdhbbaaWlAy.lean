/- MovesAny: the order in which moves come says nothing. -/
import Derived.Test.YtljepindfdhbbaaRfS
import Derived.Test.YtljepindfdhbbaaBaseX
namespace Go.Proofs.Ytljepindfdhbbaa
open Go.RowKit
set_option linter.unusedVariables false
set_option linter.unusedSimpArgs false

theorem fl_at2 {L : List Mv} {i : Nat} {x : Mv} (h : L[i]? = some x) : (fl L)[i]? = some (x, false) := by unfold fl; rw [List.getElem?_map, h]; rfl
theorem fl_app (A B : List Mv) : fl (A ++ B) = fl A ++ fl B := by unfold fl; rw [List.map_append]
structure RwB9 (b o : Nat) (D : List (Mv × Bool)) (W : World) : Prop where
  row : ∀ i (h : i < D.length) j u, (mcCells D[i])[j]? = some u → W.cell? ⟨b, o + i * 7 + j, none⟩ = some u
theorem RwB9.at {b o : Nat} {D : List (Mv × Bool)} {W : World} (h : RwB9 b o D W) {i : Nat} {x : Mv × Bool} (hi : D[i]? = some x) (j : Nat) (u : Value) (hj : (mcCells x)[j]? = some u) : W.cell? ⟨b, o + i * 7 + j, none⟩ = some u := by
  obtain ⟨h1, h2⟩ := List.getElem?_eq_some_iff.1 hi
  exact h.row i h1 j u (by rw [h2]; exact hj)
/-- Rows in no block of a tree. -/
structure TouR (Fx : Nat → Prop) (b o : Nat) (D : List (Mv × Bool)) (W : World) : Prop where
  row : ∀ i (h : i < D.length) j u, (mcCells D[i])[j]? = some u → W.cell? ⟨b, o + i * 7 + j, none⟩ = some u
  lt : b < W.heap.size
  nx : ¬ Fx b
theorem TouR.below {Fx : Nat → Prop} {b o : Nat} {D : List (Mv × Bool)} {W W' : World} (h : TouR Fx b o D W) (hb : Below W.heap.size W W') : TouR Fx b o D W' := ⟨fun i hi j u hj => (hb.cell (p := ⟨b, _, none⟩) h.lt).trans (h.row i hi j u hj), Nat.lt_of_lt_of_le h.lt hb.size, h.nx⟩
theorem TouR.touch2 {Fx : Nat → Prop} {b o xb : Nat} {D : List (Mv × Bool)} {W W' : World} {L : List Mv} (h : TouR Fx b o D W) (hd : ∃ F', TreeOk F' W' xb L ∧ (∀ k, Fx k → F' k) ∧ (∀ k, F' k → Fx k ∨ W.heap.size ≤ k) ∧ Touch Fx W W') : ∀ i (hi : i < D.length) j u, (mcCells D[i])[j]? = some u → W'.cell? ⟨b, o + i * 7 + j, none⟩ = some u := fun i hi j u hj => by
  obtain ⟨_, _, _, _, hto⟩ := hd
  exact (World.cell?_of_block (w := W) (hto.block b h.lt h.nx)).trans (h.row i hi j u hj)
theorem LsE.rowsOf {G : Nat → Prop} {W : World} {b o cap n : Nat} {D : List Mv} (h : LsE mcCells 7 G W (.slice (some ⟨b, o, none⟩) n cap) (fl D)) (hne : D ≠ [] := by first | assumption | (intro e; simp_all)) : b < W.heap.size ∧ ∀ i (h : i < (fl D).length) j u, (mcCells (fl D)[i])[j]? = some u → W.cell? ⟨b, o + i * 7 + j, none⟩ = some u := by
  obtain ⟨a, c, e, _, _, h9⟩ := h
  rcases h9 with h9 | ⟨b2, o2, ea, _, hlt, hr⟩
  · exact absurd (by simpa [fl] using h9) hne
  · injection e with e1 e2 e3
    rw [ea] at e1
    cases e1
    exact ⟨hlt, hr⟩
theorem flat_pre {R : List Mv} {f j : Nat} {u : Value} (h : (flatE mcCells (fl (R.take f)))[j]? = some u) : (flatE mcCells (fl R))[j]? = some u := by
  have e : fl (R.take f) = (fl R).take f := by unfold fl; rw [List.map_take]
  rw [e, flatE_take mcCells_lenR, List.getElem?_take] at h
  split at h
  · exact h
  · cases h
theorem flat_suf {R : List Mv} {f j : Nat} {u : Value} (h : (flatE mcCells (fl (R.drop (f + 1))))[j]? = some u) : (flatE mcCells (fl R))[(f + 1) * 7 + j]? = some u := by
  have e : fl (R.drop (f + 1)) = (fl R).drop (f + 1) := by unfold fl; rw [List.map_drop]
  rw [e, flatE_drop mcCells_lenR, List.getElem?_drop] at h
  exact h
theorem src2 {W : World} {b o f cap n : Nat} {D : List (Mv × Bool)} (h : ∀ j u, (flatE mcCells D)[j]? = some u → W.cell? ⟨b, o + (f + 1) * 7 + j, none⟩ = some u) (hb : b < W.heap.size) (hc : n ≤ cap) (hl : D.length = n - (f + 1)) : ∃ A : Addr, (if cap = f + 1 then some (⟨b, o, none⟩ : Addr) else some ⟨b, o + (f + 1) * 7, none⟩) = some A ∧ Hid (∀ V : World, Below W.heap.size W V → ∀ j u, (flatE mcCells D)[j]? = some u → V.cell? (A.add j) = some u) := by
  by_cases h9 : cap = f + 1
  · refine ⟨⟨b, o, none⟩, by simp [h9], fun V _ j u hj => ?_⟩
    have h1 := (List.getElem?_eq_some_iff.1 hj).1
    rw [flatE_length mcCells_lenR, hl] at h1
    omega
  · refine ⟨⟨b, o + (f + 1) * 7, none⟩, by simp [h9], fun V hV j u hj => ?_⟩
    rw [Addr.add_lit]
    exact (hV.cell (p := ⟨b, _, none⟩) hb).trans (h j u hj)

theorem anyLx {L Lx R : List Mv} (h : AnyP L Lx R) (hl : L.length ≤ 200) : Lx.length ≤ 200 := by
  have hn : Lx.Nodup := by unfold List.Nodup; exact List.Pairwise.imp (R := fun x y : Mv => ltS x.ts y.ts = true) (fun hh e => ltS_ne hh (congrArg Mv.ts e)) h.srt
  have := nodup_le (α := Mv) hn (fun x hx => (h.mem x).2 (.inl hx))
  omega

set_option maxRecDepth 100000 in
set_option maxHeartbeats 8000000 in
theorem movesAny_walk (v : Value) (l : List Ma) (v2 : Value) (od : List Int) (w : World) (h : IsMa w v l) (h2 : IsIn w v2 od) :
    Calls Try.prog 5 #[v, v2] w fun e w' => e = .returned (.bool true) ∧ Below w.heap.size w w' := by
  obtain ⟨imc, himc, hz0mc, hz1mc, hz2mc⟩ := info_parts infoMc
  obtain ⟨a0, c0, e0⟩ := h.form
  subst e0
  obtain ⟨ao, co, e2, hoc, hol, hor⟩ := h2
  subst e2
  have HLs : Hid (IsMa w (.slice a0 l.length c0) l) := h
  have HOr : Hid (od = [] ∨ ∃ b o, ao = some ⟨b, o, none⟩ ∧ b < w.heap.size ∧ ∀ i (h : i < od.length), w.cell? ⟨b, o + i, none⟩ = some (.int .i64 od[i])) := hor
  clear h hor
  go_enter Try.func5, Try.ntmps5
  go_wp2_with fail
  refine (made_any (.slice a0 l.length c0) l _ HLs.out).mono ?_
  rintro e w1 ⟨tb, F, a1, c1, rfl, hM⟩
  obtain ⟨L, eL⟩ : ∃ X, X = madeL l := ⟨_, rfl⟩
  have hLl : L.length ≤ 200 := by rw [eL]; exact madeL_len l
  have HFm : Hid (∀ x ∈ L, FmM x) := by rw [eL]; exact madeL_fm l
  have HTl : Hid ((doneT L).length ≤ 200) := Nat.le_trans (doneT_length _) hLl
  rw [← eL] at hM ⊢
  have HM1 : Hid (MdS w tb F (.slice a1 L.length c1) L L w1) := hM
  have HSr : Hid (SrtM L) := hM.tr.srt
  clear hM eL HLs
  go_wp2_with fail
  refine (new_any _).mono ?_
  rintro e w2 ⟨xb, Fx0, rfl, hT, hFh, hb1⟩
  have hS2 : AyS w tb F (.slice a1 L.length c1) L xb Fx0 [] (.slice none 0 0) [] w2 := ⟨HM1.out.tr.below hb1, HM1.out.hi, hT, fun j hj => Nat.le_trans HM1.out.bel.size (hFh j hj), fun j hj hj2 => by (have h1 := HM1.out.tr.lt j hj; have h2 := hFh j hj2; omega), (HM1.out.doc.lo.below hb1).mono (fun k hk => ⟨hk.1, fun hF => by have := hFh k hF; omega⟩), LsE.nil _ _ _, HM1.out.bel.trans (hb1.mono HM1.out.bel.size)⟩
  have HS2 : Hid (AyS w tb F (.slice a1 L.length c1) L xb Fx0 [] (.slice none 0 0) [] w2) := hS2
  have hbe : Below w2.heap.size w2 (w2.alloc (.cells #[] 55)) := (Below.refl _ _).alloc (Nat.le_refl _) _
  have HB0 : Hid (BuS mcCells 7 55 w2 (.slice (some ⟨w2.heap.size, 0, none⟩) 0 0) [] (w2.alloc (.cells #[] 55))) := ⟨hbe, ownE_empty w2 _ (Nat.le_refl _)⟩
  have HD0 : Hid (fl L = [] ∨ ∃ b q, a1 = some ⟨b, q, none⟩ ∧ ∀ j u, (flatE mcCells (fl L))[j]? = some u → (w2.alloc (.cells #[] 55)).cell? ⟨b, q + j, none⟩ = some u) := by
    obtain ⟨a9, c9, e9, _, _, h9⟩ := hS2.doc.below hbe
    rcases h9 with h9 | ⟨b, q, ea, _, _, hr⟩
    · exact .inl h9
    · injection e9 with e91 e92 e93
      exact .inr ⟨b, q, by rw [e91, ea], rows_flat mcCells_lenR (fl L) q hr⟩
  have hsz0 : w2.heap.size ≤ (w2.alloc (.cells #[] 55)).heap.size := hbe.size
  have hfl : L.length = (fl L).length := (fl_length L).symm
  have HFl : Hid (L.length = (fl L).length) := hfl
  clear hS2 hbe hfl hT hFh hb1 HM1
  go_wp2_with (at_builtin; rw [HFl.out]; refine wpList_appL rfl _ _ rfl w2.heap.size w2.heap.size rfl HB0.out.own a1 c1 (fl L) rfl HD0.out (by rw [fl_length]; omega) hsz0 ?_; intro v3 w3 hown3 hgrow3; rw [← HFl.out]; have HB1 : Hid (BuS mcCells 7 55 w2 v3 ([] ++ fl L) w3) := HB0.out.pushes hown3 rfl hgrow3; clear hown3 hgrow3 HD0 HB0 hsz0)
  have HS3 : Hid (AyS w tb F (.slice a1 L.length c1) L xb Fx0 [] v3 L w3) := HS2.out.rest (by (have h9 := HB1.out; rw [List.nil_append] at h9; exact h9)) (by omega)
  have HA3 : Hid (AnyP L [] L) := AnyP.start HSr.out HFm.out
  clear HS2 HB1 HFl
  go_loopw [8, 9] (fun rv tv wr => ∃ (t : Nat) (R Lx : List Mv) (Fx : Nat → Prop), tv = .int .i64 (t : Int) ∧ t + R.length = L.length ∧ Hid (AyS w tb F (.slice a1 L.length c1) L xb Fx Lx rv R wr) ∧ Hid (AnyP L Lx R)) (fun rv _ _ => slLen rv)
  case atStart => exact ⟨0, L, [], Fx0, rfl, by omega, HS3, HA3⟩
  case round =>
    clear HS3 HA3
    obtain ⟨t, R, Lx, Fx, rfl, htR, HS, HAp⟩ := hrel
    obtain ⟨ar, cap, e5⟩ := HS.out.re.form
    rw [fl_length] at e5
    subst e5
    by_cases hR0 : 0 < R.length
    · have hne : R ≠ [] := by intro e; rw [e] at hR0; simp at hR0
      obtain ⟨b, o, ear, hblt, hnx, hcapR, hrr⟩ : ∃ b o, ar = some ⟨b, o, none⟩ ∧ b < wr.heap.size ∧ ¬ Fx b ∧ R.length ≤ cap ∧ (∀ i (h : i < (fl R).length) j u, (mcCells (fl R)[i])[j]? = some u → wr.cell? ⟨b, o + i * 7 + j, none⟩ = some u) := by
        obtain ⟨a9, c9, e9, hc9, _, h9⟩ := HS.out.re
        injection e9 with e91 e92 e93
        rcases h9 with h9 | ⟨b, q, ea, hg, hlt, hr⟩
        · exact absurd (by simpa [fl] using h9) hne
        · exact ⟨b, q, by rw [e91, ea], hlt, hg.2, by (rw [e93, ← fl_length]; exact hc9), hr⟩
      subst ear
      have HR : Hid (TouR Fx b o (fl R) wr) := ⟨hrr, hblt, hnx⟩
      have HP : Hid (∀ i (h : i < (fl R).length) j u, (mcCells (fl R)[i])[j]? = some u → wr.drew.cell? ⟨b, o + i * 7 + j, none⟩ = some u) := hrr
      have HLx : Hid (Lx.length ≤ 200) := by (show _ ≤ _; exact anyLx HAp.out hLl)
      have hR3 : R.length ≤ 4096 := by omega
      have r0 : (0 : Int) < (R.length : Int) := by omega
      clear hrr hblt hnx
      by_cases hto : t < od.length
      · obtain ⟨b9, o9, rfl, hb9, hrow2⟩ := HOr.out.resolve_left (by intro e; subst e; simp at hto)
        have q9 := (HS.out.bel.cell (p := ⟨b9, o9 + t, none⟩) hb9).trans (hrow2 t hto)
        have t1 : (t : Int) < (od.length : Int) := by omega
        have t0 : (0 : Int) ≤ (t : Int) := by omega
        clear hrow2 hb9
        obtain ⟨f, hf, ef⟩ := from_lt od[t] hR0 hR3
        go_upto_region 12 with fail
        (try rw [ef])
        clear ef q9
        obtain ⟨x, hx⟩ : ∃ x, R[f]? = some x := ⟨_, List.getElem?_eq_getElem hf⟩
        have HXf : Hid ((fl R)[f]? = some (x, false)) := fl_at2 hx
        have HOk : Hid (doE Lx x = 0) := HAp.out.ok (List.mem_of_getElem? hx)
        have HAn : Hid (AnyP L (doL Lx x) (R.take f ++ R.drop (f + 1))) := HAp.out.step hx
        have f1 : (f : Int) < (R.length : Int) := by omega
        have f0 : (0 : Int) ≤ (f : Int) := by omega
        have n5 : ((f : Int) + 1).toNat = f + 1 := by omega
        have n12 : IntKind.i64.wrap ((f : Int) + 1) = (f : Int) + 1 := by rw [IntKind.wrap_i64]; omega
        have z1 : (0 : Int) ≤ (f : Int) + 1 := by omega
        have z2 : (f : Int) + 1 ≤ (R.length : Int) := by omega
        have z3 : f ≤ cap := by omega
        have z4 : f + 1 ≤ cap := by omega
        clear hx
        refine wp_region_held_drew (S := fun W' => ∀ i (h : i < (fl R).length) j u, (mcCells (fl R)[i])[j]? = some u → W'.cell? ⟨b, o + i * 7 + j, none⟩ = some u) (by kernel_rfl) HP.out (fun hHeld => ?_)
        obtain ⟨Ua1u0, eW⟩ : ∃ X, X = wr.drew := ⟨_, rfl⟩
        have hb : Below wr.heap.size wr Ua1u0 := by rw [eW]; exact (Below.refl _ _).drew
        replace HS : Hid (AyS w tb F (.slice a1 L.length c1) L xb Fx Lx (.slice (some ⟨b, o, none⟩) R.length cap) R Ua1u0) := HS.out.below hb
        replace HR : Hid (TouR Fx b o (fl R) Ua1u0) := HR.out.below hb
        rw [← eW] at hHeld ⊢
        clear eW hb
        refine tkW 0 (some 42) (v := ?_) ?_ hHeld ?_
        rotate_left
        · (intro ww _; go_simp; try with_reducible rfl)
        refine tkW 1 (some 43) (v := ?_) ?_ hHeld ?_
        rotate_left
        · (intro ww _; go_simp; try with_reducible rfl)
        refine tkW 2 (some 44) (v := ?_) ?_ hHeld ?_
        rotate_left
        · (intro ww _; go_simp; try with_reducible rfl)
        refine tkW 3 (some 45) (v := ?_) ?_ hHeld ?_
        rotate_left
        · (intro ww hSw; (try dsimp only at hSw); have hS := hSw; have hR : RwB9 b o (fl R) ww := ⟨hS⟩; have x0 : ww.cell? ⟨b, o + f * 7, none⟩ = some (.int .i64 x.ts.1) := hR.at HXf.out 0 _ rfl; have x1 : ww.cell? ⟨b, o + f * 7 + 1, none⟩ = some (.int .i64 x.ts.2) := hR.at HXf.out 1 _ rfl; have x2 : ww.cell? ⟨b, o + f * 7 + 2, none⟩ = some (.int .i64 x.nd.1) := hR.at HXf.out 2 _ rfl; have x3 : ww.cell? ⟨b, o + f * 7 + 3, none⟩ = some (.int .i64 x.nd.2) := hR.at HXf.out 3 _ rfl; have x4 : ww.cell? ⟨b, o + f * 7 + 4, none⟩ = some (.int .i64 x.pr.1) := hR.at HXf.out 4 _ rfl; have x5 : ww.cell? ⟨b, o + f * 7 + 5, none⟩ = some (.int .i64 x.pr.2) := hR.at HXf.out 5 _ rfl; go_simp; try with_reducible rfl)
        refine tkW 4 (some 46) (v := ?_) ?_ hHeld ?_
        rotate_left
        · (intro ww _; go_simp; try with_reducible rfl)
        refine tkW 5 (some 47) (v := ?_) ?_ hHeld ?_
        rotate_left
        · (intro ww hSw; (try dsimp only at hSw); have hS := hSw; have hR : RwB9 b o (fl R) ww := ⟨hS⟩; have x0 : ww.cell? ⟨b, o + f * 7, none⟩ = some (.int .i64 x.ts.1) := hR.at HXf.out 0 _ rfl; have x1 : ww.cell? ⟨b, o + f * 7 + 1, none⟩ = some (.int .i64 x.ts.2) := hR.at HXf.out 1 _ rfl; have x2 : ww.cell? ⟨b, o + f * 7 + 2, none⟩ = some (.int .i64 x.nd.1) := hR.at HXf.out 2 _ rfl; have x3 : ww.cell? ⟨b, o + f * 7 + 3, none⟩ = some (.int .i64 x.nd.2) := hR.at HXf.out 3 _ rfl; have x4 : ww.cell? ⟨b, o + f * 7 + 4, none⟩ = some (.int .i64 x.pr.1) := hR.at HXf.out 4 _ rfl; have x5 : ww.cell? ⟨b, o + f * 7 + 5, none⟩ = some (.int .i64 x.pr.2) := hR.at HXf.out 5 _ rfl; go_simp; try with_reducible rfl)
        refine tkW 6 (some 48) (v := ?_) ?_ hHeld ?_
        rotate_left
        · (intro ww _; go_simp; try with_reducible rfl)
        refine tkW 7 (some 49) (v := ?_) ?_ hHeld ?_
        rotate_left
        · (intro ww _; go_simp; try with_reducible rfl)
        refine tkW 8 (some 50) (v := ?_) ?_ hHeld ?_
        rotate_left
        · (intro ww hSw; (try dsimp only at hSw); have hS := hSw; have hR : RwB9 b o (fl R) ww := ⟨hS⟩; have x0 : ww.cell? ⟨b, o + f * 7, none⟩ = some (.int .i64 x.ts.1) := hR.at HXf.out 0 _ rfl; have x1 : ww.cell? ⟨b, o + f * 7 + 1, none⟩ = some (.int .i64 x.ts.2) := hR.at HXf.out 1 _ rfl; have x2 : ww.cell? ⟨b, o + f * 7 + 2, none⟩ = some (.int .i64 x.nd.1) := hR.at HXf.out 2 _ rfl; have x3 : ww.cell? ⟨b, o + f * 7 + 3, none⟩ = some (.int .i64 x.nd.2) := hR.at HXf.out 3 _ rfl; have x4 : ww.cell? ⟨b, o + f * 7 + 4, none⟩ = some (.int .i64 x.pr.1) := hR.at HXf.out 4 _ rfl; have x5 : ww.cell? ⟨b, o + f * 7 + 5, none⟩ = some (.int .i64 x.pr.2) := hR.at HXf.out 5 _ rfl; go_simp; try with_reducible rfl)
        refine tkW 9 (some 51) (v := ?_) ?_ hHeld ?_
        rotate_left
        · (intro ww _; go_simp; try with_reducible rfl)
        refine tkW 10 (some 52) (v := ?_) ?_ hHeld ?_
        rotate_left
        · (intro ww hSw; (try dsimp only at hSw); have hS := hSw; have hR : RwB9 b o (fl R) ww := ⟨hS⟩; have x0 : ww.cell? ⟨b, o + f * 7, none⟩ = some (.int .i64 x.ts.1) := hR.at HXf.out 0 _ rfl; have x1 : ww.cell? ⟨b, o + f * 7 + 1, none⟩ = some (.int .i64 x.ts.2) := hR.at HXf.out 1 _ rfl; have x2 : ww.cell? ⟨b, o + f * 7 + 2, none⟩ = some (.int .i64 x.nd.1) := hR.at HXf.out 2 _ rfl; have x3 : ww.cell? ⟨b, o + f * 7 + 3, none⟩ = some (.int .i64 x.nd.2) := hR.at HXf.out 3 _ rfl; have x4 : ww.cell? ⟨b, o + f * 7 + 4, none⟩ = some (.int .i64 x.pr.1) := hR.at HXf.out 4 _ rfl; have x5 : ww.cell? ⟨b, o + f * 7 + 5, none⟩ = some (.int .i64 x.pr.2) := hR.at HXf.out 5 _ rfl; go_simp; try with_reducible rfl)
        refine tkW 11 (some 53) (v := ?_) ?_ hHeld ?_
        rotate_left
        · (intro ww _; go_simp; try with_reducible rfl)
        refine tkW 12 (some 54) (v := ?_) ?_ hHeld ?_
        rotate_left
        · (intro ww _; go_simp; try with_reducible rfl)
        refine tkW 13 (some 55) (v := ?_) ?_ hHeld ?_
        rotate_left
        · (intro ww hSw; (try dsimp only at hSw); have hS := hSw; have hR : RwB9 b o (fl R) ww := ⟨hS⟩; have x0 : ww.cell? ⟨b, o + f * 7, none⟩ = some (.int .i64 x.ts.1) := hR.at HXf.out 0 _ rfl; have x1 : ww.cell? ⟨b, o + f * 7 + 1, none⟩ = some (.int .i64 x.ts.2) := hR.at HXf.out 1 _ rfl; have x2 : ww.cell? ⟨b, o + f * 7 + 2, none⟩ = some (.int .i64 x.nd.1) := hR.at HXf.out 2 _ rfl; have x3 : ww.cell? ⟨b, o + f * 7 + 3, none⟩ = some (.int .i64 x.nd.2) := hR.at HXf.out 3 _ rfl; have x4 : ww.cell? ⟨b, o + f * 7 + 4, none⟩ = some (.int .i64 x.pr.1) := hR.at HXf.out 4 _ rfl; have x5 : ww.cell? ⟨b, o + f * 7 + 5, none⟩ = some (.int .i64 x.pr.2) := hR.at HXf.out 5 _ rfl; go_simp; try with_reducible rfl)
        refine tkW 14 (some 56) (v := ?_) ?_ hHeld ?_
        rotate_left
        · (intro ww _; go_simp; try with_reducible rfl)
        refine tkW 15 (some 57) (v := ?_) ?_ hHeld ?_
        rotate_left
        · (intro ww hSw; (try dsimp only at hSw); have hS := hSw; have hR : RwB9 b o (fl R) ww := ⟨hS⟩; have x0 : ww.cell? ⟨b, o + f * 7, none⟩ = some (.int .i64 x.ts.1) := hR.at HXf.out 0 _ rfl; have x1 : ww.cell? ⟨b, o + f * 7 + 1, none⟩ = some (.int .i64 x.ts.2) := hR.at HXf.out 1 _ rfl; have x2 : ww.cell? ⟨b, o + f * 7 + 2, none⟩ = some (.int .i64 x.nd.1) := hR.at HXf.out 2 _ rfl; have x3 : ww.cell? ⟨b, o + f * 7 + 3, none⟩ = some (.int .i64 x.nd.2) := hR.at HXf.out 3 _ rfl; have x4 : ww.cell? ⟨b, o + f * 7 + 4, none⟩ = some (.int .i64 x.pr.1) := hR.at HXf.out 4 _ rfl; have x5 : ww.cell? ⟨b, o + f * 7 + 5, none⟩ = some (.int .i64 x.pr.2) := hR.at HXf.out 5 _ rfl; go_simp; try with_reducible rfl)
        refine wpAnyH_ready (rs := [16]) (by kernel_rfl) (by simp) ?_
        refine AllReadyH.cons (o := ⟨some 58, _, _, _, _, _⟩) rfl (fun K hK => ?_) AllReadyH.nil
        go_simp
        refine (do_any Fx xb Lx x.ts x.nd x.pr _ HS.out.xt (by have := HLx.out; omega)).mono ?_
        rintro e Ua1u1 hd
        obtain ⟨he, hd2⟩ := id hd
        rw [show doE Lx ⟨x.ts, x.nd, x.pr⟩ = 0 from HOk.out] at he
        subst he
        (try go_wp2_with fail)
        obtain ⟨Fy, hS2⟩ := HS.out.did hd
        have hR2 : ∀ i (h : i < (fl R).length) j u, (mcCells (fl R)[i])[j]? = some u → Ua1u1.cell? ⟨b, o + i * 7 + j, none⟩ = some u := fun i hi j u hj => (HR.out.touch2 hd2 i hi j u hj)
        replace HS : Hid (AyS w tb F (.slice a1 L.length c1) L xb Fy (doL Lx x) (.slice (some ⟨b, o, none⟩) R.length cap) R Ua1u1) := hS2
        clear hd hS2
        refine hK.out _ _ (hR2) (fun hHeld2 => ?_)
        clear hK K hHeld
        have hHeld := hHeld2
        clear hHeld2
        (try simp only [Act.put, List.setIfInBounds_toArray, List.set_cons_zero, List.set_cons_succ])
        refine tkW 17 (some 59) (v := ?_) ?_ hHeld ?_
        rotate_left
        · (intro ww hSw; (try dsimp only at hSw); have hS := hSw; have hR : RwB9 b o (fl R) ww := ⟨hS⟩; have x0 : ww.cell? ⟨b, o + f * 7, none⟩ = some (.int .i64 x.ts.1) := hR.at HXf.out 0 _ rfl; have x1 : ww.cell? ⟨b, o + f * 7 + 1, none⟩ = some (.int .i64 x.ts.2) := hR.at HXf.out 1 _ rfl; have x2 : ww.cell? ⟨b, o + f * 7 + 2, none⟩ = some (.int .i64 x.nd.1) := hR.at HXf.out 2 _ rfl; have x3 : ww.cell? ⟨b, o + f * 7 + 3, none⟩ = some (.int .i64 x.nd.2) := hR.at HXf.out 3 _ rfl; have x4 : ww.cell? ⟨b, o + f * 7 + 4, none⟩ = some (.int .i64 x.pr.1) := hR.at HXf.out 4 _ rfl; have x5 : ww.cell? ⟨b, o + f * 7 + 5, none⟩ = some (.int .i64 x.pr.2) := hR.at HXf.out 5 _ rfl; go_simp; try with_reducible rfl)
        refine wpAnyH_done (by kernel_rfl) ?_ _
        clear hHeld
        have hbe : Below Ua1u1.heap.size Ua1u1 (Ua1u1.alloc (.cells #[] 55)) := (Below.refl _ _).alloc (Nat.le_refl _) _
        have HB0 : Hid (BuS mcCells 7 55 Ua1u1 (.slice (some ⟨Ua1u1.heap.size, 0, none⟩) 0 0) [] (Ua1u1.alloc (.cells #[] 55))) := ⟨hbe, ownE_empty Ua1u1 _ (Nat.le_refl _)⟩
        obtain ⟨hblt, hpl⟩ : b < Ua1u1.heap.size ∧ (∀ i (h : i < (fl R).length) j u, (mcCells (fl R)[i])[j]? = some u → Ua1u1.cell? ⟨b, o + i * 7 + j, none⟩ = some u) := HS.out.re.rowsOf
        have HC1 : Hid (∀ j u, (flatE mcCells (fl (R.take f)))[j]? = some u → (Ua1u1.alloc (.cells #[] 55)).cell? ((⟨b, o, none⟩ : Addr).add j) = some u) := fun j u hj => (by rw [Addr.add_lit]; exact (hbe.cell (p := ⟨b, o + j, none⟩) hblt).trans (rows_flat mcCells_lenR (fl R) o hpl j u (flat_pre hj)))
        have HC2 : Hid (∀ j u, (flatE mcCells (fl (R.drop (f + 1))))[j]? = some u → Ua1u1.cell? ⟨b, o + (f + 1) * 7 + j, none⟩ = some u) := fun j u hj => (by rw [Nat.add_assoc]; exact rows_flat mcCells_lenR (fl R) o hpl _ u (flat_suf hj))
        have HL1 : Hid ((fl (R.take f)).length = f) := by (show _ = _; rw [fl_length, List.length_take]; omega)
        have HL2 : Hid ((fl (R.drop (f + 1))).length = R.length - (f + 1)) := by (show _ = _; rw [fl_length, List.length_drop])
        have HBl : Hid (b < Ua1u1.heap.size) := hblt
        have hsz1 : Ua1u1.heap.size ≤ (Ua1u1.alloc (.cells #[] 55)).heap.size := hbe.size
        obtain ⟨A, hA, HA2⟩ : ∃ A : Addr, (if cap = f + 1 then some (⟨b, o, none⟩ : Addr) else some ⟨b, o + (f + 1) * 7, none⟩) = some A ∧ Hid (∀ V : World, Below Ua1u1.heap.size Ua1u1 V → ∀ j u, (flatE mcCells (fl (R.drop (f + 1))))[j]? = some u → V.cell? (A.add j) = some u) := src2 HC2.out HBl.out hcapR HL2.out
        clear hbe hpl hblt
        go_wp2_with (first
          | (at_builtin; refine wpList_append_own_at _ rfl _ _ 25 rfl Ua1u1.heap.size 55 imc (.agg #[.int .i64 0, .int .i64 0, .int .i64 0, .int .i64 0, .int .i64 0, .int .i64 0, .bool false]) 7 56 Try.underlying25 himc hz0mc hz1mc hz2mc rfl (by decide) _ _ _ rfl HB0.out.own ⟨b, o, none⟩ f cap (flatE mcCells (fl (R.take f))) rfl (by rw [flatE_length mcCells_lenR, HL1.out]) HC1.out (flat_mc _) (by simp only [List.length_nil]; unfold maxLen; omega) (by simp only [List.length_nil]; omega) hsz1 ?_; intro v1 w8 hown3 hgrow3 hnil3 hat3; have HB1 : Hid (BuS mcCells 7 55 Ua1u1 v1 ([] ++ (fl (R.take f))) w8) := HB0.out.pushes hown3 HL1.out hgrow3; have HC3 : Hid (∀ j u, (flatE mcCells (fl (R.drop (f + 1))))[j]? = some u → w8.cell? (A.add j) = some u) := HA2.out w8 HB1.out.bel; have hsz2 : Ua1u1.heap.size ≤ w8.heap.size := HB1.out.bel.size; clear hown3 hgrow3 hnil3 hat3 HB0 HC1 hsz1)
          | (at_builtin; refine wpList_append_own_at _ rfl _ _ 25 rfl Ua1u1.heap.size 55 imc (.agg #[.int .i64 0, .int .i64 0, .int .i64 0, .int .i64 0, .int .i64 0, .int .i64 0, .bool false]) 7 56 Try.underlying25 himc hz0mc hz1mc hz2mc rfl (by decide) _ _ _ rfl HB1.out.own A (R.length - (f + 1)) (cap - (f + 1)) (flatE mcCells (fl (R.drop (f + 1)))) rfl (by rw [flatE_length mcCells_lenR, HL2.out]) HC3.out (flat_mc _) (by have := HL1.out; simp only [List.nil_append]; unfold maxLen; omega) (by have := HL1.out; simp only [List.nil_append]; omega) hsz2 ?_; intro v2 w9 hown4 hgrow4 hnil4 hat4; have HB2 : Hid (BuS mcCells 7 55 Ua1u1 v2 ([] ++ (fl (R.take f)) ++ (fl (R.drop (f + 1)))) w9) := HB1.out.pushes hown4 HL2.out hgrow4; clear hown4 hgrow4 hnil4 hat4 HB1 HC3 hsz2))
        have HSn : Hid (AyS w tb F (.slice a1 L.length c1) L xb Fy (doL Lx x) v2 (R.take f ++ R.drop (f + 1)) w9) := HS.out.rest (by (have h9 := HB2.out; rw [List.nil_append, ← fl_app] at h9; exact h9)) (by simp; omega)
        have hRn : (R.take f ++ R.drop (f + 1)).length + 1 = R.length := by simp; omega
        obtain ⟨a5, c5, e5⟩ := HSn.out.re.form
        rw [fl_length] at e5
        subst e5
        go_roundw
        case rel => exact ⟨t + 1, _, _, Fy, by go_num, by omega, HSn, HAn⟩
        case measure => simp only [slLen]; omega
      · have t1 : ¬ (t : Int) < (od.length : Int) := by omega
        go_upto_region 12 with fail
        have z2 : (1 : Int) ≤ (R.length : Int) := by omega
        have z4 : 1 ≤ cap := by omega
        have z5 : 1 ≤ R.length := by omega
        obtain ⟨x, hx⟩ : ∃ x, R[0]? = some x := ⟨_, List.getElem?_eq_getElem hR0⟩
        have HXf : Hid ((fl R)[0]? = some (x, false)) := fl_at2 hx
        have HOk : Hid (doE Lx x = 0) := HAp.out.ok (List.mem_of_getElem? hx)
        have HAn : Hid (AnyP L (doL Lx x) (R.take 0 ++ R.drop 1)) := HAp.out.step hx
        clear hx
        refine wp_region_held_drew (S := fun W' => ∀ i (h : i < (fl R).length) j u, (mcCells (fl R)[i])[j]? = some u → W'.cell? ⟨b, o + i * 7 + j, none⟩ = some u) (by kernel_rfl) HP.out (fun hHeld => ?_)
        obtain ⟨Ua2u0, eW⟩ : ∃ X, X = wr.drew := ⟨_, rfl⟩
        have hb : Below wr.heap.size wr Ua2u0 := by rw [eW]; exact (Below.refl _ _).drew
        replace HS : Hid (AyS w tb F (.slice a1 L.length c1) L xb Fx Lx (.slice (some ⟨b, o, none⟩) R.length cap) R Ua2u0) := HS.out.below hb
        replace HR : Hid (TouR Fx b o (fl R) Ua2u0) := HR.out.below hb
        rw [← eW] at hHeld ⊢
        clear eW hb
        refine tkW 0 (some 42) (v := ?_) ?_ hHeld ?_
        rotate_left
        · (intro ww _; go_simp; try with_reducible rfl)
        refine tkW 1 (some 43) (v := ?_) ?_ hHeld ?_
        rotate_left
        · (intro ww _; go_simp; try with_reducible rfl)
        refine tkW 2 (some 44) (v := ?_) ?_ hHeld ?_
        rotate_left
        · (intro ww _; go_simp; try with_reducible rfl)
        refine tkW 3 (some 45) (v := ?_) ?_ hHeld ?_
        rotate_left
        · (intro ww hSw; (try dsimp only at hSw); have hS := hSw; have hR : RwB9 b o (fl R) ww := ⟨hS⟩; have x0 : ww.cell? ⟨b, o, none⟩ = some (.int .i64 x.ts.1) := hR.at HXf.out 0 _ rfl; have x1 : ww.cell? ⟨b, o + 1, none⟩ = some (.int .i64 x.ts.2) := hR.at HXf.out 1 _ rfl; have x2 : ww.cell? ⟨b, o + 2, none⟩ = some (.int .i64 x.nd.1) := hR.at HXf.out 2 _ rfl; have x3 : ww.cell? ⟨b, o + 3, none⟩ = some (.int .i64 x.nd.2) := hR.at HXf.out 3 _ rfl; have x4 : ww.cell? ⟨b, o + 4, none⟩ = some (.int .i64 x.pr.1) := hR.at HXf.out 4 _ rfl; have x5 : ww.cell? ⟨b, o + 5, none⟩ = some (.int .i64 x.pr.2) := hR.at HXf.out 5 _ rfl; go_simp; try with_reducible rfl)
        refine tkW 4 (some 46) (v := ?_) ?_ hHeld ?_
        rotate_left
        · (intro ww _; go_simp; try with_reducible rfl)
        refine tkW 5 (some 47) (v := ?_) ?_ hHeld ?_
        rotate_left
        · (intro ww hSw; (try dsimp only at hSw); have hS := hSw; have hR : RwB9 b o (fl R) ww := ⟨hS⟩; have x0 : ww.cell? ⟨b, o, none⟩ = some (.int .i64 x.ts.1) := hR.at HXf.out 0 _ rfl; have x1 : ww.cell? ⟨b, o + 1, none⟩ = some (.int .i64 x.ts.2) := hR.at HXf.out 1 _ rfl; have x2 : ww.cell? ⟨b, o + 2, none⟩ = some (.int .i64 x.nd.1) := hR.at HXf.out 2 _ rfl; have x3 : ww.cell? ⟨b, o + 3, none⟩ = some (.int .i64 x.nd.2) := hR.at HXf.out 3 _ rfl; have x4 : ww.cell? ⟨b, o + 4, none⟩ = some (.int .i64 x.pr.1) := hR.at HXf.out 4 _ rfl; have x5 : ww.cell? ⟨b, o + 5, none⟩ = some (.int .i64 x.pr.2) := hR.at HXf.out 5 _ rfl; go_simp; try with_reducible rfl)
        refine tkW 6 (some 48) (v := ?_) ?_ hHeld ?_
        rotate_left
        · (intro ww _; go_simp; try with_reducible rfl)
        refine tkW 7 (some 49) (v := ?_) ?_ hHeld ?_
        rotate_left
        · (intro ww _; go_simp; try with_reducible rfl)
        refine tkW 8 (some 50) (v := ?_) ?_ hHeld ?_
        rotate_left
        · (intro ww hSw; (try dsimp only at hSw); have hS := hSw; have hR : RwB9 b o (fl R) ww := ⟨hS⟩; have x0 : ww.cell? ⟨b, o, none⟩ = some (.int .i64 x.ts.1) := hR.at HXf.out 0 _ rfl; have x1 : ww.cell? ⟨b, o + 1, none⟩ = some (.int .i64 x.ts.2) := hR.at HXf.out 1 _ rfl; have x2 : ww.cell? ⟨b, o + 2, none⟩ = some (.int .i64 x.nd.1) := hR.at HXf.out 2 _ rfl; have x3 : ww.cell? ⟨b, o + 3, none⟩ = some (.int .i64 x.nd.2) := hR.at HXf.out 3 _ rfl; have x4 : ww.cell? ⟨b, o + 4, none⟩ = some (.int .i64 x.pr.1) := hR.at HXf.out 4 _ rfl; have x5 : ww.cell? ⟨b, o + 5, none⟩ = some (.int .i64 x.pr.2) := hR.at HXf.out 5 _ rfl; go_simp; try with_reducible rfl)
        refine tkW 9 (some 51) (v := ?_) ?_ hHeld ?_
        rotate_left
        · (intro ww _; go_simp; try with_reducible rfl)
        refine tkW 10 (some 52) (v := ?_) ?_ hHeld ?_
        rotate_left
        · (intro ww hSw; (try dsimp only at hSw); have hS := hSw; have hR : RwB9 b o (fl R) ww := ⟨hS⟩; have x0 : ww.cell? ⟨b, o, none⟩ = some (.int .i64 x.ts.1) := hR.at HXf.out 0 _ rfl; have x1 : ww.cell? ⟨b, o + 1, none⟩ = some (.int .i64 x.ts.2) := hR.at HXf.out 1 _ rfl; have x2 : ww.cell? ⟨b, o + 2, none⟩ = some (.int .i64 x.nd.1) := hR.at HXf.out 2 _ rfl; have x3 : ww.cell? ⟨b, o + 3, none⟩ = some (.int .i64 x.nd.2) := hR.at HXf.out 3 _ rfl; have x4 : ww.cell? ⟨b, o + 4, none⟩ = some (.int .i64 x.pr.1) := hR.at HXf.out 4 _ rfl; have x5 : ww.cell? ⟨b, o + 5, none⟩ = some (.int .i64 x.pr.2) := hR.at HXf.out 5 _ rfl; go_simp; try with_reducible rfl)
        refine tkW 11 (some 53) (v := ?_) ?_ hHeld ?_
        rotate_left
        · (intro ww _; go_simp; try with_reducible rfl)
        refine tkW 12 (some 54) (v := ?_) ?_ hHeld ?_
        rotate_left
        · (intro ww _; go_simp; try with_reducible rfl)
        refine tkW 13 (some 55) (v := ?_) ?_ hHeld ?_
        rotate_left
        · (intro ww hSw; (try dsimp only at hSw); have hS := hSw; have hR : RwB9 b o (fl R) ww := ⟨hS⟩; have x0 : ww.cell? ⟨b, o, none⟩ = some (.int .i64 x.ts.1) := hR.at HXf.out 0 _ rfl; have x1 : ww.cell? ⟨b, o + 1, none⟩ = some (.int .i64 x.ts.2) := hR.at HXf.out 1 _ rfl; have x2 : ww.cell? ⟨b, o + 2, none⟩ = some (.int .i64 x.nd.1) := hR.at HXf.out 2 _ rfl; have x3 : ww.cell? ⟨b, o + 3, none⟩ = some (.int .i64 x.nd.2) := hR.at HXf.out 3 _ rfl; have x4 : ww.cell? ⟨b, o + 4, none⟩ = some (.int .i64 x.pr.1) := hR.at HXf.out 4 _ rfl; have x5 : ww.cell? ⟨b, o + 5, none⟩ = some (.int .i64 x.pr.2) := hR.at HXf.out 5 _ rfl; go_simp; try with_reducible rfl)
        refine tkW 14 (some 56) (v := ?_) ?_ hHeld ?_
        rotate_left
        · (intro ww _; go_simp; try with_reducible rfl)
        refine tkW 15 (some 57) (v := ?_) ?_ hHeld ?_
        rotate_left
        · (intro ww hSw; (try dsimp only at hSw); have hS := hSw; have hR : RwB9 b o (fl R) ww := ⟨hS⟩; have x0 : ww.cell? ⟨b, o, none⟩ = some (.int .i64 x.ts.1) := hR.at HXf.out 0 _ rfl; have x1 : ww.cell? ⟨b, o + 1, none⟩ = some (.int .i64 x.ts.2) := hR.at HXf.out 1 _ rfl; have x2 : ww.cell? ⟨b, o + 2, none⟩ = some (.int .i64 x.nd.1) := hR.at HXf.out 2 _ rfl; have x3 : ww.cell? ⟨b, o + 3, none⟩ = some (.int .i64 x.nd.2) := hR.at HXf.out 3 _ rfl; have x4 : ww.cell? ⟨b, o + 4, none⟩ = some (.int .i64 x.pr.1) := hR.at HXf.out 4 _ rfl; have x5 : ww.cell? ⟨b, o + 5, none⟩ = some (.int .i64 x.pr.2) := hR.at HXf.out 5 _ rfl; go_simp; try with_reducible rfl)
        refine wpAnyH_ready (rs := [16]) (by kernel_rfl) (by simp) ?_
        refine AllReadyH.cons (o := ⟨some 58, _, _, _, _, _⟩) rfl (fun K hK => ?_) AllReadyH.nil
        go_simp
        refine (do_any Fx xb Lx x.ts x.nd x.pr _ HS.out.xt (by have := HLx.out; omega)).mono ?_
        rintro e Ua2u1 hd
        obtain ⟨he, hd2⟩ := id hd
        rw [show doE Lx ⟨x.ts, x.nd, x.pr⟩ = 0 from HOk.out] at he
        subst he
        (try go_wp2_with fail)
        obtain ⟨Fy, hS2⟩ := HS.out.did hd
        have hR2 : ∀ i (h : i < (fl R).length) j u, (mcCells (fl R)[i])[j]? = some u → Ua2u1.cell? ⟨b, o + i * 7 + j, none⟩ = some u := fun i hi j u hj => (HR.out.touch2 hd2 i hi j u hj)
        replace HS : Hid (AyS w tb F (.slice a1 L.length c1) L xb Fy (doL Lx x) (.slice (some ⟨b, o, none⟩) R.length cap) R Ua2u1) := hS2
        clear hd hS2
        refine hK.out _ _ (hR2) (fun hHeld2 => ?_)
        clear hK K hHeld
        have hHeld := hHeld2
        clear hHeld2
        (try simp only [Act.put, List.setIfInBounds_toArray, List.set_cons_zero, List.set_cons_succ])
        refine tkW 17 (some 59) (v := ?_) ?_ hHeld ?_
        rotate_left
        · (intro ww hSw; (try dsimp only at hSw); have hS := hSw; have hR : RwB9 b o (fl R) ww := ⟨hS⟩; have x0 : ww.cell? ⟨b, o, none⟩ = some (.int .i64 x.ts.1) := hR.at HXf.out 0 _ rfl; have x1 : ww.cell? ⟨b, o + 1, none⟩ = some (.int .i64 x.ts.2) := hR.at HXf.out 1 _ rfl; have x2 : ww.cell? ⟨b, o + 2, none⟩ = some (.int .i64 x.nd.1) := hR.at HXf.out 2 _ rfl; have x3 : ww.cell? ⟨b, o + 3, none⟩ = some (.int .i64 x.nd.2) := hR.at HXf.out 3 _ rfl; have x4 : ww.cell? ⟨b, o + 4, none⟩ = some (.int .i64 x.pr.1) := hR.at HXf.out 4 _ rfl; have x5 : ww.cell? ⟨b, o + 5, none⟩ = some (.int .i64 x.pr.2) := hR.at HXf.out 5 _ rfl; go_simp; try with_reducible rfl)
        refine wpAnyH_done (by kernel_rfl) ?_ _
        clear hHeld
        have hbe : Below Ua2u1.heap.size Ua2u1 (Ua2u1.alloc (.cells #[] 55)) := (Below.refl _ _).alloc (Nat.le_refl _) _
        have HB0 : Hid (BuS mcCells 7 55 Ua2u1 (.slice (some ⟨Ua2u1.heap.size, 0, none⟩) 0 0) [] (Ua2u1.alloc (.cells #[] 55))) := ⟨hbe, ownE_empty Ua2u1 _ (Nat.le_refl _)⟩
        obtain ⟨hblt, hpl⟩ : b < Ua2u1.heap.size ∧ (∀ i (h : i < (fl R).length) j u, (mcCells (fl R)[i])[j]? = some u → Ua2u1.cell? ⟨b, o + i * 7 + j, none⟩ = some u) := HS.out.re.rowsOf
        have HC1 : Hid (∀ j u, (flatE mcCells (fl (R.take 0)))[j]? = some u → (Ua2u1.alloc (.cells #[] 55)).cell? ((⟨b, o, none⟩ : Addr).add j) = some u) := fun j u hj => (by rw [Addr.add_lit]; exact (hbe.cell (p := ⟨b, o + j, none⟩) hblt).trans (rows_flat mcCells_lenR (fl R) o hpl j u (flat_pre hj)))
        have HC2 : Hid (∀ j u, (flatE mcCells (fl (R.drop 1)))[j]? = some u → Ua2u1.cell? ⟨b, o + 7 + j, none⟩ = some u) := fun j u hj => (by rw [Nat.add_assoc]; exact rows_flat mcCells_lenR (fl R) o hpl _ u (flat_suf (f := 0) hj))
        have HL1 : Hid ((fl (R.take 0)).length = 0) := by (show _ = _; rw [fl_length, List.length_take]; omega)
        have HL2 : Hid ((fl (R.drop 1)).length = R.length - 1) := by (show _ = _; rw [fl_length, List.length_drop])
        have HBl : Hid (b < Ua2u1.heap.size) := hblt
        have hsz1 : Ua2u1.heap.size ≤ (Ua2u1.alloc (.cells #[] 55)).heap.size := hbe.size
        obtain ⟨A, hA, HA2⟩ : ∃ A : Addr, (if cap = 1 then some (⟨b, o, none⟩ : Addr) else some ⟨b, o + 7, none⟩) = some A ∧ Hid (∀ V : World, Below Ua2u1.heap.size Ua2u1 V → ∀ j u, (flatE mcCells (fl (R.drop 1)))[j]? = some u → V.cell? (A.add j) = some u) := src2 (f := 0) HC2.out HBl.out hcapR HL2.out
        clear hbe hpl hblt
        go_wp2_with (first
          | (at_builtin; refine wpList_append_own_at _ rfl _ _ 25 rfl Ua2u1.heap.size 55 imc (.agg #[.int .i64 0, .int .i64 0, .int .i64 0, .int .i64 0, .int .i64 0, .int .i64 0, .bool false]) 7 56 Try.underlying25 himc hz0mc hz1mc hz2mc rfl (by decide) _ _ _ rfl HB0.out.own ⟨b, o, none⟩ 0 cap (flatE mcCells (fl (R.take 0))) rfl (by rw [flatE_length mcCells_lenR, HL1.out]) HC1.out (flat_mc _) (by simp only [List.length_nil]; unfold maxLen; omega) (by simp only [List.length_nil]; omega) hsz1 ?_; intro v1 w8 hown3 hgrow3 hnil3 hat3; have HB1 : Hid (BuS mcCells 7 55 Ua2u1 v1 ([] ++ (fl (R.take 0))) w8) := HB0.out.pushes hown3 HL1.out hgrow3; have HC3 : Hid (∀ j u, (flatE mcCells (fl (R.drop 1)))[j]? = some u → w8.cell? (A.add j) = some u) := HA2.out w8 HB1.out.bel; have hsz2 : Ua2u1.heap.size ≤ w8.heap.size := HB1.out.bel.size; clear hown3 hgrow3 hnil3 hat3 HB0 HC1 hsz1)
          | (at_builtin; refine wpList_append_own_at _ rfl _ _ 25 rfl Ua2u1.heap.size 55 imc (.agg #[.int .i64 0, .int .i64 0, .int .i64 0, .int .i64 0, .int .i64 0, .int .i64 0, .bool false]) 7 56 Try.underlying25 himc hz0mc hz1mc hz2mc rfl (by decide) _ _ _ rfl HB1.out.own A (R.length - 1) (cap - 1) (flatE mcCells (fl (R.drop 1))) rfl (by rw [flatE_length mcCells_lenR, HL2.out]) HC3.out (flat_mc _) (by have := HL1.out; simp only [List.nil_append]; unfold maxLen; omega) (by have := HL1.out; simp only [List.nil_append]; omega) hsz2 ?_; intro v2 w9 hown4 hgrow4 hnil4 hat4; have HB2 : Hid (BuS mcCells 7 55 Ua2u1 v2 ([] ++ (fl (R.take 0)) ++ (fl (R.drop 1))) w9) := HB1.out.pushes hown4 HL2.out hgrow4; clear hown4 hgrow4 hnil4 hat4 HB1 HC3 hsz2))
        have HSn : Hid (AyS w tb F (.slice a1 L.length c1) L xb Fy (doL Lx x) v2 (R.take 0 ++ R.drop 1) w9) := HS.out.rest (by (have h9 := HB2.out; rw [List.nil_append, ← fl_app] at h9; exact h9)) (by simp; omega)
        have hRn : (R.take 0 ++ R.drop 1).length + 1 = R.length := by simp; omega
        obtain ⟨a5, c5, e5⟩ := HSn.out.re.form
        rw [fl_length] at e5
        subst e5
        go_roundw
        case rel => exact ⟨t + 1, _, _, Fy, by go_num, by omega, HSn, HAn⟩
        case measure => simp only [slLen]; omega
    · have hRn : R = [] := by (cases R with | nil => rfl | cons x R => simp at hR0)
      subst hRn
      have HLe : Hid (Lx = L) := HAp.out.ends HSr.out
      obtain rfl : L = Lx := HLe.out.symm
      clear HLe HAp
      go_wp2_with fail
      refine (all_any Fx (.pointer (some ⟨xb, 0, none⟩)) L _ HS.out.xt.tv HS.out.xt.lt).mono ?_
      rintro e w5 ⟨v5, rfl, ho, ha⟩
      have hlt5 := HS.out.tt.lt
      have hl5 := ho.lt
      replace HS : Hid (AyS w tb F (.slice a1 L.length c1) L xb Fx L (.slice ar ([] : List Mv).length cap) [] w5) := HS.out.xask ha
      have HV5 : Hid (LsE plCells 6 (fun j => ¬ F j) w5 v5 (doneT L)) := ho.lsE plCells_len (by have := HTl.out; omega) (fun k e hF => by have h1 := (hl5 k e).1; have h2 := hlt5 k hF; omega)
      clear ho ha hlt5 hl5
      go_wp2_with fail
      refine (all_any F (.pointer (some ⟨tb, 0, none⟩)) L _ HS.out.tt.tv HS.out.tt.lt).mono ?_
      rintro e w6 ⟨v6, rfl, ho, ha⟩
      replace HV5 : Hid (LsE plCells 6 (fun j => ¬ F j) w6 v5 (doneT L)) := HV5.out.touch ha.2 (fun _ hk => hk)
      replace HS : Hid (AyS w tb F (.slice a1 L.length c1) L xb Fx L (.slice ar ([] : List Mv).length cap) [] w6) := HS.out.task ha
      have HV6 : Hid (LsE plCells 6 (fun _ => True) w6 v6 (doneT L)) := ho.lsE plCells_len (by have := HTl.out; omega) (fun _ _ => trivial)
      clear ho ha
      go_wp2_with fail
      refine (same_eq (fun j => ¬ F j) (fun _ => True) _ _ (doneT L) _ HV5.out HV6.out).mono ?_
      rintro e w7 ⟨rfl, hb⟩
      replace HS : Hid (AyS w tb F (.slice a1 L.length c1) L xb Fx L (.slice ar ([] : List Mv).length cap) [] w7) := HS.out.below hb
      clear hb HV5 HV6
      go_wp2_with fail
      refine (told_any Fx xb L (.slice a1 L.length c1) _ HS.out.xt (HS.out.doc.mono (fun _ hk => hk.2)) (by omega)).mono ?_
      rintro e w8 ⟨rfl, ha⟩
      replace HS : Hid (AyS w tb F (.slice a1 L.length c1) L xb Fx L (.slice ar ([] : List Mv).length cap) [] w8) := HS.out.xask ha
      clear ha
      go_wp2_with fail
      refine (awake_any _).mono ?_
      rintro e w9 ⟨rfl, hb⟩
      have HB : Hid (Below w.heap.size w w9) := HS.out.bel.trans (hb.mono HS.out.bel.size)
      clear hb HS
      go_wp2
      go_ret
      exact ⟨rfl, HB.out⟩

end Go.Proofs.Ytljepindfdhbbaa
