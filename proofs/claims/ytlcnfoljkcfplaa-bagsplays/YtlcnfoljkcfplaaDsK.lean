/- The document's Deliver. -/
import Derived.Test.YtlcnfoljkcfplaaDsJ
namespace Go.Proofs.Ytlcnfoljkcfplaa
open Go.RowKit Go.Shelf
set_option linter.unusedVariables false
set_option linter.unusedSimpArgs false

theorem hide9 {p : Prop} (h : p) : Hid p := h
theorem place_of {n : Nat} {L : List Sn} {f t i : Int} (h : peekE n L f t i = 0) : ∃ j : Nat, j < L.length ∧ placeL L f t i = (j : Int) := by
  rcases placeL_or L f t i with ⟨h1, _⟩ | ⟨j, hj, h1, _⟩
  · exfalso
    unfold peekE at h
    split at h
    · rename_i h2; exact h2 h
    · rw [if_pos (by omega)] at h; cases h
  · exact ⟨j, hj, h1⟩
theorem PeekP.form {G : Nat → Prop} {n : Nat} {L : List Sn} {f t i : Int} {w : World} {v : Value} (h : PeekP G n L f t i w v) (hp : peekE n L f t i = 0) : ∃ a m k, v = .slice a k m := by
  obtain ⟨j, hj, e⟩ := place_of hp
  obtain ⟨a, c, e2, _⟩ := h.2 j hj hp e
  exact ⟨a, c, _, e2⟩
def dvL (n : Nat) (L : List Sn) (f t i : Int) : List Sn := if peekE n L f t i = 0 then L.eraseIdx (placeL L f t i).toNat else L
theorem PeekP.keep {G : Nat → Prop} {n : Nat} {L : List Sn} {f t i : Int} {w w' : World} {v : Value} (h : PeekP G n L f t i w v) (hk : ∀ k, G k → w'.heap[k]? = w.heap[k]?) : PeekP G n L f t i w' v := ⟨h.1, fun j hj h1 h2 => (h.2 j hj h1 h2).keep hk⟩
theorem IsBG.keep9 {G : Nat → Prop} {w w' : World} {v v9 : Value} {p : List UInt8} {L : List Sn} (h : IsBG G w v p) (hs : SFirm G w' v9 L) (hk : ∀ k, G k → w'.heap[k]? = w.heap[k]?) : IsBG G w' v p := h.keep hk
theorem flatS_pre {E : List (Sn × Value)} {j i : Nat} {u : Value} (h : (flatS (E.take j))[i]? = some u) : (flatS E)[i]? = some u := by
  have e : flatS E = flatS (E.take j) ++ flatS (E.drop j) := by rw [← flatS_app, List.take_append_drop]
  rw [e, List.getElem?_append_left (List.getElem?_eq_some_iff.1 h).1]
  exact h
theorem flatS_suf {E : List (Sn × Value)} {j i : Nat} {u : Value} (hj : j ≤ E.length) (h : (flatS (E.drop j))[i]? = some u) : (flatS E)[j * 4 + i]? = some u := by
  have e : flatS E = flatS (E.take j) ++ flatS (E.drop j) := by rw [← flatS_app, List.take_append_drop]
  have hl : (flatS (E.take j)).length = j * 4 := by rw [flatS_length, List.length_take]; congr 1; omega
  rw [e, List.getElem?_append_right (by omega), hl, show j * 4 + i - j * 4 = i by omega]
  exact h
theorem src9 {G : Nat → Prop} {w2 : World} {b o c j : Nat} {E : List (Sn × Value)} {L : List Sn} (hEl : E.length = L.length) (hj : j < L.length) (hcap : L.length ≤ c) (hGb : G b) (hc : ∀ i u, (flatS E)[i]? = some u → w2.cell? ⟨b, o + i, none⟩ = some u) :
    ∃ b2 o2, (if c = j + 1 then some (⟨b, o, none⟩ : Addr) else some ⟨b, o + (j + 1) * 4, none⟩) = some ⟨b2, o2, none⟩ ∧ ∀ V, SFirm G V (.slice (some ⟨b, o, none⟩) L.length c) L → (∀ k, G k → V.heap[k]? = w2.heap[k]?) → ∀ i u, (flatS (E.drop (j + 1)))[i]? = some u → V.cell? ⟨b2, o2 + i, none⟩ = some u := by
  by_cases h : c = j + 1
  · rw [if_pos h]
    refine ⟨b, o, rfl, fun V _ _ i u hu => ?_⟩
    have : E.drop (j + 1) = [] := List.drop_eq_nil_of_le (by omega)
    rw [this] at hu
    simp [flatS] at hu
  · rw [if_neg h]
    refine ⟨b, o + (j + 1) * 4, rfl, fun V _ hk i u hu => ?_⟩
    rw [Nat.add_assoc]
    exact (World.cell?_of_block (w := w2) (hk b hGb)).trans (hc _ u (flatS_suf (by omega) hu))
theorem own_some {B : Nat} {w : World} {v : Value} {E : List (Sn × Value)} (h : OwnS B w v E) (hv : v ≠ .slice none 0 0) : ∃ g c, v = .slice (some ⟨g, 0, none⟩) E.length c := by
  rcases h.2 with ⟨e, _⟩ | ⟨g, cap, cur, e, _⟩
  · exact absurd e hv
  · exact ⟨g, cap, e⟩

set_option maxRecDepth 100000 in
set_option maxHeartbeats 8000000 in
theorem refDeliver_any (G : Nat → Prop) (n : Nat) (v : Value) (L : List Sn) (f t i : Int) (w : World) (h : SFirm G w v L) (hl : L.length ≤ 4000) :
    Calls Try.prog 18 #[.agg #[.int .i64 (n : Int), v], .int .i64 f, .int .i64 t, .int .i64 i] w fun e w' => ∃ v' pv G', e = .returned (.tuple #[.agg #[.int .i64 (n : Int), v'], pv, .int .i64 (peekE n L f t i)]) ∧ SFirm G' w' v' (dvL n L f t i) ∧ PeekP G n L f t i w' pv ∧ (∀ k, G' k → G k ∨ w.heap.size ≤ k) ∧ Below w.heap.size w w' := by
  have HGl : Hid (∀ k, G k → k < w.heap.size) := h.1
  obtain ⟨a1, c1, e1⟩ := h.isS.form
  subst e1
  obtain ⟨W0, eW⟩ : ∃ X, X = (w.alloc (.cells #[.int .i64 (n : Int), .slice a1 L.length c1] 30)).alloc (.cells #[.int .i64 0, .slice none 0 0] 30) := ⟨_, rfl⟩
  have hb : Below w.heap.size w W0 := by rw [eW]; exact ((Below.refl _ _).alloc (Nat.le_refl _) _).alloc (by simp) _
  have HS : Hid (SFirm G W0 (.slice a1 L.length c1) L) := h.below hb
  have HX : Hid (W0.heap[w.heap.size]? = some (.cells #[.int .i64 (n : Int), .slice a1 L.length c1] 30)) := by rw [eW]; exact (Below.heap_alloc _ _ _ (by simp)).trans (heap_alloc_new w _)
  have HZ : Hid (W0.heap[(w.heap.size + 1)]? = some (.cells #[.int .i64 0, .slice none 0 0] 30)) := by
    rw [eW]
    have h0 := heap_alloc_new (w.alloc (.cells #[.int .i64 (n : Int), .slice a1 L.length c1] 30)) (.cells #[.int .i64 0, .slice none 0 0] 30)
    rw [show (w.alloc (.cells #[.int .i64 (n : Int), .slice a1 L.length c1] 30)).heap.size = w.heap.size + 1 by simp] at h0
    exact h0
  have HB : Hid (Below w.heap.size w W0) := hb
  have HS0 : Hid (SFirm G w (.slice a1 L.length c1) L) := h
  have x_0 : W0.cell? ⟨w.heap.size, 0, none⟩ = some (.int .i64 (n : Int)) := (by rw [cell_of_row _ _ _ _ _ _ HX.out]; rfl)
  have x_1 : W0.cell? ⟨w.heap.size, 1, none⟩ = some (.slice a1 L.length c1) := (by rw [cell_of_row _ _ _ _ _ _ HX.out]; rfl)
  rw [eW] at x_0 x_1
  have HsW : Hid (W0.heap.size = w.heap.size + 2) := (by rw [eW]; show _ = _; simp)
  clear hb h
  go_enter Try.func18, Try.ntmps18
  go_wp2_with fail
  rw [← eW]
  clear eW x_0 x_1
  refine (refPeek_any G n _ L f t i _ HS.out).mono ?_
  rintro e w1 ⟨pv, rfl, hpk, hb⟩
  have HPk : Hid (PeekP G n L f t i w1 pv) := hpk
  clear hpk
  have HW1 : Hid (w.heap.size + 2 ≤ w1.heap.size) := (by show _ ≤ _; rw [← HsW.out]; exact hb.size)
  replace HS : Hid (SFirm G w1 (.slice a1 L.length c1) L) := HS.out.below hb
  replace HX : Hid (w1.heap[w.heap.size]? = some (.cells #[.int .i64 (n : Int), .slice a1 L.length c1] 30)) := (hb.block _ (row_lt HX.out)).trans HX.out
  replace HZ : Hid (w1.heap[(w.heap.size + 1)]? = some (.cells #[.int .i64 0, .slice none 0 0] 30)) := (hb.block _ (row_lt HZ.out)).trans HZ.out
  replace HB : Hid (Below w.heap.size w w1) := HB.out.trans (hb.mono HB.out.size)
  clear hb
  by_cases hpe : peekE n L f t i = 0
  rotate_left
  · have HdL : Hid (dvL n L f t i = L) := by (show _ = _; unfold dvL; rw [if_neg hpe])
    have g1 : (peekE n L f t i == 0) = false := by simp [hpe]
    obtain rfl : pv = .slice none 0 0 := HPk.out.1 hpe
    clear hpe
    obtain ⟨le, ele⟩ : ∃ x, x = peekE n L f t i := ⟨_, rfl⟩
    rw [← ele] at g1 ⊢
    have HpE : Hid (le = peekE n L f t i) := ele
    clear ele
    have x_0 : w1.cell? ⟨w.heap.size, 0, none⟩ = some (.int .i64 (n : Int)) := (by rw [cell_of_row _ _ _ _ _ _ HX.out]; rfl)
    have x_1 : w1.cell? ⟨w.heap.size, 1, none⟩ = some (.slice a1 L.length c1) := (by rw [cell_of_row _ _ _ _ _ _ HX.out]; rfl)
    obtain ⟨z_0, z_1, z_2, z_3⟩ := row2_cells HZ.out
    go_wp2
    (try simp only [Exit.inBlock, Exit.then])
    have HR : Hid (((w1.setCell ⟨w.heap.size + 1, 0, none⟩ (.int .i64 (n : Int))).setCell ⟨w.heap.size + 1, 1, none⟩ (.slice a1 L.length c1)).heap[w.heap.size + 1]? = some (.cells #[.int .i64 (n : Int), .slice a1 L.length c1] 30)) := row_set2 HZ.out
    have HBs : Hid (Below w.heap.size w ((w1.setCell ⟨w.heap.size + 1, 0, none⟩ (.int .i64 (n : Int))).setCell ⟨w.heap.size + 1, 1, none⟩ (.slice a1 L.length c1))) := (HB.out.setCell (p := ⟨w.heap.size + 1, 0, none⟩) (by show w.heap.size ≤ w.heap.size + 1; omega) _).setCell (p := ⟨w.heap.size + 1, 1, none⟩) (by show w.heap.size ≤ w.heap.size + 1; omega) _
    have HSs : Hid (SFirm G ((w1.setCell ⟨w.heap.size + 1, 0, none⟩ (.int .i64 (n : Int))).setCell ⟨w.heap.size + 1, 1, none⟩ (.slice a1 L.length c1)) (.slice a1 L.length c1) L) := HS0.out.keep HBs.out.size (fun k q => HBs.out.block k (HGl.out k q))
    refine bodyPost_ret (results_cell_row3 rfl _ _ (w.heap.size + 1) _ _ _ _ rfl HR.out Try.underlying30 rfl (by kernel_rfl) rfl rfl) rfl ?_
    exact ⟨_, _, G, (by rw [← HpE.out]; rfl), (by rw [HdL.out]; exact HSs.out), HPk.out.keep (fun k q => HBs.out.block k (HGl.out k q) |>.trans (HB.out.block k (HGl.out k q)).symm), fun k q => .inl q, HBs.out⟩
  have HpE : Hid (peekE n L f t i = 0) := hpe
  rw [hpe]
  clear hpe
  obtain ⟨ap, cp, ep⟩ : ∃ a m, ∃ k, pv = .slice a k m := HPk.out.form HpE.out
  obtain ⟨kp, ep⟩ := ep
  subst ep
  have x_0 : w1.cell? ⟨w.heap.size, 0, none⟩ = some (.int .i64 (n : Int)) := (by rw [cell_of_row _ _ _ _ _ _ HX.out]; rfl)
  have x_1 : w1.cell? ⟨w.heap.size, 1, none⟩ = some (.slice a1 L.length c1) := (by rw [cell_of_row _ _ _ _ _ _ HX.out]; rfl)
  go_wp2_with fail
  clear x_0 x_1
  refine (refPlace_any (n : Int) _ L f t i _ HS.out.isS).mono ?_
  rintro e w2 ⟨rfl, hb⟩
  have HW2 : Hid (w.heap.size + 2 ≤ w2.heap.size) := Nat.le_trans HW1.out hb.size
  replace HPk : Hid (PeekP G n L f t i w2 (.slice ap kp cp)) := HPk.out.keep (fun k q => hb.block k (by have := HGl.out k q; have := HW1.out; omega))
  replace HS : Hid (SFirm G w2 (.slice a1 L.length c1) L) := HS.out.below hb
  replace HX : Hid (w2.heap[w.heap.size]? = some (.cells #[.int .i64 (n : Int), .slice a1 L.length c1] 30)) := (hb.block _ (row_lt HX.out)).trans HX.out
  replace HZ : Hid (w2.heap[(w.heap.size + 1)]? = some (.cells #[.int .i64 0, .slice none 0 0] 30)) := (hb.block _ (row_lt HZ.out)).trans HZ.out
  replace HB : Hid (Below w.heap.size w w2) := HB.out.trans (hb.mono HB.out.size)
  clear hb
  obtain ⟨j, hj, hpl⟩ : ∃ j : Nat, j < L.length ∧ placeL L f t i = (j : Int) := place_of HpE.out
  have HdL : Hid (dvL n L f t i = L.eraseIdx j) := by (show _ = _; unfold dvL; rw [if_pos HpE.out, hpl]; rfl)
  rw [hpl]
  clear hpl
  obtain ⟨b, o, cap, E, ev, hcap, hGb, hEm, hEd, hc⟩ := HS.out.row (by intro e; rw [e] at hj; simp at hj)
  injection ev with ev1 ev2 ev3
  subst ev1
  subst ev3
  clear ev2
  have HEm : Hid (E.map Prod.fst = L) := hEm
  have hEl : E.length = L.length := by rw [← hEm]; simp
  have HEl : Hid (E.length = L.length ∧ L.length ≤ 4000) := ⟨hEl, hl⟩
  have HEd : Hid (∀ x ∈ E, (∃ a n c, x.2 = .slice a n c) ∧ IsBG G w2 x.2 x.1.p) := hEd
  have HbL : Hid (b < w2.heap.size) := Nat.lt_of_lt_of_le (HGl.out b hGb) (by have := HW2.out; omega)
  have HC1 : Hid (∀ i u, (flatS (E.take j))[i]? = some u → (w2.alloc (.cells #[] 76)).cell? ⟨b, o + i, none⟩ = some u) := (fun i u hu => (((Below.refl _ _).alloc (Nat.le_refl _) (.cells #[] 76)).cell (p := ⟨b, o + i, none⟩) HbL.out).trans (hc i u (flatS_pre hu)))
  obtain ⟨b2, o2, hAd, hC2⟩ : ∃ b2 o2, (if c1 = j + 1 then some (⟨b, o, none⟩ : Addr) else some ⟨b, o + (j + 1) * 4, none⟩) = some ⟨b2, o2, none⟩ ∧ ∀ V, SFirm G V (.slice (some ⟨b, o, none⟩) L.length c1) L → (∀ k, G k → V.heap[k]? = w2.heap[k]?) → ∀ i u, (flatS (E.drop (j + 1)))[i]? = some u → V.cell? ⟨b2, o2 + i, none⟩ = some u := src9 hEl hj hcap hGb hc
  have HAd := hide9 hAd
  have HC2a : Hid (∀ V, SFirm G V (.slice (some ⟨b, o, none⟩) L.length c1) L → (∀ k, G k → V.heap[k]? = w2.heap[k]?) → ∀ i u, (flatS (E.drop (j + 1)))[i]? = some u → V.cell? ⟨b2, o2 + i, none⟩ = some u) := hC2
  have y_1 : (w2.alloc (.cells #[] 76)).cell? ⟨w.heap.size, 1, none⟩ = some (.slice (some ⟨b, o, none⟩) L.length c1) := (((Below.refl _ _).alloc (Nat.le_refl _) (.cells #[] 76)).cell (p := ⟨w.heap.size, 1, none⟩) (row_lt HX.out)).trans (by rw [cell_of_row _ _ _ _ _ _ HX.out]; rfl)
  have j0 : (0 : Int) ≤ (j : Int) := by omega
  have j1 : (j : Int) ≤ (L.length : Int) := by omega
  have j3 : j ≤ c1 := by omega
  have j4 : (j : Int) ≤ (c1 : Int) := by omega
  clear hAd hC2 hEm hEl hEd hc hGb
  go_upto_region 6 with (at_builtin; refine wpList_appSs rfl (.tmp 32) (.tmp 36) rfl w2.heap.size _ [] rfl (World.ownsRow_made w2 #[] 0 (Nat.le_refl _) (by unfold maxLen; omega) (by simp)) b o j _ (E.take j) rfl (by rw [List.length_take]; have h9 := HEl.out; omega) HC1.out (fun x hx => (HEd.out x (List.mem_of_mem_take hx)).1) (by simp; have := HEl.out; omega) (by simp) ?_; intro v7 w7 hown7 hg7; rw [List.nil_append] at hown7; have hb : Below w2.heap.size w2 w7 := ((Below.refl _ _).alloc (Nat.le_refl _) (.cells #[] 76)).grown hg7 (by simp) (fun k e => Nat.le_of_eq (Option.some.inj e)))
  obtain ⟨T, eT⟩ : ∃ X, X = E.take j := ⟨_, rfl⟩
  rw [← eT] at hown7
  have HTe : Hid (T = E.take j) := eT
  clear eT
  obtain ⟨a7, c7, e7⟩ := hown7.form
  subst e7
  obtain ⟨N9, eN9⟩ : ∃ x, x = w2.heap.size := ⟨_, rfl⟩
  have HN9 : Hid (w.heap.size + 1 < N9) := (by show _ < _; rw [eN9]; exact HW2.out)
  have HBz : Hid (w.heap.size ≤ w7.heap.size) := (by have h1 := HW2.out; have h2 := hb.size; show _ ≤ _; omega)
  have HSw : Hid (∀ k, G k → w7.heap[k]? = w2.heap[k]?) := fun k q => hb.block k (by have := HGl.out k q; have := HW2.out; omega)
  have HP : Hid (PutS G N9 w (.slice a7 T.length c7) T w7) := ⟨by rw [eN9]; exact hown7, fun x hx => (HEd.out x (by rw [HTe.out] at hx; exact List.mem_of_mem_take hx)).2.keep HSw.out, by rw [eN9]; exact hb.size, fun k q => by (have := HGl.out k q; have := HN9.out; omega), HB.out.trans (hb.mono HB.out.size), by have := HN9.out; omega⟩
  replace HZ : Hid (w7.heap[(w.heap.size + 1)]? = some (.cells #[.int .i64 0, .slice none 0 0] 30)) := (hb.block _ (row_lt HZ.out)).trans HZ.out
  replace HX : Hid (w7.heap[w.heap.size]? = some (.cells #[.int .i64 (n : Int), .slice (some ⟨b, o, none⟩) L.length c1] 30)) := (hb.block _ (row_lt HX.out)).trans HX.out
  replace HB : Hid (Below w.heap.size w w7) := HB.out.trans (hb.mono HB.out.size)
  have HSr : Hid (SFirm G w7 (.slice (some ⟨b, o, none⟩) L.length c1) L) := HS.out.below hb
  replace HPk : Hid (PeekP G n L f t i w7 (.slice ap kp cp)) := HPk.out.keep HSw.out
  have n6 : IntKind.i64.wrap ((j : Int) + 1) = (j : Int) + 1 := by rw [IntKind.wrap_i64]; omega
  have n7 : ((j : Int) + 1).toNat = j + 1 := by omega
  have n8 : (0 : Int) ≤ (j : Int) + 1 := by omega
  have n9 : (j : Int) + 1 ≤ (L.length : Int) := by omega
  have n10 : j + 1 ≤ c1 := by omega
  have HB7 : Hid (Below w.heap.size w w7) := HB.out
  clear hb hg7 hown7 eN9 HS y_1
  refine wp_region_held_drew (S := fun W' => W'.heap[w.heap.size]? = some (.cells #[.int .i64 (n : Int), .slice (some ⟨b, o, none⟩) L.length c1] 30)) (by kernel_rfl) HX.out (fun hHeld => ?_)
  obtain ⟨Ud3u0, eW⟩ : ∃ X, X = w7.drew := ⟨_, rfl⟩
  have hb : Below w7.heap.size w7 Ud3u0 := by rw [eW]; exact (Below.refl _ _).drew
  replace HP : Hid (PutS G N9 w (.slice a7 T.length c7) T Ud3u0) := HP.out.below hb
  replace HZ : Hid (Ud3u0.heap[(w.heap.size + 1)]? = some (.cells #[.int .i64 0, .slice none 0 0] 30)) := (hb.block _ (row_lt HZ.out)).trans HZ.out
  replace HB : Hid (Below w.heap.size w Ud3u0) := HB.out.trans (hb.mono HB.out.size)
  replace HX : Hid (Ud3u0.heap[w.heap.size]? = some (.cells #[.int .i64 (n : Int), .slice (some ⟨b, o, none⟩) L.length c1] 30)) := (hb.block _ (row_lt HX.out)).trans HX.out
  replace HSr : Hid (SFirm G Ud3u0 (.slice (some ⟨b, o, none⟩) L.length c1) L) := HSr.out.below hb
  replace HSw : Hid (∀ k, G k → Ud3u0.heap[k]? = w2.heap[k]?) := fun k q => (hb.block k (by have h1 := HGl.out k q; have h2 := HBz.out; omega)).trans (HSw.out k q)
  rw [← eW] at hHeld ⊢
  clear eW hb
  refine tkW 0 (some 38) (v := ?_) ?_ hHeld ?_
  rotate_left
  · (intro w _; go_simp; try with_reducible rfl)
  refine tkW 1 (some 39) (v := ?_) ?_ hHeld ?_
  rotate_left
  · (intro w hSw; (try dsimp only at hSw); have hk := hSw; obtain ⟨k_0, k_1, _, _⟩ := row2_cells hk; go_simp; try with_reducible rfl)
  refine tkW 2 (some 40) (v := ?_) ?_ hHeld ?_
  rotate_left
  · (intro w _; go_simp; try with_reducible rfl)
  refine tkW 3 (some 41) (v := ?_) ?_ hHeld ?_
  rotate_left
  · (intro w _; go_simp; try with_reducible rfl)
  refine tkW 4 (some 42) (v := ?_) ?_ hHeld ?_
  rotate_left
  · (intro w hSw; (try dsimp only at hSw); have hk := hSw; obtain ⟨k_0, k_1, _, _⟩ := row2_cells hk; go_simp; try with_reducible rfl)
  refine tkW 5 (some 43) (v := ?_) ?_ hHeld ?_
  rotate_left
  · (intro w _; go_simp; try with_reducible rfl)
  refine tkW 6 (some 44) (v := ?_) ?_ hHeld ?_
  rotate_left
  · (intro w hSw; (try dsimp only at hSw); have hk := hSw; obtain ⟨k_0, k_1, _, _⟩ := row2_cells hk; go_simp; try with_reducible rfl)
  refine tkW 7 (some 45) (v := ?_) ?_ hHeld ?_
  rotate_left
  · (intro w hSw; (try dsimp only at hSw); have hk := hSw; obtain ⟨k_0, k_1, _, _⟩ := row2_cells hk; have hAd := HAd.out; go_simp; try with_reducible rfl)
  refine tkW 10 (some 48) (v := ?_) ?_ hHeld ?_
  rotate_left
  · (intro w _; go_simp; try with_reducible rfl)
  refine wpAnyH_ready (rs := [8]) (by kernel_rfl) (by simp) ?_
  refine AllReadyH.cons (o := ⟨some 46, _, _, _, _, _⟩) rfl (fun K hK => ?_) AllReadyH.nil
  refine step_appSs rfl (.tmp 40) (.tmp 45) rfl N9 _ T rfl HP.out.own b2 o2 _ _ (E.drop (j + 1)) rfl (by simp; have := HEl.out; omega) (HC2a.out _ HSr.out HSw.out) (fun x hx => (HEd.out x (List.mem_of_mem_drop hx)).1) (by rw [HTe.out]; simp; have := HEl.out; omega) HP.out.le ?_
  intro v9 Ud3u1 hown9 hg9
  have hF0 := (HP.out.pushs hown9 hg9 (fun x hx => (HEd.out x (List.mem_of_mem_drop hx)).2.keep9 HSr.out HSw.out)).firm (by rw [HTe.out]; simp; have := HEl.out; omega)
  have hF : SFirm (fun k => G k ∨ (N9 ≤ k ∧ k < Ud3u1.heap.size)) Ud3u1 v9 (L.eraseIdx j) := (by have e9 : (T ++ E.drop (j + 1)).map Prod.fst = L.eraseIdx j := (by rw [HTe.out, List.map_append, List.map_take, List.map_drop, HEm.out, List.eraseIdx_eq_take_drop_succ]); rw [e9] at hF0; exact hF0)
  clear hF0
  obtain ⟨av9, cv9, ev9⟩ := hF.isS.form
  subst ev9
  obtain ⟨L9, eL9⟩ : ∃ X, X = L.eraseIdx j := ⟨_, rfl⟩
  rw [← eL9] at hF ⊢
  have HL9 : Hid (L9 = L.eraseIdx j) := eL9
  clear eL9
  have HF : Hid (SFirm (fun k => G k ∨ (N9 ≤ k ∧ k < Ud3u1.heap.size)) Ud3u1 (.slice av9 L9.length cv9) L9) := hF
  have hne : ∀ q, q ≤ w.heap.size + 1 → some q ≠ (Value.slice a7 T.length c7).ownBlock := (fun q hb e => by have h2 := (World.ownsRow.lt HP.out.own q e.symm).1; have h3 := HN9.out; omega)
  replace HX : Hid (Ud3u1.heap[w.heap.size]? = some (.cells #[.int .i64 (n : Int), .slice (some ⟨b, o, none⟩) L.length c1] 30)) := (hg9.block _ (row_lt HX.out) (hne _ (by omega))).trans HX.out
  replace HZ : Hid (Ud3u1.heap[(w.heap.size + 1)]? = some (.cells #[.int .i64 0, .slice none 0 0] 30)) := (hg9.block _ (row_lt HZ.out) (hne _ (by omega))).trans HZ.out
  replace HB : Hid (Below w.heap.size w Ud3u1) := HB.out.grown hg9 HB.out.size (fun k e => by have h2 := (World.ownsRow.lt HP.out.own k e).1; have h3 := HN9.out; omega)
  clear hown9 hg9 hF hne HP HSr
  refine hK.out _ _ (HX.out) (fun hHeld2 => ?_)
  clear hK K hHeld
  have hHeld := hHeld2
  clear hHeld2
  (try simp only [Act.put, List.setIfInBounds_toArray, List.set_cons_zero, List.set_cons_succ])
  refine tkW 9 (some 47) (v := ?_) ?_ hHeld ?_
  rotate_left
  · (intro w hSw; (try dsimp only at hSw); have hk := hSw; obtain ⟨k_0, k_1, _, _⟩ := row2_cells hk; go_simp; try with_reducible rfl)
  refine wpAnyH_ready (rs := [11]) (by kernel_rfl) (by simp) ?_
  refine AllReadyH.cons (o := ⟨none, _, _, _, _, _⟩) rfl (fun K hK => ?_) AllReadyH.nil
  obtain ⟨z_0, z_1, z_2, z_3⟩ := row2_cells HZ.out
  go_simp
  refine hK.out _ _ (row_set_other (row_set_other hHeld (by omega)) (by omega)) (fun hHeld2 => ?_)
  clear hK K hHeld
  have hHeld := hHeld2
  clear hHeld2
  (try simp only [Act.put, List.setIfInBounds_toArray, List.set_cons_zero, List.set_cons_succ])
  have HR : Hid (((Ud3u1.setCell ⟨w.heap.size + 1, 0, none⟩ (.int .i64 (n : Int))).setCell ⟨w.heap.size + 1, 1, none⟩ (.slice av9 L9.length cv9)).heap[w.heap.size + 1]? = some (.cells #[.int .i64 (n : Int), .slice av9 L9.length cv9] 30)) := row_set2 HZ.out
  have HBs : Hid (Below w.heap.size w ((Ud3u1.setCell ⟨w.heap.size + 1, 0, none⟩ (.int .i64 (n : Int))).setCell ⟨w.heap.size + 1, 1, none⟩ (.slice av9 L9.length cv9))) := (HB.out.setCell (p := ⟨w.heap.size + 1, 0, none⟩) (by show w.heap.size ≤ w.heap.size + 1; omega) _).setCell (p := ⟨w.heap.size + 1, 1, none⟩) (by show w.heap.size ≤ w.heap.size + 1; omega) _
  have HSs : Hid (SFirm (fun k => G k ∨ (N9 ≤ k ∧ k < Ud3u1.heap.size)) ((Ud3u1.setCell ⟨w.heap.size + 1, 0, none⟩ (.int .i64 (n : Int))).setCell ⟨w.heap.size + 1, 1, none⟩ (.slice av9 L9.length cv9)) (.slice av9 L9.length cv9) L9) := HF.out.set2 (fun q => by (have h3 := HN9.out; rcases q with q | q; have := HGl.out _ q; omega; omega))
  clear z_0 z_1 z_2 z_3
  refine tkW 12 (some 9) (v := ?_) ?_ hHeld ?_
  rotate_left
  · (intro w _; go_simp; try with_reducible rfl)
  refine tkW 13 (some 10) (v := ?_) ?_ hHeld ?_
  rotate_left
  · (intro w _; go_simp; try with_reducible rfl)
  refine wpAnyH_done (by kernel_rfl) ?_ _
  clear hHeld
  go_wp2
  (try simp only [Exit.inBlock, Exit.then])
  refine bodyPost_ret (results_cell_row3 rfl _ _ (w.heap.size + 1) _ _ _ _ rfl HR.out Try.underlying30 rfl (by kernel_rfl) rfl rfl) rfl ?_
  exact ⟨_, _, fun k => G k ∨ (N9 ≤ k ∧ k < Ud3u1.heap.size), (by rw [HpE.out]; rfl), (by rw [HdL.out, ← HL9.out]; exact HSs.out), HPk.out.keep (fun k q => (HBs.out.block k (HGl.out k q)).trans (HB7.out.block k (HGl.out k q)).symm), fun k q => Or.imp id (fun q => by have := HN9.out; omega) q, HBs.out⟩

end Go.Proofs.Ytlcnfoljkcfplaa
