/- The document's Undo. -/
import Derived.Test.YtljepindfdhbbaaWlAy
import Derived.Test.YtljepindfdhbbaaTrQ
namespace Go.Proofs.Ytljepindfdhbbaa
open Go.RowKit
set_option linter.unusedVariables false
set_option linter.unusedSimpArgs false

theorem nextM {L : List Mv} {i : Nat} {x : Mv} {s : St} (h : ∀ j y, L[j]? = some y → j < i → y.ts ≠ s) (hx : L[i]? = some x) (hn : x.ts ≠ s) : ∀ j y, L[j]? = some y → j < i + 1 → y.ts ≠ s := fun j y hj hji => by
  rcases Nat.lt_or_ge j i with h1 | h1
  · exact h j y hj h1
  · obtain rfl : j = i := by omega
    rw [hj] at hx
    cases hx
    exact hn
theorem delM_at {L : List Mv} (hs : SrtM L) {i : Nat} {x : Mv} (hx : L[i]? = some x) : delM L x.ts = L.take i ++ L.drop (i + 1) := by
  obtain ⟨hi, e⟩ := List.getElem?_eq_some_iff.1 hx
  have hL : L = L.take i ++ x :: L.drop (i + 1) := by rw [← e, List.getElem_cons_drop, List.take_append_drop]
  have hs2 : SrtM (L.take i ++ x :: L.drop (i + 1)) := by rw [← hL]; exact hs
  obtain ⟨_, h2, h3⟩ := List.pairwise_append.1 hs2
  have h4 := (List.pairwise_cons.1 h2).1
  unfold delM
  conv => lhs; rw [hL]
  rw [List.filter_append, List.filter_cons_of_neg (by simp), List.filter_eq_self.2 (fun y hy => by simpa using ltS_ne (h3 y hy x (by simp))), List.filter_eq_self.2 (fun y hy => by simpa using (ltS_ne (h4 y hy)).symm)]

set_option maxRecDepth 100000 in
set_option maxHeartbeats 8000000 in
theorem refUndo_any (F : Nat → Prop) (v : Value) (L : List Mv) (s : St) (w : World) (h : LsE mcCells 7 (fun j => ¬ F j) w v (fl L)) (hF : ∀ j, F j → j < w.heap.size) (hs : SrtM L) (hl : L.length ≤ 4095) :
    Calls Try.prog 37 #[v, .agg #[.int .i64 s.1, .int .i64 s.2]] w fun e w' => ∃ v', e = .returned (.tuple #[v', .int .i64 (undoE L s)]) ∧ LsE mcCells 7 (fun j => ¬ F j) w' v' (fl (delM L s)) ∧ Below w.heap.size w w' := by
  obtain ⟨imc, himc, hz0mc, hz1mc, hz2mc⟩ := info_parts infoMc
  obtain ⟨W0, eW⟩ : ∃ X, X = w.alloc (.cells (stCells s).toArray 27) := ⟨_, rfl⟩
  have hb0 : Below w.heap.size w W0 := by rw [eW]; exact (Below.refl _ _).alloc (Nat.le_refl _) _
  obtain ⟨bx, ebx⟩ : ∃ b, b = w.heap.size := ⟨_, rfl⟩
  have hr0 : W0.heap[bx]? = some (.cells (stCells s).toArray 27) := by (rw [ebx, eW]; exact heap_alloc_new _ _)
  have HBl : Hid (bx < W0.heap.size) := row_lt hr0
  have HB0 : Hid (W0.cell? ⟨bx, 0, none⟩ = some (.int .i64 s.1)) := by (show _ = _; rw [cell_of_row W0 _ 0 _ _ _ hr0]; rfl)
  have HB1 : Hid (W0.cell? ⟨bx, 1, none⟩ = some (.int .i64 s.2)) := by (show _ = _; rw [cell_of_row W0 _ 1 _ _ _ hr0]; rfl)
  have HBe : Hid (Below w.heap.size w W0) := hb0
  have HLs : Hid (LsE mcCells 7 (fun j => ¬ F j) W0 v (fl L)) := h.below hb0
  have HSr : Hid (SrtM L) := hs
  have HFl : Hid (∀ j, F j → j < w.heap.size) := hF
  obtain ⟨a1, c1, e1⟩ := h.form
  rw [fl_length] at e1
  subst e1
  have HeW : Hid (W0 = w.alloc (.cells #[.int .i64 s.1, .int .i64 s.2] 27)) := eW
  have HeB : Hid (bx = w.heap.size) := ebx
  clear h hs hb0 hr0 eW ebx hF
  go_enter Try.func37, Try.ntmps37
  go_wp2
  rw [← HeW.out, ← HeB.out]
  clear HeW
  go_loopw [6] (fun iv wr => ∃ i : Nat, iv = .int .i64 (i : Int) ∧ i ≤ L.length ∧ Hid (∀ j y, L[j]? = some y → j < i → y.ts ≠ s) ∧ Hid (Below W0.heap.size W0 wr)) (fun iv _ => L.length - (intOf iv).toNat)
  case atStart => exact ⟨0, rfl, Nat.zero_le _, fun j y _ h => absurd h (Nat.not_lt_zero _), Below.refl _ _⟩
  case round =>
    obtain ⟨i, rfl, hi, HNe, HB⟩ := hrel
    by_cases hil : i < L.length
    · obtain ⟨b, o, ea, hlt, hcapL, hrr⟩ : ∃ b o, a1 = some ⟨b, o, none⟩ ∧ b < W0.heap.size ∧ L.length ≤ c1 ∧ (∀ i (h : i < (fl L).length) j u, (mcCells (fl L)[i])[j]? = some u → W0.cell? ⟨b, o + i * 7 + j, none⟩ = some u) := by
        obtain ⟨a9, c9, e9, hc9, _, h9⟩ := HLs.out
        injection e9 with e91 e92 e93
        rcases h9 with h9 | ⟨b, q, ea, hg, hlt, hr⟩
        · have := congrArg List.length h9; rw [fl_length, List.length_nil] at this; omega
        · exact ⟨b, q, by rw [e91, ea], hlt, by (rw [e93, ← fl_length]; exact hc9), hr⟩
      subst ea
      have HRs : Hid (∀ i (h : i < (fl L).length) j u, (mcCells (fl L)[i])[j]? = some u → W0.cell? ⟨b, o + i * 7 + j, none⟩ = some u) := hrr
      obtain ⟨x, hx⟩ : ∃ x, L[i]? = some x := ⟨_, List.getElem?_eq_getElem hil⟩
      have HXi : Hid (L[i]? = some x) := hx
      have hrow : ∀ j u, (mcCells (x, false))[j]? = some u → W0.cell? ⟨b, o + i * 7 + j, none⟩ = some u := fun j u hj => hrr i (by rw [fl_length]; exact hil) j u (by (rw [fl_get hil]; have h9 := (List.getElem?_eq_some_iff.1 hx).2; rw [h9]; exact hj))
      have HGl : Hid (b < W0.heap.size) := hlt
      have HX0 : Hid (W0.cell? ⟨b, o + i * 7, none⟩ = some (.int .i64 x.ts.1)) := hrow 0 _ rfl
      have HX1 : Hid (W0.cell? ⟨b, o + i * 7 + 1, none⟩ = some (.int .i64 x.ts.2)) := hrow 1 _ rfl
      have k1 : (i : Int) < (L.length : Int) := by omega
      have k0 : (0 : Int) ≤ (i : Int) := by omega
      clear hx hrow hlt hrr HLs
      go_wp2_with fail
      refine wp_region_held_drew (S := fun W' => Below W0.heap.size W0 W') (by kernel_rfl) HB.out.drew (fun hHeld => ?_)
      obtain ⟨Ua1u0, eW⟩ : ∃ X, X = wr.drew := ⟨_, rfl⟩
      have hb : Below wr.heap.size wr Ua1u0 := by rw [eW]; exact (Below.refl _ _).drew
      rw [← eW] at hHeld ⊢
      clear eW hb
      refine tkW 0 (some 14) (v := ?_) ?_ hHeld ?_
      rotate_left
      · (intro ww _; go_simp; try with_reducible rfl)
      refine tkW 1 (some 15) (v := ?_) ?_ hHeld ?_
      rotate_left
      · (intro ww _; go_simp; try with_reducible rfl)
      refine tkW 2 (some 16) (v := ?_) ?_ hHeld ?_
      rotate_left
      · (intro ww hSw; (try dsimp only at hSw); have hbw := hSw; have b0 := (hbw.cell (p := ⟨bx, 0, none⟩) HBl.out).trans HB0.out; have b1 := (hbw.cell (p := ⟨bx, 1, none⟩) HBl.out).trans HB1.out; have r0 := (hbw.cell (p := ⟨b, o + i * 7, none⟩) HGl.out).trans HX0.out; have r1 := (hbw.cell (p := ⟨b, o + i * 7 + 1, none⟩) HGl.out).trans HX1.out; go_simp; try with_reducible rfl)
      refine tkW 3 (some 17) (v := ?_) ?_ hHeld ?_
      rotate_left
      · (intro ww _; go_simp; try with_reducible rfl)
      refine tkW 4 (some 18) (v := ?_) ?_ hHeld ?_
      rotate_left
      · (intro ww hSw; (try dsimp only at hSw); have hbw := hSw; have b0 := (hbw.cell (p := ⟨bx, 0, none⟩) HBl.out).trans HB0.out; have b1 := (hbw.cell (p := ⟨bx, 1, none⟩) HBl.out).trans HB1.out; have r0 := (hbw.cell (p := ⟨b, o + i * 7, none⟩) HGl.out).trans HX0.out; have r1 := (hbw.cell (p := ⟨b, o + i * 7 + 1, none⟩) HGl.out).trans HX1.out; go_simp; try with_reducible rfl)
      refine tkW 5 (some 19) (v := ?_) ?_ hHeld ?_
      rotate_left
      · (intro ww hSw; (try dsimp only at hSw); have hbw := hSw; have b0 := (hbw.cell (p := ⟨bx, 0, none⟩) HBl.out).trans HB0.out; have b1 := (hbw.cell (p := ⟨bx, 1, none⟩) HBl.out).trans HB1.out; have r0 := (hbw.cell (p := ⟨b, o + i * 7, none⟩) HGl.out).trans HX0.out; have r1 := (hbw.cell (p := ⟨b, o + i * 7 + 1, none⟩) HGl.out).trans HX1.out; go_simp; try with_reducible rfl)
      refine tkW 6 (some 20) (v := .bool (decide ((x.ts.1, x.ts.2) = (s.1, s.2)))) ?_ hHeld ?_
      · (intro ww hSw; (try dsimp only at hSw); have hbw := hSw; have b0 := (hbw.cell (p := ⟨bx, 0, none⟩) HBl.out).trans HB0.out; have b1 := (hbw.cell (p := ⟨bx, 1, none⟩) HBl.out).trans HB1.out; have r0 := (hbw.cell (p := ⟨b, o + i * 7, none⟩) HGl.out).trans HX0.out; have r1 := (hbw.cell (p := ⟨b, o + i * 7 + 1, none⟩) HGl.out).trans HX1.out; go_simp; by_cases e1 : x.ts.1 = s.1 <;> by_cases e2 : x.ts.2 = s.2 <;> simp [e1, e2])
      refine wpAnyH_done (by kernel_rfl) ?_ _
      by_cases hxm : x.ts = s
      · have hxd : decide ((x.ts.1, x.ts.2) = (s.1, s.2)) = true := decide_eq_true hxm
        have HDl : Hid (delM L s = L.take i ++ L.drop (i + 1)) := by (rw [← hxm]; exact delM_at HSr.out HXi.out)
        have HUe : Hid (undoE L s = 0) := by (show _ = _; unfold undoE; rw [hasM_iff.2 ⟨x, List.mem_of_getElem? HXi.out, hxm⟩]; rfl)
        have HB9 : Hid (Below W0.heap.size W0 Ua1u0) := hHeld
        clear hHeld hxm
        rw [hxd]
        clear hxd
        have hbe : Below Ua1u0.heap.size Ua1u0 (Ua1u0.alloc (.cells #[] 55)) := (Below.refl _ _).alloc (Nat.le_refl _) _
        have HBu : Hid (BuS mcCells 7 55 Ua1u0 (.slice (some ⟨Ua1u0.heap.size, 0, none⟩) 0 0) [] (Ua1u0.alloc (.cells #[] 55))) := ⟨hbe, ownE_empty Ua1u0 _ (Nat.le_refl _)⟩
        obtain ⟨hblt, hpl⟩ : b < Ua1u0.heap.size ∧ (∀ i (h : i < (fl L).length) j u, (mcCells (fl L)[i])[j]? = some u → Ua1u0.cell? ⟨b, o + i * 7 + j, none⟩ = some u) := ⟨Nat.lt_of_lt_of_le HGl.out HB9.out.size, fun k hk j u hj => (HB9.out.cell (p := ⟨b, _, none⟩) HGl.out).trans (HRs.out k hk j u hj)⟩
        have HC1 : Hid (∀ j u, (flatE mcCells (fl (L.take i)))[j]? = some u → (Ua1u0.alloc (.cells #[] 55)).cell? ((⟨b, o, none⟩ : Addr).add j) = some u) := fun j u hj => (by rw [Addr.add_lit]; exact (hbe.cell (p := ⟨b, o + j, none⟩) hblt).trans (rows_flat mcCells_lenR (fl L) o hpl j u (flat_pre hj)))
        have HC2 : Hid (∀ j u, (flatE mcCells (fl (L.drop (i + 1))))[j]? = some u → Ua1u0.cell? ⟨b, o + (i + 1) * 7 + j, none⟩ = some u) := fun j u hj => (by rw [Nat.add_assoc]; exact rows_flat mcCells_lenR (fl L) o hpl _ u (flat_suf hj))
        have HL1 : Hid ((fl (L.take i)).length = i) := by (show _ = _; rw [fl_length, List.length_take]; omega)
        have HL2 : Hid ((fl (L.drop (i + 1))).length = L.length - (i + 1)) := by (show _ = _; rw [fl_length, List.length_drop])
        have hsz1 : Ua1u0.heap.size ≤ (Ua1u0.alloc (.cells #[] 55)).heap.size := hbe.size
        obtain ⟨A, hA, HA2⟩ : ∃ A : Addr, (if c1 = i + 1 then some (⟨b, o, none⟩ : Addr) else some ⟨b, o + (i + 1) * 7, none⟩) = some A ∧ Hid (∀ V : World, Below Ua1u0.heap.size Ua1u0 V → ∀ j u, (flatE mcCells (fl (L.drop (i + 1))))[j]? = some u → V.cell? (A.add j) = some u) := src2 HC2.out hblt hcapL HL2.out
        have n5 : ((i : Int) + 1).toNat = i + 1 := by omega
        have n12 : IntKind.i64.wrap ((i : Int) + 1) = (i : Int) + 1 := by rw [IntKind.wrap_i64]; omega
        have z1 : (0 : Int) ≤ (i : Int) + 1 := by omega
        have z2 : (i : Int) + 1 ≤ (L.length : Int) := by omega
        have z3 : i ≤ c1 := by omega
        have z4 : i + 1 ≤ c1 := by omega
        clear hbe hpl hblt
        go_wp2_with (first
          | (at_builtin; refine wpList_append_own_at _ rfl _ _ 25 rfl Ua1u0.heap.size 55 imc (.agg #[.int .i64 0, .int .i64 0, .int .i64 0, .int .i64 0, .int .i64 0, .int .i64 0, .bool false]) 7 56 Try.underlying25 himc hz0mc hz1mc hz2mc rfl (by decide) _ _ _ rfl HBu.out.own ⟨b, o, none⟩ i c1 (flatE mcCells (fl (L.take i))) rfl (by rw [flatE_length mcCells_lenR, HL1.out]) HC1.out (flat_mc _) (by simp only [List.length_nil]; unfold maxLen; omega) (by simp only [List.length_nil]; omega) hsz1 ?_; intro v1 w8 hown3 hgrow3 hnil3 hat3; have HBv : Hid (BuS mcCells 7 55 Ua1u0 v1 ([] ++ (fl (L.take i))) w8) := HBu.out.pushes hown3 HL1.out hgrow3; have HC3 : Hid (∀ j u, (flatE mcCells (fl (L.drop (i + 1))))[j]? = some u → w8.cell? (A.add j) = some u) := HA2.out w8 HBv.out.bel; have hsz2 : Ua1u0.heap.size ≤ w8.heap.size := HBv.out.bel.size; clear hown3 hgrow3 hnil3 hat3 HBu HC1 hsz1)
          | (at_builtin; refine wpList_append_own_at _ rfl _ _ 25 rfl Ua1u0.heap.size 55 imc (.agg #[.int .i64 0, .int .i64 0, .int .i64 0, .int .i64 0, .int .i64 0, .int .i64 0, .bool false]) 7 56 Try.underlying25 himc hz0mc hz1mc hz2mc rfl (by decide) _ _ _ rfl HBv.out.own A (L.length - (i + 1)) (c1 - (i + 1)) (flatE mcCells (fl (L.drop (i + 1)))) rfl (by rw [flatE_length mcCells_lenR, HL2.out]) HC3.out (flat_mc _) (by have := HL1.out; simp only [List.nil_append]; unfold maxLen; omega) (by have := HL1.out; simp only [List.nil_append]; omega) hsz2 ?_; intro v2 w9 hown4 hgrow4 hnil4 hat4; have HBw : Hid (BuS mcCells 7 55 Ua1u0 v2 ([] ++ (fl (L.take i)) ++ (fl (L.drop (i + 1)))) w9) := HBv.out.pushes hown4 HL2.out hgrow4; clear hown4 hgrow4 hnil4 hat4 HBv HC3 hsz2))
        go_ret2
        refine ⟨v2, by (rw [HUe.out]; rfl), ?_, (HBe.out.trans (HB9.out.mono HBe.out.size)).trans (HBw.out.bel.mono (Nat.le_trans HBe.out.size HB9.out.size))⟩
        rw [HDl.out, fl_app]
        have h9 := HBw.out
        rw [List.nil_append] at h9
        exact h9.own.lsE mcCells_lenR (by rw [List.length_append, HL1.out, HL2.out]; omega) (fun k e hF => by have h1 := (h9.own.lt k e).1; have h2 := HFl.out k hF; have h3 := HBe.out.size; have h4 := HB9.out.size; omega)
      · have hxd : decide ((x.ts.1, x.ts.2) = (s.1, s.2)) = false := decide_eq_false hxm
        have HNx : Hid (∀ j y, L[j]? = some y → j < i + 1 → y.ts ≠ s) := nextM HNe.out HXi.out hxm
        have HB9 : Hid (Below W0.heap.size W0 Ua1u0) := hHeld
        clear hHeld hxm
        rw [hxd]
        clear hxd
        go_wp2
        go_roundw
        case rel => exact ⟨i + 1, by go_num, by omega, HNx, HB9⟩
        case measure => simp [intOf]; omega
    · obtain rfl : i = L.length := by omega
      have HNo : Hid (hasM L s = false) := hasM_no.2 fun x hx => by
        obtain ⟨j, hj, rfl⟩ := List.mem_iff_getElem.1 hx
        exact HNe.out j _ (List.getElem?_eq_getElem hj) hj
      have HUe : Hid (undoE L s = 4) := by (show _ = _; unfold undoE; rw [HNo.out]; rfl)
      go_wp2
      go_ret2
      exact ⟨_, by (rw [HUe.out]; rfl), by (rw [delM_no HNo.out]; exact HLs.out.below HB.out), HBe.out.trans (HB.out.mono HBe.out.size)⟩

end Go.Proofs.Ytljepindfdhbbaa
