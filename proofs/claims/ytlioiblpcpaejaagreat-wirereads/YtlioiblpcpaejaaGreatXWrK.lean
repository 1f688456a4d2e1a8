/- What wire's Read gives lies in blocks that are new. -/
import Derived.Test.YtlioiblpcpaejaaGreatXM
namespace Go.Proofs.YtlioiblpcpaejaaGreat
open Go.RowKit
set_option linter.unusedVariables false
set_option linter.unusedSimpArgs false

/-- What Read gives, in blocks that are new. -/
def GotFrK (f : Fr) (k : Int) (w : World) (e : Ending) (w' : World) : Prop := ∃ a1 c1 a2 c2, e = .returned (.tuple #[.agg #[.int .i64 f.kind, .int .i64 f.from_, .slice a1 f.clock.length c1, .bool f.more, .slice a2 f.changes.length c2], .int .i64 k]) ∧ (∀ W' : World, (∀ j, w.heap.size ≤ j → j < w'.heap.size → W'.heap[j]? = w'.heap[j]?) → IsI W' (.slice a1 f.clock.length c1) f.clock ∧ IsH W' (.slice a2 f.changes.length c2) f.changes) ∧ Below w.heap.size w w'
theorem GotFrK.zero {k : Int} {w w' : World} (h : Below w.heap.size w w') : GotFrK Fr.none k w (.returned (.tuple #[.agg #[.int .i64 0, .int .i64 0, .slice none 0 0, .bool false, .slice none 0 0], .int .i64 k])) w' := ⟨none, 0, none, 0, rfl, fun _ _ => ⟨IsI.non 0, IsH.non 0⟩, h⟩

set_option maxRecDepth 100000 in
set_option maxHeartbeats 8000000 in
theorem readK_any (v : Value) (p : List UInt8) (w : World) (h1 : IsB w v p) :
    Calls Tryz.prog 4 #[v] w fun e w' => GotFrK (readF p).1 (readF p).2 w e w' := by
  have HB0 : Hid (Below w.heap.size w (w.alloc (.cells #[.int .i64 0, .int .i64 0, .slice none 0 0, .bool false, .slice none 0 0] 26))) := (Below.refl _ _).alloc (Nat.le_refl _) _
  have HR0 : Hid ((w.alloc (.cells #[.int .i64 0, .int .i64 0, .slice none 0 0, .bool false, .slice none 0 0] 26)).heap[w.heap.size]? = some (.cells #[.int .i64 0, .int .i64 0, .slice none 0 0, .bool false, .slice none 0 0] 26)) := heap_alloc_new _ _
  have H1 : Hid (IsB (w.alloc (.cells #[.int .i64 0, .int .i64 0, .slice none 0 0, .bool false, .slice none 0 0] 26)) v p) := h1.below HB0.out
  clear h1
  go_enter Tryz.func4, Tryz.ntmps4
  go_wp2_with fail
  refine (open_any v p _ H1.out).mono ?_
  rintro e w1 ⟨v1, rfl, o1, hb1⟩
  have HR1 : Hid (w1.heap[w.heap.size]? = some (.cells #[.int .i64 0, .int .i64 0, .slice none 0 0, .bool false, .slice none 0 0] 26)) := (hb1.block _ (by simp)).trans HR0.out
  have HB1 : Hid (Below w.heap.size w w1) := HB0.out.trans (hb1.mono (by simp))
  have hz1 : w.heap.size < w1.heap.size := row_lt HR1.out
  have HO1 : Hid (OwnB (w.alloc (.cells #[.int .i64 0, .int .i64 0, .slice none 0 0, .bool false, .slice none 0 0] 26)).heap.size w1 v1 (openL p).2.1) := o1
  clear o1 hb1 H1 HR0 HB0
  by_cases ho : (openL p).2.2 = 0
  · skip
    obtain ⟨hk1, hk2, hlo, _, eo, _⟩ := seal_open ho
    obtain ⟨⟨kn, load, z⟩, eR⟩ : ∃ r, openL p = r := ⟨_, rfl⟩
    rw [eR] at ho hk1 hk2 hlo HO1 ⊢
    simp only at ho hk1 hk2 hlo HO1 ⊢
    subst ho
    obtain ⟨⟨fm, k1, y1⟩, e1⟩ : ∃ r, numR load 0 0 = r := ⟨_, rfl⟩
    obtain ⟨⟨cl, k2, y2⟩, e2⟩ : ∃ r, numsR load k1 y1 = r := ⟨_, rfl⟩
    obtain ⟨⟨mo, k3, y3⟩, e3⟩ : ∃ r, rdC load k2 y2 1 = r := ⟨_, rfl⟩
    obtain ⟨⟨lc, k4, y4⟩, e4⟩ : ∃ r, chsR 65536 load k3 y3 = r := ⟨_, rfl⟩
    have ES : frR 65536 load 0 0 = ((fm, cl, mo, lc), k4, y4) := by unfold frR seqR; simp only [e1, e2, e3, e4]
    have HQ : Hid (readF p = if doneL load k4 y4 = 0 ∧ headFr ⟨(kn : Int), fm, cl, decide (mo = 1), lc⟩ = 0 then (⟨(kn : Int), fm, cl, decide (mo = 1), lc⟩, 0) else (Fr.none, 2)) := by
      show _ = _
      unfold readF
      rw [eR, if_pos rfl]
      simp only
      unfold loadF
      rw [ES]
      rfl
    have C1 : Hid (∀ L g W, RdIs L W g load 0 0 → Calls Tryz.prog 10 #[.pointer (some ⟨g, 0, none⟩)] W fun e w' => e = .returned (.int .i64 fm) ∧ RdIs L w' g load k1 y1 ∧ W.grownBy w' (some g)) := fun L g W hW => by
      have := num_rd L g load 0 0 W hW; unfold numR at e1; rw [e1] at this; exact this
    have C2 : Hid (∀ L g W, RdIs L W g load k1 y1 → (∀ j, L j → j < W.heap.size) → Calls Tryz.prog 11 #[.pointer (some ⟨g, 0, none⟩)] W fun e w' => ∃ v, e = .returned v ∧ OwnI W.heap.size w' v cl ∧ RdIs L w' g load k2 y2 ∧ W.grownBy w' (some g)) := fun L g W hW hj => by
      have := readNumbers_rd L g load k1 y1 W hW hj; rw [e2] at this; exact this
    have C3 : Hid (∀ L g W, RdIs L W g load k2 y2 → Calls Tryz.prog 12 #[.pointer (some ⟨g, 0, none⟩), .int .i64 1] W fun e w' => e = .returned (.int .i64 mo) ∧ RdIs L w' g load k3 y3 ∧ W.grownBy w' (some g)) := fun L g W hW => by
      have := count_rd L g load k2 y2 1 W hW; rw [e3] at this; exact this
    have C4 : Hid (∀ L g W, RdIs L W g load k3 y3 → (∀ j, L j → j < W.heap.size) → Calls Tryz.prog 14 #[.pointer (some ⟨g, 0, none⟩)] W fun e w' => ∃ v ee D, e = .returned (.tuple #[v, .int .i64 ee]) ∧ OwnH W.heap.size w' v D ∧ (∀ x ∈ D, OwnI W.heap.size w' x.2 x.1.deps ∧ Sized x.1) ∧ D.length ≤ 64 ∧ W.grownBy w' (some g) ∧ ∃ k' y', RdIs L w' g load k' y' ∧ ((ee = 0 ∧ (lc, k4, y4) = (D.map Prod.fst, k', y')) ∨ (ee ≠ 0 ∧ y4 ≠ 0))) := fun L g W hW hj => by
      have := readChanges_any L g load k3 y3 W hW hj; rw [e4] at this; exact this
    have hcl64 : cl.length ≤ 64 := by
      have h0 : (numsR load k1 y1).1.length ≤ 64 := by
        show (manyOf numR (rdC load k1 y1 64).1.toNat load (rdC load k1 y1 64).2.1 (rdC load k1 y1 64).2.2).1.length ≤ 64
        rw [manyOf_len]
        have := rdC_nat load k1 y1 64
        omega
      rw [e2] at h0
      exact h0
    have HDEP : Hid (y4 = 0 → ∀ c ∈ lc, checkCh c = 0) := fun h0 => chs_deps e4 h0 (by decide) (by decide)
    clear e1 e2 e3 e4 ES eR
    have I1 : Hid (IsB w1 v1 load) := HO1.out.isB (by omega)
    have hl47 : load.length ≤ 140737488355328 := by omega
    go_wp2_with fail
    refine (new_any v1 load _ I1.out hl47).mono ?_
    rintro e w2 ⟨g, rfl, r2, hb2⟩
    have HL : Hid (RdIs (fun j => w1.heap.size ≤ j ∧ j < w2.heap.size) w2 g load 0 0) := r2
    have hgl : w1.heap.size ≤ g := r2.low.1
    have hgl2 : g < w2.heap.size := r2.low.2
    have HR2 : Hid (w2.heap[w.heap.size]? = some (.cells #[.int .i64 0, .int .i64 0, .slice none 0 0, .bool false, .slice none 0 0] 26)) := (hb2.block _ hz1).trans HR1.out
    have HB2 : Hid (Below w.heap.size w w2) := HB1.out.trans (hb2.mono (by omega))
    have hz2 : w1.heap.size ≤ w2.heap.size := hb2.size
    clear r2 hb2 HR1 HB1 HO1 I1
    have BX : Hid (Below w2.heap.size w2 (w2.alloc (.cells #[.int .i64 (kn : Int), .int .i64 0, .slice none 0 0, .bool false, .slice none 0 0] 26))) := (Below.refl _ _).alloc (Nat.le_refl _) _
    have R1 : Hid (RF w (fun j => w1.heap.size ≤ j ∧ j < w2.heap.size) g w2.heap.size load 0 0 #[.int .i64 (kn : Int), .int .i64 0, .slice none 0 0, .bool false, .slice none 0 0] (w2.alloc (.cells #[.int .i64 (kn : Int), .int .i64 0, .slice none 0 0, .bool false, .slice none 0 0] 26))) := ⟨HL.out.below BX.out, heap_alloc_new _ _, (BX.out.block _ (by omega)).trans HR2.out, HB2.out.trans (BX.out.mono (by omega)), fun h => Nat.lt_irrefl _ h.2, fun h => by have := h.1; omega, by omega, by omega, fun j hj => by have := hj.2; simp; omega⟩
    clear HL HR2 HB2 BX
    generalize hLL : (fun j => w1.heap.size ≤ j ∧ j < w2.heap.size) = LL at *
    clear hLL
    go_wp2_with fail
    refine (C1.out _ g _ R1.out.1).mono ?_
    rintro e w3 ⟨rfl, r3, g3⟩
    have Ra : Hid (RF w LL g w2.heap.size load k1 y1 #[.int .i64 (kn : Int), .int .i64 0, .slice none 0 0, .bool false, .slice none 0 0] w3) := R1.out.call r3 g3
    clear r3 g3 R1 C1
    generalize w2.heap.size = gx at *
    clear hz2 hgl2 hgl
    obtain ⟨c_0, c_1, c_2, c_3, c_4⟩ := Ra.out.cells
    have f_1 := Ra.out.free 1
    have R2 : Hid (RF w LL g gx load k1 y1 #[.int .i64 (kn : Int), .int .i64 fm, .slice none 0 0, .bool false, .slice none 0 0] (w3.setCell ⟨gx, 1, none⟩ (.int .i64 fm))) := by
      have h0 := Ra.out.set 1 (.int .i64 fm)
      simp only [List.setIfInBounds_toArray, List.set_cons_zero, List.set_cons_succ] at h0
      exact h0
    clear Ra c_0 c_2 c_3 c_4
    go_wp2_with fail
    clear c_1 f_1
    refine (C2.out _ g _ R2.out.1 R2.out.2.2.2.2.2.2.2.2).mono ?_
    rintro e w4 ⟨v4, rfl, o4, r4, g4⟩
    obtain ⟨ac, cc, ev⟩ := o4.form
    subst ev
    have Ra : Hid (RF w LL g gx load k2 y2 #[.int .i64 (kn : Int), .int .i64 fm, .slice none 0 0, .bool false, .slice none 0 0] w4) := R2.out.call r4 g4
    have hN1 : gx < (w3.setCell ⟨gx, 1, none⟩ (.int .i64 fm)).heap.size := row_lt R2.out.2.1
    have hN2 : g < (w3.setCell ⟨gx, 1, none⟩ (.int .i64 fm)).heap.size := R2.out.1.lt
    have hN3 : w.heap.size < (w3.setCell ⟨gx, 1, none⟩ (.int .i64 fm)).heap.size := row_lt R2.out.2.2.1
    have Da : Hid (DF (w3.setCell ⟨gx, 1, none⟩ (.int .i64 fm)).heap.size g gx w4 (.slice ac cl.length cc) cl) := ⟨o4, hN2, hN1⟩
    clear R2 r4 g4 o4 C2 hN1 hN2
    generalize (w3.setCell ⟨gx, 1, none⟩ (.int .i64 fm)).heap.size = N at *
    obtain ⟨c_0, c_1, c_2, c_3, c_4⟩ := Ra.out.cells
    have f_2 := Ra.out.free 2
    have R3 : Hid (RF w LL g gx load k2 y2 #[.int .i64 (kn : Int), .int .i64 fm, .slice ac cl.length cc, .bool false, .slice none 0 0] (w4.setCell ⟨gx, 2, none⟩ (.slice ac cl.length cc))) := by
      have h0 := Ra.out.set 2 (.slice ac cl.length cc)
      simp only [List.setIfInBounds_toArray, List.set_cons_zero, List.set_cons_succ] at h0
      exact h0
    have D3 : Hid (DF N g gx (w4.setCell ⟨gx, 2, none⟩ (.slice ac cl.length cc)) (.slice ac cl.length cc) cl) := Da.out.set 2 _
    clear Da
    clear Ra c_0 c_1 c_3 c_4
    go_wp2_with fail
    clear c_2 f_2
    refine (flag_any true _).mono ?_
    rintro e w' ⟨rfl, hw⟩
    replace hw := hw.symm
    subst hw
    rw [show flagI true = 1 from rfl]
    go_wp2_with fail
    refine (C3.out _ g _ R3.out.1).mono ?_
    rintro e w5 ⟨rfl, r5, g5⟩
    have Ra : Hid (RF w LL g gx load k3 y3 #[.int .i64 (kn : Int), .int .i64 fm, .slice ac cl.length cc, .bool false, .slice none 0 0] w5) := R3.out.call r5 g5
    have Da : Hid (DF N g gx w5 (.slice ac cl.length cc) cl) := D3.out.call g5
    clear r5 g5 R3 D3 C3
    go_wp2_with fail
    refine (flag_any true _).mono ?_
    rintro e w' ⟨rfl, hw⟩
    replace hw := hw.symm
    subst hw
    rw [show flagI true = 1 from rfl]
    obtain ⟨c_0, c_1, c_2, c_3, c_4⟩ := Ra.out.cells
    have f_3 := Ra.out.free 3
    have R4 : Hid (RF w LL g gx load k3 y3 #[.int .i64 (kn : Int), .int .i64 fm, .slice ac cl.length cc, .bool (decide (mo = 1)), .slice none 0 0] (w5.setCell ⟨gx, 3, none⟩ (.bool (decide (mo = 1))))) := by
      have h0 := Ra.out.set 3 (.bool (decide (mo = 1)))
      simp only [List.setIfInBounds_toArray, List.set_cons_zero, List.set_cons_succ] at h0
      exact h0
    have D4 : Hid (DF N g gx (w5.setCell ⟨gx, 3, none⟩ (.bool (decide (mo = 1)))) (.slice ac cl.length cc) cl) := Da.out.set 3 _
    clear Da
    clear Ra c_0 c_1 c_2 c_4
    have hbm : (mo == 1) = decide (mo = 1) := by rw [Bool.eq_iff_iff]; simp
    generalize hMB : decide (mo = 1) = mb at *
    clear hMB
    go_wp2_with fail
    clear c_3 f_3 hbm
    refine (C4.out _ g _ R4.out.1 R4.out.2.2.2.2.2.2.2.2).mono ?_
    rintro e w6 ⟨v6, ee, D, rfl, o6, d6, l6, g6, k', y', r6, hor⟩
    obtain ⟨ah, ch, ev⟩ := o6.form
    obtain ⟨FD, eFD⟩ : ∃ FD, FD = D.map Prod.fst := ⟨_, rfl⟩
    have hlm : D.length = FD.length := by rw [eFD]; simp
    rw [hlm] at ev
    rw [← eFD] at hor
    have HFD : Hid (FD = D.map Prod.fst) := eFD
    clear hlm eFD
    subst ev
    have Ra : Hid (RF w LL g gx load k' y' #[.int .i64 (kn : Int), .int .i64 fm, .slice ac cl.length cc, .bool (mb), .slice none 0 0] w6) := R4.out.call r6 g6
    have Da : Hid (DF N g gx w6 (.slice ac cl.length cc) cl) := D4.out.call g6
    have hM1 : gx < (w5.setCell ⟨gx, 3, none⟩ (.bool mb)).heap.size := row_lt R4.out.2.1
    have hM3 : w.heap.size < (w5.setCell ⟨gx, 3, none⟩ (.bool mb)).heap.size := row_lt R4.out.2.2.1
    have HCF : Hid (CF (w5.setCell ⟨gx, 3, none⟩ (.bool mb)).heap.size w6 (.slice ah FD.length ch) D) := ⟨o6, d6⟩
    have HOR : Hid ((ee = 0 ∧ (lc, k4, y4) = (FD, k', y')) ∨ (ee ≠ 0 ∧ y4 ≠ 0)) := hor
    clear R4 D4 r6 g6 o6 d6 C4 hor
    generalize (w5.setCell ⟨gx, 3, none⟩ (.bool mb)).heap.size = M at *
    obtain ⟨c_0, c_1, c_2, c_3, c_4⟩ := Ra.out.cells
    have f_4 := Ra.out.free 4
    have R5 : Hid (RF w LL g gx load k' y' #[.int .i64 (kn : Int), .int .i64 fm, .slice ac cl.length cc, .bool (mb), .slice ah FD.length ch] (w6.setCell ⟨gx, 4, none⟩ (.slice ah FD.length ch))) := by
      have h0 := Ra.out.set 4 (.slice ah FD.length ch)
      simp only [List.setIfInBounds_toArray, List.set_cons_zero, List.set_cons_succ] at h0
      exact h0
    have D5 : Hid (DF N g gx (w6.setCell ⟨gx, 4, none⟩ (.slice ah FD.length ch)) (.slice ac cl.length cc) cl) := Da.out.set 4 _
    clear Da
    clear Ra c_0 c_1 c_2 c_3
    have HC5 : Hid (CF M (w6.setCell ⟨gx, 4, none⟩ (.slice ah FD.length ch)) (.slice ah FD.length ch) D) := HCF.out.keep fun j hj _ => heap_setCell_other w6 ⟨gx, 4, none⟩ j _ (by show j ≠ gx; omega)
    clear HCF
    by_cases hee : ee = 0
    · subst hee
      obtain ⟨hlc, hk', hy'⟩ : lc = FD ∧ k4 = k' ∧ y4 = y' := by
        rcases HOR.out with h2 | h2
        · have := h2.2; simpa using this
        · exact absurd rfl h2.1
      replace hlc := hlc.symm
      subst hlc
      subst hk'
      subst hy'
      clear HOR
      go_wp2_with fail
      clear c_4 f_4
      refine (done_any _ g load k4 y4 _ R5.out.1).mono ?_
      rintro e w7 ⟨rfl, m, rfl⟩
      have HRR : Hid (((w6.setCell ⟨gx, 4, none⟩ (.slice ah FD.length ch)).drewN m).heap[w.heap.size]? = some (.cells #[.int .i64 0, .int .i64 0, .slice none 0 0, .bool false, .slice none 0 0] 26) ∧ ((w6.setCell ⟨gx, 4, none⟩ (.slice ah FD.length ch)).drewN m).heap[gx]? = some (.cells #[.int .i64 (kn : Int), .int .i64 fm, .slice ac cl.length cc, .bool (mb), .slice ah FD.length ch] 26) ∧ Below w.heap.size w ((w6.setCell ⟨gx, 4, none⟩ (.slice ah FD.length ch)).drewN m)) := ⟨R5.out.2.2.1, R5.out.2.1, below_drewN R5.out.2.2.2.1 m⟩
      have HDD : Hid (OwnI N ((w6.setCell ⟨gx, 4, none⟩ (.slice ah FD.length ch)).drewN m) (.slice ac cl.length cc) cl ∧ CF M ((w6.setCell ⟨gx, 4, none⟩ (.slice ah FD.length ch)).drewN m) (.slice ah FD.length ch) D) := ⟨D5.out.1.drewN m, HC5.out.keep fun _ _ _ => rfl⟩
      clear R5 D5 HC5
      generalize ((w6.setCell ⟨gx, 4, none⟩ (.slice ah FD.length ch)).drewN m) = W7 at *
      by_cases hd : doneL load k4 y4 = 0
      · rw [hd]
        have hy0 : y4 = 0 := (done_zero hd).1
        have HDL : Hid (∀ x ∈ D, x.1.deps.length ≤ 64) := fun x hx => by
          have := HDEP.out hy0 x.1 (by rw [HFD.out]; exact List.mem_map_of_mem hx)
          exact (clock_lays (fine _ this).deps).1
        have IC : Hid (IsI W7 (.slice ac cl.length cc) cl) := HDD.out.1.isI (by omega)
        have c0 := cell_of_row _ _ 0 _ _ _ HRR.out.2.1
        have c1 := cell_of_row _ _ 1 _ _ _ HRR.out.2.1
        have c2 := cell_of_row _ _ 2 _ _ _ HRR.out.2.1
        have c3 := cell_of_row _ _ 3 _ _ _ HRR.out.2.1
        have c4 := cell_of_row _ _ 4 _ _ _ HRR.out.2.1
        simp only [List.getElem?_toArray, List.getElem?_cons_zero, List.getElem?_cons_succ] at c0 c1 c2 c3 c4
        go_wp2_with fail
        clear c0 c1 c2 c3 c4
        refine (checkHead_any (kn : Int) fm ac cl cc mb ah FD ch _ IC.out).mono ?_
        rintro e w8 ⟨rfl, hb8⟩
        have HR8 : Hid (w8.heap[w.heap.size]? = some (.cells #[.int .i64 0, .int .i64 0, .slice none 0 0, .bool false, .slice none 0 0] 26) ∧ w8.heap[gx]? = some (.cells #[.int .i64 (kn : Int), .int .i64 fm, .slice ac cl.length cc, .bool (mb), .slice ah FD.length ch] 26) ∧ Below w.heap.size w w8) := ⟨(hb8.block _ (row_lt HRR.out.1)).trans HRR.out.1, (hb8.block _ (row_lt HRR.out.2.1)).trans HRR.out.2.1, HRR.out.2.2.trans (hb8.mono HRR.out.2.2.size)⟩
        have HD8 : Hid (OwnI N w8 (.slice ac cl.length cc) cl ∧ CF M w8 (.slice ah FD.length ch) D) := ⟨HDD.out.1.below hb8, HDD.out.2.below hb8⟩
        clear HRR HDD IC hb8
        by_cases hh : headFr ⟨(kn : Int), fm, cl, mb, FD⟩ = 0
        · have HE : Hid (readF p = (⟨(kn : Int), fm, cl, mb, FD⟩, 0)) := by show _ = _; rw [HQ.out, if_pos ⟨hd, hh⟩]
          rw [hh]
          clear hh hd
          go_upto_region 12 with fail
          go_step
          refine wpList_load_row rfl 26 (.tmp 8) rfl gx _ _ _ rfl HR8.out.2.1 Tryz.underlying26 rfl sizeFrame ?_
          (try simp only [Act.put, List.setIfInBounds_toArray, List.set_cons_zero, List.set_cons_succ])
          refine wpList_store_row rfl 26 (.tmp 2) (.tmp 54) rfl w.heap.size _ _ #[.int .i64 (kn : Int), .int .i64 fm, .slice ac cl.length cc, .bool (mb), .slice ah FD.length ch] rfl rfl HR8.out.1 sizeFrame rfl (by simp [Value.oneCell']) ?_
          (try simp only [Act.put, List.setIfInBounds_toArray, List.set_cons_zero, List.set_cons_succ])
          go_wp2
          (try simp only [Exit.inBlock, Exit.then])
          refine bodyPost_ret (v := .tuple #[.agg #[.int .i64 (kn : Int), .int .i64 fm, .slice ac cl.length cc, .bool (mb), .slice ah FD.length ch], .int .i64 0]) ?res4 rfl ?post4
          case res4 => exact results_cell_row2 rfl _ _ w.heap.size _ _ _ _ rfl (setRow_same HR8.out.1) Tryz.underlying26 rfl (by kernel_rfl) rfl
          rw [HE.out]
          refine ⟨ac, cc, ah, ch, rfl, ?_, below_setRow HR8.out.2.2 (Nat.le_refl _) _⟩
          intro W' hk
          refine ⟨?_, ?_⟩
          · exact ((HD8.out.1.keep (w' := w8.setRow w.heap.size #[.int .i64 (kn : Int), .int .i64 fm, .slice ac cl.length cc, .bool (mb), .slice ah FD.length ch]) fun j hj _ => setRow_other w8 w.heap.size j _ (by omega)).keep (w' := W') fun j hj hl => hk j (by omega) hl).isI (by omega)
          · show IsH _ (.slice ah FD.length ch) FD
            have h0 := CF.isH ((HD8.out.2.keep (W' := w8.setRow w.heap.size #[.int .i64 (kn : Int), .int .i64 fm, .slice ac cl.length cc, .bool (mb), .slice ah FD.length ch]) fun j hj _ => setRow_other w8 w.heap.size j _ (by omega)).keep (W' := W') fun j hj hl => hk j (by omega) hl) l6 (fun x hx => by have := HDL.out x hx; omega)
            rw [← HFD.out] at h0
            exact h0
        · have HE : Hid (readF p = (Fr.none, 2)) := by show _ = _; rw [HQ.out, if_neg (fun h => hh h.2)]
          have q : (headFr ⟨(kn : Int), fm, cl, mb, FD⟩ != 0) = true := by simp [hh]
          clear hh
          generalize headFr ⟨(kn : Int), fm, cl, mb, FD⟩ = z at *
          go_upto_region 11 with fail
          go_step
          refine wpList_plain rfl (fun K hK => ?_)
          go_simp
          refine hK _ _ ?_
          clear hK K
          refine wpList_store_row rfl 26 (.tmp 2) (.tmp 53) rfl w.heap.size _ _ #[.int .i64 0, .int .i64 0, .slice none 0 0, .bool false, .slice none 0 0] rfl rfl HR8.out.1 sizeFrame rfl (by simp [Value.oneCell']) ?_
          (try simp only [Act.put, List.setIfInBounds_toArray, List.set_cons_zero, List.set_cons_succ])
          go_wp2
          (try simp only [Exit.inBlock, Exit.then])
          refine bodyPost_ret (v := .tuple #[.agg #[.int .i64 0, .int .i64 0, .slice none 0 0, .bool false, .slice none 0 0], .int .i64 2]) ?res3 rfl ?post3
          case res3 => exact results_cell_row2 rfl _ _ w.heap.size _ _ _ _ rfl (setRow_same HR8.out.1) Tryz.underlying26 rfl (by kernel_rfl) rfl
          rw [HE.out]
          exact GotFrK.zero (below_setRow HR8.out.2.2 (Nat.le_refl _) _)
      · have HE : Hid (readF p = (Fr.none, 2)) := by show _ = _; rw [HQ.out, if_neg (fun h => hd h.1)]
        have q : (doneL load k4 y4 != 0) = true := by simp [hd]
        clear hd
        generalize doneL load k4 y4 = z at *
        go_upto_region 11 with fail
        go_step
        refine wpList_plain rfl (fun K hK => ?_)
        go_simp
        refine hK _ _ ?_
        clear hK K
        refine wpList_store_row rfl 26 (.tmp 2) (.tmp 53) rfl w.heap.size _ _ #[.int .i64 0, .int .i64 0, .slice none 0 0, .bool false, .slice none 0 0] rfl rfl HRR.out.1 sizeFrame rfl (by simp [Value.oneCell']) ?_
        (try simp only [Act.put, List.setIfInBounds_toArray, List.set_cons_zero, List.set_cons_succ])
        go_wp2
        (try simp only [Exit.inBlock, Exit.then])
        refine bodyPost_ret (v := .tuple #[.agg #[.int .i64 0, .int .i64 0, .slice none 0 0, .bool false, .slice none 0 0], .int .i64 2]) ?res2 rfl ?post2
        case res2 => exact results_cell_row2 rfl _ _ w.heap.size _ _ _ _ rfl (setRow_same HRR.out.1) Tryz.underlying26 rfl (by kernel_rfl) rfl
        rw [HE.out]
        exact GotFrK.zero (below_setRow HRR.out.2.2 (Nat.le_refl _) _)
    · have HE : Hid (readF p = (Fr.none, 2)) := by
        show _ = _
        rw [HQ.out, if_neg]
        intro h
        rcases HOR.out with h2 | h2
        · exact hee h2.1
        · exact h2.2 (done_zero h.1).1
      have q : (ee != 0) = true := by simp [hee]
      clear hee
      go_upto_region 11 with fail
      clear c_4 f_4
      go_step
      refine wpList_plain rfl (fun K hK => ?_)
      go_simp
      refine hK _ _ ?_
      clear hK K
      refine wpList_store_row rfl 26 (.tmp 2) (.tmp 53) rfl w.heap.size _ _ #[.int .i64 0, .int .i64 0, .slice none 0 0, .bool false, .slice none 0 0] rfl rfl R5.out.2.2.1 sizeFrame rfl (by simp [Value.oneCell']) ?_
      (try simp only [Act.put, List.setIfInBounds_toArray, List.set_cons_zero, List.set_cons_succ])
      go_wp2
      (try simp only [Exit.inBlock, Exit.then])
      refine bodyPost_ret (v := .tuple #[.agg #[.int .i64 0, .int .i64 0, .slice none 0 0, .bool false, .slice none 0 0], .int .i64 2]) ?res1 rfl ?post1
      case res1 => exact results_cell_row2 rfl _ _ w.heap.size _ _ _ _ rfl (setRow_same R5.out.2.2.1) Tryz.underlying26 rfl (by kernel_rfl) rfl
      rw [HE.out]
      exact GotFrK.zero (below_setRow R5.out.2.2.2.1 (Nat.le_refl _) _)
  · skip
    have HE : Hid (readF p = (Fr.none, (openL p).2.2)) := by show _ = _; unfold readF; rw [if_neg ho]
    have q : ((openL p).2.2 != 0) = true := by simp [ho]
    clear ho
    generalize openL p = r at *
    obtain ⟨r1, r2, r3⟩ := r
    simp only at q HE ⊢
    go_upto_region 3 with fail
    go_step
    refine wpList_plain rfl (fun K hK => ?_)
    go_simp
    refine hK _ _ ?_
    clear hK K
    refine wpList_plain rfl (fun K hK => ?_)
    go_simp
    refine hK _ _ ?_
    clear hK K
    refine wpList_store_row rfl 26 (.tmp 2) (.tmp 17) rfl w.heap.size _ _ #[.int .i64 0, .int .i64 0, .slice none 0 0, .bool false, .slice none 0 0] rfl rfl HR1.out sizeFrame rfl (by simp [Value.oneCell']) ?_
    (try simp only [Act.put, List.setIfInBounds_toArray, List.set_cons_zero, List.set_cons_succ])
    go_wp2
    (try simp only [Exit.inBlock, Exit.then])
    refine bodyPost_ret (v := .tuple #[.agg #[.int .i64 0, .int .i64 0, .slice none 0 0, .bool false, .slice none 0 0], .int .i64 r3]) ?res0 rfl ?post0
    case res0 => exact results_cell_row2 rfl _ _ w.heap.size _ _ _ _ rfl (setRow_same HR1.out) Tryz.underlying26 rfl (by kernel_rfl) rfl
    rw [HE.out]
    exact GotFrK.zero (below_setRow HB1.out (Nat.le_refl _) _)

end Go.Proofs.YtlioiblpcpaejaaGreat
