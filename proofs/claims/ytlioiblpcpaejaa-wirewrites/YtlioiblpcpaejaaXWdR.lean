/- What the document's CopyAll, its Copy of a frame and its Check of a frame do. -/
import Derived.Test.YtlioiblpcpaejaaXWdP
import Derived.Test.YtlioiblpcpaejaaXWdC
import Derived.Test.YtlioiblpcpaejaaXM
namespace Go.Proofs.Ytlioiblpcpaejaa
open Go.RowKit
set_option linter.unusedVariables false
set_option linter.unusedSimpArgs false

theorem OwnH.empty (w : World) (B : Nat) (hB : B ≤ w.heap.size) : OwnH B (w.alloc (.cells #[] 26)) (.slice (some ⟨w.heap.size, 0, none⟩) 0 0) [] :=
  World.ownsRow_made w #[] 0 hB (by unfold maxLen; omega) (by simp)

set_option maxRecDepth 100000 in
set_option maxHeartbeats 4000000 in
theorem copyAll_any (v : Value) (L : List Ch) (w : World) (h : IsH w v L) (hl : L.length * 136 ≤ 140737488355328) :
    Calls Try.prog 40 #[v] w fun e w' => ∃ v' D, e = .returned v' ∧ OwnH w.heap.size w' v' D ∧ D.map Prod.fst = L ∧ (∀ x ∈ D, OwnI w.heap.size w' x.2 x.1.deps ∧ Sized x.1 ∧ x.1.deps.length ≤ 17592186044416) ∧ Below w.heap.size w w' := by
  obtain ⟨a1, c1, rfl, hc1, hl1, r1⟩ := h
  have HR : Hid (L = [] ∨ ∃ b o, a1 = some ⟨b, o, none⟩ ∧ ChsAt w b o L) := r1
  obtain ⟨i0, hi, hz0, hz1, hz2⟩ := info_parts infoChange
  have HI : Hid (Try.prog.info? 26 = some i0 ∧ i0.zero = some (.agg #[.int .i64 0, .int .i64 0, .int .i64 0, .slice none 0 0, .int .i64 0, .int .i64 0, .int .i64 0, .int .i64 0, .int .i64 0, .int .i64 0, .int .i64 0, .string ⟨#[]⟩, .string ⟨#[]⟩]) ∧ i0.size = 13 ∧ i0.bytes = 136) := ⟨hi, hz0, hz1, hz2⟩
  have H0 : Hid (OwnH w.heap.size (w.alloc (.cells #[] 26)) (.slice (some ⟨w.heap.size, 0, none⟩) 0 0) [] ∧ Below w.heap.size w (w.alloc (.cells #[] 26))) := ⟨OwnH.empty w _ (Nat.le_refl _), (Below.refl _ _).alloc (Nat.le_refl _) _⟩
  clear r1 hi hz0 hz1 hz2
  go_enter Try.func40, Try.ntmps40
  go_wp2
  go_loopw [3, 4] (fun u i wr => ∃ k : Nat, k ≤ L.length ∧ i = .int .i64 (k : Int) ∧ Hid (∃ D, OwnH w.heap.size wr u D ∧ D.map Prod.fst = L.take k ∧ (∀ x ∈ D, OwnI w.heap.size wr x.2 x.1.deps ∧ Sized x.1 ∧ x.1.deps.length ≤ 17592186044416) ∧ Below w.heap.size w wr)) (fun _ i _ => L.length - (intOf i).toNat)
  case atStart => exact ⟨0, Nat.zero_le _, rfl, [], H0.out.1, by simp, by simp, H0.out.2⟩
  case round =>
    obtain ⟨k, hk, rfl, HO⟩ := hrel
    obtain ⟨D, hown, hD, hds, hbw⟩ := HO.out
    have hDl : Hid (D.length = k) := by have := congrArg List.length hD; simp at this; show _ = _; omega
    by_cases hlt : k < L.length
    · obtain ⟨b1, o1, rfl, g1⟩ := HR.out.resolve_left (by intro e; subst e; simp at hlt)
      obtain ⟨a3, c3, i3, hs3, hx⟩ := ((g1.below hbw) k hlt).open
      have hD1 : D.length < L.length := by have := hDl.out; omega
      have k1 : (k : Int) < (L.length : Int) := by omega
      have k0 : (0 : Int) ≤ (k : Int) := by omega
      have HDT : Hid (∀ dv, (D ++ [(L[k], dv)]).map Prod.fst = L.take (k + 1)) := fun dv => by rw [List.take_succ_eq_append_getElem hlt, List.map_append, hD]; rfl
      generalize L[k] = c at *
      have HX : Hid (wr.rangeAt b1 (o1 + k * 13) (chCells c (.slice a3 c.deps.length c3))) := hx
      have I3 : Hid (IsI wr (.slice a3 c.deps.length c3) c.deps) := i3
      have hdl : c.deps.length ≤ 17592186044416 := by obtain ⟨_, _, _, _, h, _⟩ := i3; exact h
      have HS : Hid (Sized c) := hs3
      obtain ⟨ao, co, ev⟩ := hown.form
      subst ev
      have HW : Hid (OwnH w.heap.size wr (.slice ao D.length co) D ∧ (∀ x ∈ D, OwnI w.heap.size wr x.2 x.1.deps ∧ Sized x.1 ∧ x.1.deps.length ≤ 17592186044416) ∧ Below w.heap.size w wr) := ⟨hown, hds, hbw⟩
      clear g1 i3 hs3 hx hown hds hbw HO hD
      go_upto_region 5 with fail
      go_step
      refine wpList_plain rfl (fun K hK => ?_)
      go_simp
      refine hK _ _ ?_
      clear hK K
      refine wpList_plain rfl (fun K hK => ?_)
      go_simp
      refine hK _ _ ?_
      clear hK K
      refine wpList_plain rfl (fun K hK => ?_)
      go_simp
      refine hK _ _ ?_
      clear hK K
      refine wpList_plain rfl (fun K hK => ?_)
      go_simp
      refine hK _ _ ?_
      clear hK K
      refine wpList_load_mid rfl 26 (.tmp 15) rfl b1 (o1 + k * 13) rfl (chCells c (.slice a3 c.deps.length c3)) _ HX.out Try.underlying26 rfl sizeChange ?_
      (try simp only [Act.put, List.setIfInBounds_toArray, List.set_cons_zero, List.set_cons_succ])
      go_wp2_with fail
      refine (refCopyCh_any c.ac c.ar c.seq (.slice a3 c.deps.length c3) c.kind c.nc c.nr c.pc c.pr c.fc c.fr c.name c.value c.deps _ I3.out).mono ?_
      rintro e w2 ⟨v2, rfl, o2, hb2⟩
      obtain ⟨a5, c5, e5⟩ := o2.form
      subst e5
      have hsz := HW.out.2.2.size
      have W2 : Hid (OwnH w.heap.size w2 (.slice ao D.length co) D ∧ (∀ x ∈ D, OwnI w.heap.size w2 x.2 x.1.deps ∧ Sized x.1 ∧ x.1.deps.length ≤ 17592186044416) ∧ Below w.heap.size w w2 ∧ OwnI w.heap.size w2 (.slice a5 c.deps.length c5) c.deps) := ⟨HW.out.1.below hb2, fun x hx => ⟨(HW.out.2.1 x hx).1.below hb2, (HW.out.2.1 x hx).2⟩, HW.out.2.2.trans (hb2.mono hsz), o2.cut (by omega)⟩
      clear o2 hb2 HW I3 HX
      have hs2 := W2.out.2.2.1.size
      have BB : Hid (Below w2.heap.size w2 (w2.alloc (.cells #[.int .i64 c.ac, .int .i64 c.ar, .int .i64 c.seq, .slice a5 c.deps.length c5, .int .i64 c.kind, .int .i64 c.nc, .int .i64 c.nr, .int .i64 c.pc, .int .i64 c.pr, .int .i64 c.fc, .int .i64 c.fr, .string c.name, .string c.value] 26))) := (Below.refl _ _).alloc (Nat.le_refl _) _
      have HN : Hid (∀ j u, (chCells c (.slice a5 c.deps.length c5))[j]? = some u → (w2.alloc (.cells #[.int .i64 c.ac, .int .i64 c.ar, .int .i64 c.seq, .slice a5 c.deps.length c5, .int .i64 c.kind, .int .i64 c.nc, .int .i64 c.nr, .int .i64 c.pc, .int .i64 c.pr, .int .i64 c.fc, .int .i64 c.fr, .string c.name, .string c.value] 26)).cell? ((⟨w2.heap.size, 0, none⟩ : Addr).add j) = some u) := fun j u hj => by
        rw [Addr.add_lit, Nat.zero_add, cell_of_row _ _ _ _ _ _ (heap_alloc_new w2 _)]
        simpa [chCells] using hj
      go_wp2_with (at_builtin; refine wpList_append_own _ rfl _ _ 38 rfl w.heap.size 26 i0 (.agg #[.int .i64 0, .int .i64 0, .int .i64 0, .slice none 0 0, .int .i64 0, .int .i64 0, .int .i64 0, .int .i64 0, .int .i64 0, .int .i64 0, .int .i64 0, .string ⟨#[]⟩, .string ⟨#[]⟩]) 13 136 Try.underlying38 HI.out.1 HI.out.2.1 HI.out.2.2.1 HI.out.2.2.2 rfl (by decide) _ _ _ rfl (World.ownsRow.alloc W2.out.1 _) ⟨w2.heap.size, 0, none⟩ 1 1 (chCells c (.slice a5 c.deps.length c5)) rfl rfl HN.out (fun u hu => by simp only [chCells, List.mem_cons, List.not_mem_nil, or_false] at hu; rcases hu with rfl | rfl | rfl | rfl | rfl | rfl | rfl | rfl | rfl | rfl | rfl | rfl | rfl <;> rfl) (by unfold maxLen; omega) (by omega) (by simp; omega) ?_; intro v4 w4 hown4 hgrow4 hnil4)
      have HN4 : Hid (∃ D, OwnH w.heap.size w4 v4 D ∧ D.map Prod.fst = L.take (k + 1) ∧ (∀ x ∈ D, OwnI w.heap.size w4 x.2 x.1.deps ∧ Sized x.1 ∧ x.1.deps.length ≤ 17592186044416) ∧ Below w.heap.size w w4) := by
        have oA := W2.out.1.below BB.out
        refine ⟨D ++ [(c, .slice a5 c.deps.length c5)], OwnH.snoc hown4, HDT.out _, fun x hx => ?_, (W2.out.2.2.1.trans (BB.out.mono hs2)).trans (grownBy.toBelow hgrow4 (by simp; omega) (fun z hz => W2.out.1.block z hz))⟩
        rcases List.mem_append.1 hx with hx | hx
        · exact ⟨((W2.out.2.1 x hx).1.below BB.out).beside oA hgrow4, (W2.out.2.1 x hx).2⟩
        · rw [List.mem_singleton.1 hx]
          exact ⟨(W2.out.2.2.2.below BB.out).beside oA hgrow4, HS.out, hdl⟩
      clear hown4 hgrow4 hnil4 W2 BB HN HDT
      go_wp2
      go_roundw
      case rel => exact ⟨k + 1, by omega, by go_num, HN4⟩
      case measure => simp [intOf]; omega
    · obtain rfl : k = L.length := by omega
      have HF : Hid (∃ D, OwnH w.heap.size wr u3 D ∧ D.map Prod.fst = L ∧ (∀ x ∈ D, OwnI w.heap.size wr x.2 x.1.deps ∧ Sized x.1 ∧ x.1.deps.length ≤ 17592186044416) ∧ Below w.heap.size w wr) := ⟨D, hown, by rw [hD, List.take_length], hds, hbw⟩
      clear HO hown hD hds hbw
      go_wp2
      go_ret
      obtain ⟨D, h1, h2, h3, h4⟩ := HF.out
      exact ⟨_, D, rfl, h1, h2, h3, h4⟩

set_option maxRecDepth 100000 in
set_option maxHeartbeats 4000000 in
theorem copyFr_any (kd fm : Int) (a1 : Option Addr) (cl : List Int) (cc : Nat) (mo : Bool) (a2 : Option Addr) (L : List Ch) (ch : Nat) (w : World) (h1 : IsI w (.slice a1 cl.length cc) cl) (h2 : IsH w (.slice a2 L.length ch) L) (hl : L.length * 136 ≤ 140737488355328) :
    Calls Try.prog 16 #[.agg #[.int .i64 kd, .int .i64 fm, .slice a1 cl.length cc, .bool mo, .slice a2 L.length ch]] w fun e w' => ∃ a3 c3 a4 c4, e = .returned (.agg #[.int .i64 kd, .int .i64 fm, .slice a3 cl.length c3, .bool mo, .slice a4 L.length c4]) ∧ IsI w' (.slice a3 cl.length c3) cl ∧ IsH w' (.slice a4 L.length c4) L ∧ Below w.heap.size w w' := by
  have hcl : cl.length ≤ 17592186044416 := by obtain ⟨_, _, _, _, h, _⟩ := h1; exact h
  obtain ⟨WB, eWB⟩ : ∃ WB : World, WB = (((w.alloc (.cells #[.int .i64 kd, .int .i64 fm, .slice a1 cl.length cc, .bool mo, .slice a2 L.length ch] 40)).alloc (.cells #[.int .i64 0, .int .i64 0, .slice none 0 0, .bool false, .slice none 0 0] 40)).alloc (.cells #[] 3)) := ⟨_, rfl⟩
  have hzB : WB.heap.size = w.heap.size + 3 := by rw [eWB]; simp
  have BB : Below w.heap.size w WB := by rw [eWB]; exact (((Below.refl _ _).alloc (Nat.le_refl _) _).alloc (by simp) _).alloc (by simp; omega) _
  have R1 : WB.heap[w.heap.size]? = some (.cells #[.int .i64 kd, .int .i64 fm, .slice a1 cl.length cc, .bool mo, .slice a2 L.length ch] 40) := by
    rw [eWB]
    exact (Below.heap_alloc _ _ _ (by simp; omega)).trans ((Below.heap_alloc _ _ _ (by simp)).trans (heap_alloc_new _ _))
  have R2 : WB.heap[w.heap.size + 1]? = some (.cells #[.int .i64 0, .int .i64 0, .slice none 0 0, .bool false, .slice none 0 0] 40) := by
    rw [eWB]
    have := heap_alloc_new (w.alloc (.cells #[.int .i64 kd, .int .i64 fm, .slice a1 cl.length cc, .bool mo, .slice a2 L.length ch] 40)) (.cells #[.int .i64 0, .int .i64 0, .slice none 0 0, .bool false, .slice none 0 0] 40)
    rw [show (w.alloc (.cells #[.int .i64 kd, .int .i64 fm, .slice a1 cl.length cc, .bool mo, .slice a2 L.length ch] 40)).heap.size = w.heap.size + 1 by simp] at this
    exact (Below.heap_alloc _ _ _ (by simp)).trans this
  have O3 : OwnI (w.heap.size + 2) WB (.slice (some ⟨w.heap.size + 2, 0, none⟩) 0 0) [] := by
    rw [eWB]
    have := OwnI.empty ((w.alloc (.cells #[.int .i64 kd, .int .i64 fm, .slice a1 cl.length cc, .bool mo, .slice a2 L.length ch] 40)).alloc (.cells #[.int .i64 0, .int .i64 0, .slice none 0 0, .bool false, .slice none 0 0] 40)) (w.heap.size + 2) (by simp)
    rw [show ((w.alloc (.cells #[.int .i64 kd, .int .i64 fm, .slice a1 cl.length cc, .bool mo, .slice a2 L.length ch] 40)).alloc (.cells #[.int .i64 0, .int .i64 0, .slice none 0 0, .bool false, .slice none 0 0] 40)).heap.size = w.heap.size + 2 by simp] at this
    exact this
  have H2 : Hid (IsH w (.slice a2 L.length ch) L) := h2
  have HS : Hid (WB.heap[w.heap.size]? = some (.cells #[.int .i64 kd, .int .i64 fm, .slice a1 cl.length cc, .bool mo, .slice a2 L.length ch] 40) ∧ WB.heap[w.heap.size + 1]? = some (.cells #[.int .i64 0, .int .i64 0, .slice none 0 0, .bool false, .slice none 0 0] 40) ∧ OwnI (w.heap.size + 2) WB (.slice (some ⟨w.heap.size + 2, 0, none⟩) 0 0) [] ∧ Below w.heap.size w WB ∧ IsI WB (.slice a1 cl.length cc) cl ∧ IsH WB (.slice a2 L.length ch) L) := ⟨R1, R2, O3, BB, h1.below BB, h2.below BB⟩
  have EW : Hid ((((w.alloc (.cells #[.int .i64 kd, .int .i64 fm, .slice a1 cl.length cc, .bool mo, .slice a2 L.length ch] 40)).alloc (.cells #[.int .i64 0, .int .i64 0, .slice none 0 0, .bool false, .slice none 0 0] 40)).alloc (.cells #[] 3)) = WB) := eWB.symm
  have hz3 : w.heap.size + 2 ≤ WB.heap.size := by omega
  have c2 := cell_of_row _ _ 2 _ _ _ R1
  rw [eWB] at c2
  simp only [List.getElem?_toArray, List.getElem?_cons_zero, List.getElem?_cons_succ] at c2
  clear h1 h2 BB R1 R2 O3 eWB
  go_enter Try.func16, Try.ntmps16
  go_wp2_with (at_builtin; rw [EW.out]; refine wpList_appI rfl _ _ rfl (w.heap.size + 2) _ [] rfl HS.out.2.2.1 hz3 _ cl rfl HS.out.2.2.2.2.1 (by simpa using hcl) ?_; intro v2 w2 ho2 hg2; obtain ⟨a3, c3, e3⟩ := ho2.form; rw [List.nil_append] at e3 ho2; subst e3; have hlt0 : w.heap.size < WB.heap.size := row_lt HS.out.1; have hne : ∀ q, q < w.heap.size + 2 → some q ≠ (Value.slice (some ⟨w.heap.size + 2, 0, none⟩) 0 0).ownBlock := (fun q hq e => by have := HS.out.2.2.1.block q e.symm; omega); have Q1 : w2.heap[w.heap.size]? = _ := row_grown HS.out.1 hg2 (hne _ (by omega)); have Q2 : w2.heap[w.heap.size + 1]? = _ := row_grown HS.out.2.1 hg2 (hne _ (by omega)); have d2 := cell_of_row _ _ 2 _ _ _ Q1; have f2 := frozen_of_row _ _ 2 _ _ Q1; have d4 := cell_of_row _ _ 4 _ _ _ Q1; simp only [List.getElem?_toArray, List.getElem?_cons_zero, List.getElem?_cons_succ] at d2 d4)
  have BW : Hid (Below w.heap.size w (w2.setCell ⟨w.heap.size, 2, none⟩ (.slice a3 cl.length c3))) := (HS.out.2.2.2.1.trans (grownBy.toBelow hg2 (by omega) (fun j e => by have := HS.out.2.2.1.block j e; omega))).setCell (p := ⟨w.heap.size, 2, none⟩) (Nat.le_refl _) _
  have T1 : Hid ((w2.setCell ⟨w.heap.size, 2, none⟩ (.slice a3 cl.length c3)).heap[w.heap.size]? = some (.cells #[.int .i64 kd, .int .i64 fm, .slice a3 cl.length c3, .bool mo, .slice a2 L.length ch] 40)) := by
    have h0 := heap_setCell_same _ _ 2 _ _ (.slice a3 cl.length c3) Q1
    simp only [List.setIfInBounds_toArray, List.set_cons_zero, List.set_cons_succ] at h0
    exact h0
  have T2 : Hid ((w2.setCell ⟨w.heap.size, 2, none⟩ (.slice a3 cl.length c3)).heap[w.heap.size + 1]? = some (.cells #[.int .i64 0, .int .i64 0, .slice none 0 0, .bool false, .slice none 0 0] 40)) := (heap_setCell_other w2 ⟨w.heap.size, 2, none⟩ _ _ (by show w.heap.size + 1 ≠ w.heap.size; omega)).trans Q2
  have T3 : Hid (OwnI (w.heap.size + 2) (w2.setCell ⟨w.heap.size, 2, none⟩ (.slice a3 cl.length c3)) (.slice a3 cl.length c3) cl) := ho2.keep fun j hj _ => heap_setCell_other w2 ⟨w.heap.size, 2, none⟩ j _ (by show j ≠ w.heap.size; omega)
  clear ho2 hg2 hlt0 hne Q1 Q2 d2 d4 f2 HS EW
  generalize w2.setCell ⟨w.heap.size, 2, none⟩ (.slice a3 cl.length c3) = w3 at *
  have hz3' : w.heap.size + 2 ≤ w3.heap.size := by have := row_lt T2.out; omega
  refine (copyAll_any _ L _ (H2.out.below BW.out) hl).mono ?_
  rintro e w4 ⟨v4, D, rfl, o4, eD, d4, hb4⟩
  have hlm : D.length = L.length := by rw [← eD]; simp
  obtain ⟨a4, c4, e4⟩ := o4.form
  rw [hlm] at e4
  subst e4
  have U1 : Hid (w4.heap[w.heap.size]? = some (.cells #[.int .i64 kd, .int .i64 fm, .slice a3 cl.length c3, .bool mo, .slice a2 L.length ch] 40)) := (hb4.block _ (row_lt T1.out)).trans T1.out
  have U2 : Hid (w4.heap[w.heap.size + 1]? = some (.cells #[.int .i64 0, .int .i64 0, .slice none 0 0, .bool false, .slice none 0 0] 40)) := (hb4.block _ (row_lt T2.out)).trans T2.out
  have U3 : Hid (OwnI (w.heap.size + 2) w4 (.slice a3 cl.length c3) cl) := T3.out.below hb4
  have U4 : Hid (CF (w.heap.size + 2) w4 (.slice a4 L.length c4) D) := ⟨o4.cut hz3', fun x hx => ⟨(d4 x hx).1.cut hz3', (d4 x hx).2.1⟩⟩
  have U5 : Hid (Below w.heap.size w w4) := BW.out.trans (hb4.mono (by omega))
  have HD : Hid (D.map Prod.fst = L ∧ ∀ x ∈ D, x.1.deps.length ≤ 17592186044416) := ⟨eD, fun x hx => (d4 x hx).2.2⟩
  have HLm : Hid (D.length = L.length) := hlm
  have x4 := cell_of_row _ _ 4 _ _ _ U1.out
  have f4 := frozen_of_row _ _ 4 _ _ U1.out
  simp only [List.getElem?_toArray, List.getElem?_cons_zero, List.getElem?_cons_succ] at x4
  have V1 : Hid ((w4.setCell ⟨w.heap.size, 4, none⟩ (.slice a4 L.length c4)).heap[w.heap.size]? = some (.cells #[.int .i64 kd, .int .i64 fm, .slice a3 cl.length c3, .bool mo, .slice a4 L.length c4] 40)) := by
    have h0 := heap_setCell_same _ _ 4 _ _ (.slice a4 L.length c4) U1.out
    simp only [List.setIfInBounds_toArray, List.set_cons_zero, List.set_cons_succ] at h0
    exact h0
  have V2 : Hid ((w4.setCell ⟨w.heap.size, 4, none⟩ (.slice a4 L.length c4)).heap[w.heap.size + 1]? = some (.cells #[.int .i64 0, .int .i64 0, .slice none 0 0, .bool false, .slice none 0 0] 40)) := (heap_setCell_other w4 ⟨w.heap.size, 4, none⟩ _ _ (by show w.heap.size + 1 ≠ w.heap.size; omega)).trans U2.out
  have V3 : Hid (OwnI (w.heap.size + 2) (w4.setCell ⟨w.heap.size, 4, none⟩ (.slice a4 L.length c4)) (.slice a3 cl.length c3) cl ∧ CF (w.heap.size + 2) (w4.setCell ⟨w.heap.size, 4, none⟩ (.slice a4 L.length c4)) (.slice a4 L.length c4) D ∧ Below w.heap.size w (w4.setCell ⟨w.heap.size, 4, none⟩ (.slice a4 L.length c4))) := ⟨U3.out.keep fun j hj _ => heap_setCell_other w4 ⟨w.heap.size, 4, none⟩ j _ (by show j ≠ w.heap.size; omega), U4.out.keep fun j hj _ => heap_setCell_other w4 ⟨w.heap.size, 4, none⟩ j _ (by show j ≠ w.heap.size; omega), U5.out.setCell (p := ⟨w.heap.size, 4, none⟩) (Nat.le_refl _) _⟩
  clear hb4 o4 d4 eD hlm T1 T2 T3 U1 U2 U3 U4 U5
  go_upto_region 3 with fail
  clear x4 f4
  generalize w4.setCell ⟨w.heap.size, 4, none⟩ (.slice a4 L.length c4) = w5 at *
  go_step
  refine wpList_load_row rfl 40 (.tmp 1) rfl w.heap.size _ _ _ rfl V1.out Try.underlying40 rfl sizeFrame ?_
  (try simp only [Act.put, List.setIfInBounds_toArray, List.set_cons_zero, List.set_cons_succ])
  refine wpList_store_row rfl 40 (.tmp 2) (.tmp 12) rfl (w.heap.size + 1) _ _ #[.int .i64 kd, .int .i64 fm, .slice a3 cl.length c3, .bool mo, .slice a4 L.length c4] rfl rfl V2.out sizeFrame rfl (by simp [Value.oneCell']) ?_
  (try simp only [Act.put, List.setIfInBounds_toArray, List.set_cons_zero, List.set_cons_succ])
  go_wp2
  (try simp only [Exit.inBlock, Exit.then])
  refine bodyPost_ret (v := .agg #[.int .i64 kd, .int .i64 fm, .slice a3 cl.length c3, .bool mo, .slice a4 L.length c4]) ?res rfl ?post
  case res => exact results_cell_row rfl _ _ (w.heap.size + 1) _ _ _ _ rfl (setRow_same V2.out) Try.underlying40 rfl (by kernel_rfl)
  refine ⟨a3, c3, a4, c4, rfl, (V3.out.1.keep fun j hj _ => setRow_other w5 (w.heap.size + 1) j _ (by omega)).isI hcl, ?_, below_setRow V3.out.2.2 (by omega) _⟩
  have hI : ∀ X, IsH (w5.setRow (w.heap.size + 1) X) (.slice a4 L.length c4) L := fun X => by
    have k0 := V3.out.2.1.keep (W' := w5.setRow (w.heap.size + 1) X) fun j hj _ => setRow_other w5 (w.heap.size + 1) j X (by omega)
    have h0 := k0.1.isH (by have := HLm.out; omega) (fun x hx => ⟨(k0.2 x hx).1.isI (HD.out.2 x hx), (k0.2 x hx).2⟩)
    rw [HD.out.1] at h0
    exact h0
  exact hI _

end Go.Proofs.Ytlioiblpcpaejaa
