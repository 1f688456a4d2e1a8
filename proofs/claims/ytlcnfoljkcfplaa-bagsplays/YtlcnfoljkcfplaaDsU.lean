/- The program's Clone of a net. -/
import Derived.Test.YtlcnfoljkcfplaaDsT
import Derived.Test.YtlcnfoljkcfplaaTk
import Derived.Maps.AppendAt
namespace Go.Proofs.Ytlcnfoljkcfplaa
open Go.RowKit
set_option linter.unusedVariables false
set_option linter.unusedSimpArgs false

set_option maxRecDepth 100000 in
set_option maxHeartbeats 2000000 in
theorem cloneP (v : Value) (R : List Pc) (w : World) (h : OwnP 0 w v R) (hl : R.length ≤ 256) :
    Calls Try.prog 12 #[v] w fun e w' => ∃ v', e = .returned v' ∧ OwnP w.heap.size w' v' R ∧ Below w.heap.size w w' := by
  obtain ⟨ist, hist, hz0st, hz1st, hz2st⟩ := info_parts infoPc
  obtain ⟨hx, h2⟩ := h
  rcases h2 with ⟨rfl, hn⟩ | ⟨g, cap, cur, rfl, hg, hc, hcap, hm, hsz, htk⟩
  · have e : R = [] := List.eq_nil_of_length_eq_zero hn
    subst e
    have hq := fun w => Lib.run_eql_slice_nil (P := Try.prog) w 45 _ none 0 0 0 0 Try.underlying45
    clear hx hn
    go_enter Try.func12, Try.ntmps12
    go_wp2
    go_ret
    exact ⟨_, rfl, OwnP.nil0 _ _, Below.refl _ _⟩
  · have hbe : Below w.heap.size w (w.alloc (.cells #[] 50)) := (Below.refl _ _).alloc (Nat.le_refl _) _
    have HO : Hid ((w.alloc (.cells #[] 50)).ownsRow w.heap.size 50 2 (.slice (some ⟨w.heap.size, 0, none⟩) 0 0) 0 []) := World.ownsRow_made w #[] 0 (Nat.le_refl _) (by unfold maxLen; omega) (by simp)
    have HN : Hid (∀ j u, (flatP R)[j]? = some u → (w.alloc (.cells #[] 50)).cell? ((⟨g, 0, none⟩ : Addr).add j) = some u) := fun j u hj => by
      rw [Addr.add_lit, Nat.zero_add]
      refine (hbe.cell (p := ⟨g, j, none⟩) (row_lt hc)).trans ?_
      rw [cell_of_row w g j _ _ _ hc]
      rw [← htk] at hj
      have hj2 : j < R.length * 2 := by have := (List.getElem?_eq_some_iff.1 hj).1; rw [List.length_take] at this; omega
      rw [List.getElem?_take_of_lt hj2] at hj
      simpa using hj
    have HBe : Hid (Below w.heap.size w (w.alloc (.cells #[] 50))) := hbe
    have hsz0 : w.heap.size ≤ (w.alloc (.cells #[] 50)).heap.size := hbe.size
    have hq := fun w => Lib.run_eql_slice_nil (P := Try.prog) w 45 _ (some ⟨g, 0, none⟩) R.length cap 0 0 Try.underlying45
    clear hbe hx hc hsz htk
    go_enter Try.func12, Try.ntmps12
    go_wp2_with (at_builtin; refine wpList_append_own_at _ rfl _ _ 45 rfl w.heap.size 50 ist (.agg #[.string ⟨#[]⟩, .bool false]) 2 24 Try.underlying45 hist hz0st hz1st hz2st rfl (by decide) _ _ _ rfl HO.out ⟨g, 0, none⟩ R.length cap (flatP R) rfl (flatP_length R) HN.out (flatP_one R) (by unfold maxLen; omega) (by omega) hsz0 ?_; intro v3 w3 hown3 hgrow3 hnil3 hat3; have HR3 : Hid (OwnP w.heap.size w3 v3 R ∧ Below w.heap.size w w3) := ⟨by (have h9 := hown3; rw [Nat.zero_add, List.nil_append] at h9; exact h9), HBe.out.grown hgrow3 HBe.out.size (fun k e => by cases e; exact Nat.le_refl _)⟩; clear hown3 hgrow3 hnil3 hat3)
    go_ret
    exact ⟨_, rfl, HR3.out.1, HR3.out.2⟩
/-- New bags, all empty. -/
theorem mkBags (m : Nat) (hkk : m ≤ 4096) (w : World) : ∃ w1, (Instr.makeSlice 41 (.int .i64 (m : Int)) (.int .i64 (m : Int))).run Try.prog w = .ok (.slice (some ⟨w.heap.size, 0, none⟩) m m) w1 ∧ w1.heap[w.heap.size]? = some (.cells (List.replicate m (.slice none 0 0)).toArray 47) ∧ Below w.heap.size w w1 := by
  obtain ⟨i0, hi, hz0, hz1, hz2⟩ := info_parts infoBag
  obtain ⟨w1, hmk, ho1, hg1⟩ := run_makeSlice_full (P := Try.prog) w w.heap.size 41 47 i0 (.agg #[.slice none 0 0]) 1 Try.underlying41 hi hz0 hz1 .i64 .i64 m (by omega) (by rw [hz2]; omega) (by unfold maxLen; omega) (Nat.le_refl _)
  have e3 : (madeCells (Value.agg #[.slice none 0 0]).cells (m * 1)).toList = List.replicate m (.slice none 0 0) := by
    rw [Nat.mul_one]; exact toList_madeCells_one _ _
  rw [e3] at ho1
  refine ⟨w1, hmk, ?_, (Below.refl _ _).grown hg1 (Nat.le_refl _) (fun j e => by cases e)⟩
  rcases ho1.2 with ⟨hn, _⟩ | ⟨g, cap, cur, hv, _, hc, _, _, hsz, htk⟩
  · cases hn
  · injection hv with e1 _ e2
    injection e1 with e1
    injection e1 with e1
    subst e1 e2
    have h1 : cur.toList = List.replicate m (.slice none 0 0) := by rw [← htk, List.take_of_length_le (by simp [hsz])]
    rw [hc, ← h1, Array.toArray_toList]
/-- What stands while a net is cloned. -/
structure ClN (F : Nat → Prop) (w : World) (nb n m : Nat) (B : Nat → List Pc) (bb : Nat) (vs : List Value) (nb2 bb2 : Nat) (us : List Value) (j : Nat) (W : World) : Prop where
  src : NetIs F W nb n B bb vs
  hF : ∀ k, F k → k < w.heap.size
  row2 : W.heap[nb2]? = some (.cells #[.int .i64 (n : Int), .slice (some ⟨bb2, 0, none⟩) m m] 43)
  bags2 : W.heap[bb2]? = some (.cells us.toArray 47)
  len2 : us.length = m
  em : m = n * n
  own2 : ∀ i (h : i < us.length), OwnP w.heap.size W us[i] (if i < j then B i else [])
  zer2 : ∀ i (h : i < us.length), j ≤ i → us[i] = .slice none 0 0
  dis2 : ∀ i (h : i < us.length) j (h' : j < us.length), i ≠ j → ∀ k, us[i].ownBlock = some k → us[j].ownBlock ≠ some k
  hi : w.heap.size ≤ nb2 ∧ w.heap.size ≤ bb2
  bel : Below w.heap.size w W
section
variable {F : Nat → Prop} {w W W' : World} {nb n m : Nat} {B : Nat → List Pc} {bb : Nat} {vs : List Value} {nb2 bb2 : Nat} {us : List Value} {j : Nat}
theorem ClN.below (h : ClN F w nb n m B bb vs nb2 bb2 us j W) (hb : Below W.heap.size W W') : ClN F w nb n m B bb vs nb2 bb2 us j W' := ⟨h.src.below hb, h.hF, (hb.block _ (row_lt h.row2)).trans h.row2, (hb.block _ (row_lt h.bags2)).trans h.bags2, h.len2, h.em, fun i hi => (h.own2 i hi).below hb, h.zer2, h.dis2, h.hi, h.bel.trans (hb.mono h.bel.size)⟩
theorem ClN.ne (h : ClN F w nb n m B bb vs nb2 bb2 us j W) : nb2 ≠ bb2 := fun e => by
  have h1 := h.row2
  rw [e, h.bags2] at h1
  simp at h1
theorem ClN.nbl (h : ClN F w nb n m B bb vs nb2 bb2 us j W) (i : Nat) (hi : i < us.length) : us[i].ownBlock ≠ some bb2 ∧ us[i].ownBlock ≠ some nb2 := by
  refine ⟨fun e => ?_, fun e => ?_⟩
  · obtain ⟨cur, hc⟩ := ownsRow_type (h.own2 i hi) _ e
    rw [h.bags2] at hc
    simp at hc
  · obtain ⟨cur, hc⟩ := ownsRow_type (h.own2 i hi) _ e
    rw [h.row2] at hc
    simp at hc
theorem ClN.cell (h : ClN F w nb n m B bb vs nb2 bb2 us j W) (hj : j < m) : W.cell? ⟨bb2, j, none⟩ = some (.slice none 0 0) := by
  have hu : j < us.length := by rw [h.len2]; exact hj
  rw [cell_of_row W bb2 j _ _ _ h.bags2, List.getElem?_toArray, List.getElem?_eq_getElem hu, h.zer2 j hu (Nat.le_refl _)]
theorem ClN.free (h : ClN F w nb n m B bb vs nb2 bb2 us j W) (i : Nat) : W.frozen? ⟨bb2, i, none⟩ = false := frozen_of_row W bb2 i _ _ h.bags2
theorem ClN.put (h : ClN F w nb n m B bb vs nb2 bb2 us j W) (hj : j < m) (hb : Below W.heap.size W W') {v : Value} (ho : OwnP W.heap.size W' v (B j)) : ClN F w nb n m B bb vs nb2 bb2 (us.set j v) (j + 1) (W'.setCell ⟨bb2, j, none⟩ v) := by
  have h' := h.below hb
  have hu : j < us.length := by rw [h.len2]; exact hj
  have hk : ∀ k, k ≠ bb2 → (W'.setCell ⟨bb2, j, none⟩ v).heap[k]? = W'.heap[k]? := fun k hk => Below.heap_setCell _ _ _ _ hk
  have hs : (W'.setCell ⟨bb2, j, none⟩ v).heap.size = W'.heap.size := by simp [World.setCell]
  have hbF : ∀ k, F k → k ≠ bb2 := fun k hF e => by have h1 := h.hF k hF; have h2 := h.hi.2; omega
  have hvb : ∀ k, v.ownBlock = some k → W.heap.size ≤ k := fun k e => (World.ownsRow.lt ho k e).1
  have hlt2 := row_lt h.bags2
  have hold : ∀ i (hi : i < us.length) k, us[i].ownBlock = some k → k < W.heap.size := fun i hi k e => (World.ownsRow.lt (h.own2 i hi) k e).2
  refine ⟨h'.src.keep ⟨by rw [hs]; exact Nat.le_refl _, fun k q => hk k (hbF k q)⟩, h.hF, (hk _ h.ne).trans h'.row2, ?_, by rw [List.length_set]; exact h.len2, h.em, ?_, ?_, ?_, h.hi, h'.bel.setCell (p := ⟨bb2, j, none⟩) h.hi.2 _⟩
  · rw [heap_setCell_same W' bb2 j _ _ _ h'.bags2]
    simp
  · intro i hi
    rw [List.length_set] at hi
    by_cases e : i = j
    · subst e
      rw [List.getElem_set_self, if_pos (by omega)]
      exact ownsRow_low (ownsRow_keep ho fun k e => hk k (fun e2 => by have := hvb k e; omega)) h.bel.size
    · rw [List.getElem_set_ne (fun e2 => e e2.symm)]
      have h9 := h'.own2 i hi
      have e3 : (if i < j + 1 then B i else []) = (if i < j then B i else []) := by
        by_cases q : i < j
        · rw [if_pos q, if_pos (by omega)]
        · rw [if_neg q, if_neg (by omega)]
      rw [e3]
      exact ownsRow_keep h9 fun k e => hk k (fun e2 => (h'.nbl i hi).1 (by rw [e, e2]))
  · intro i hi hji
    rw [List.length_set] at hi
    rw [List.getElem_set_ne (by omega)]
    exact h.zer2 i hi (by omega)
  · intro i hi l hl hil k e e2
    have hi' : i < us.length := by simpa using hi
    have hl' : l < us.length := by simpa using hl
    by_cases ei : i = j
    · subst ei
      rw [List.getElem_set_self] at e
      rw [List.getElem_set_ne hil] at e2
      have h1 := hvb k e
      have h2 := hold l hl' k e2
      omega
    · rw [List.getElem_set_ne (fun e => ei e.symm)] at e
      by_cases el : l = j
      · subst el
        rw [List.getElem_set_self] at e2
        have h1 := hvb k e2
        have h2 := hold i hi' k e
        omega
      · rw [List.getElem_set_ne (fun e => el e.symm)] at e2
        exact h.dis2 i hi' l hl' hil k e e2
theorem ClN.done (h : ClN F w nb n m B bb vs nb2 bb2 us m W) : NetIs (fun k => w.heap.size ≤ k ∧ k < W.heap.size) W nb2 n B bb2 us where
  row := by rw [← h.em]; exact h.row2
  bags := h.bags2
  len := h.len2.trans h.em
  hown := fun i hi => by
    have h9 := h.own2 i hi
    rw [if_pos (by rw [← h.len2]; exact hi)] at h9
    exact ownsRow_low h9 (Nat.zero_le _)
  small := h.src.small
  lim := h.src.lim
  fl := ⟨h.hi.1, row_lt h.row2⟩
  fb := ⟨h.hi.2, row_lt h.bags2⟩
  fr := fun i hi k e => World.ownsRow.lt (h.own2 i hi) k e
  dis := h.dis2
  lt := fun k q => q.2
end

set_option maxRecDepth 100000 in
set_option maxHeartbeats 8000000 in
theorem netClone_any (F : Nat → Prop) (nb n : Nat) (B : Nat → List Pc) (w : World) (h : NetOk F w nb n B) :
    Calls Try.prog 6 #[.pointer (some ⟨nb, 0, none⟩)] w fun e w' => ∃ nb2 F2, e = .returned (.pointer (some ⟨nb2, 0, none⟩)) ∧ NetOk F2 w' nb2 n B ∧ (∀ k, F2 k → w.heap.size ≤ k) ∧ Below w.heap.size w w' := by
  obtain ⟨bb, vs, h⟩ := h
  have HFl : Hid (∀ k, F k → k < w.heap.size) := h.lt
  obtain ⟨m, hm⟩ : ∃ m, m = n * n := ⟨_, rfl⟩
  have Hm : Hid (m = n * n) := hm
  have hm2 : m ≤ 4096 := (by rw [hm]; exact Nat.mul_le_mul h.small h.small)
  have HNl : Hid (m ≤ 4096) := hm2
  clear hm
  have HSrc : Hid (NetIs F w nb n B bb vs) := h
  have HB : Hid (Below w.heap.size w w) := Below.refl _ _
  clear h
  go_enter Try.func6, Try.ntmps6
  go_upto_region 3 with fail
  refine wp_region_held_drew (S := fun W' => NetIs F W' nb n B bb vs) (by kernel_rfl) (HSrc.out.below (Below.refl _ _).drew) (fun hHeld => ?_)
  obtain ⟨Uc1u0, eW⟩ : ∃ X, X = w.drew := ⟨_, rfl⟩
  have hb : Below w.heap.size w Uc1u0 := by rw [eW]; exact (Below.refl _ _).drew
  replace HB : Hid (Below w.heap.size w Uc1u0) := HB.out.trans (hb.mono HB.out.size)
  replace HSrc : Hid (NetIs F Uc1u0 nb n B bb vs) := HSrc.out.below hb
  rw [← eW] at hHeld ⊢
  clear eW hb
  refine tkW 0 (some 8) (v := ?_) ?_ hHeld ?_
  rotate_left
  · (intro ww _; go_simp; try with_reducible rfl)
  refine tkW 1 (some 9) (v := ?_) ?_ hHeld ?_
  rotate_left
  · (intro ww hSw; (try dsimp only at hSw); go_simp; try with_reducible rfl)
  refine tkW 2 (some 10) (v := ?_) ?_ hHeld ?_
  rotate_left
  · (intro ww _; go_simp; try with_reducible rfl)
  refine tkW 3 (some 11) (v := ?_) ?_ hHeld ?_
  rotate_left
  · (intro ww hSw; (try dsimp only at hSw); have c0 := hSw.cell0; go_simp; try with_reducible rfl)
  refine tkW 4 (some 12) (v := ?_) ?_ hHeld ?_
  rotate_left
  · (intro ww _; go_simp; try with_reducible rfl)
  refine tkW 5 (some 13) (v := ?_) ?_ hHeld ?_
  rotate_left
  · (intro ww hSw; (try dsimp only at hSw); go_simp; try with_reducible rfl)
  refine tkW 6 (some 14) (v := ?_) ?_ hHeld ?_
  rotate_left
  · (intro ww _; go_simp; try with_reducible rfl)
  refine tkW 7 (some 15) (v := ?_) ?_ hHeld ?_
  rotate_left
  · (intro ww hSw; (try dsimp only at hSw); have c1 := hSw.cell1; rw [← Hm.out] at c1; go_simp; try with_reducible rfl)
  refine tkW 8 (some 16) (v := ?_) ?_ hHeld ?_
  rotate_left
  · (intro ww hSw; (try dsimp only at hSw); go_simp; try with_reducible rfl)
  refine wpAnyH_ready (rs := [9]) (by kernel_rfl) (by simp) ?_
  refine AllReadyH.cons (o := ⟨some 17, _, _, _, _, _⟩) rfl (fun K hK => ?_) AllReadyH.nil
  obtain ⟨Uc1u1, hmk, hbg, hb⟩ := mkBags m HNl.out Uc1u0
  have hmk2 : (Instr.makeSlice 41 (.int .i64 (m : Int)) (.int .i64 (m : Int))).run Try.prog Uc1u0 = .ok (.slice (some ⟨Uc1u0.heap.size, 0, none⟩) m m) Uc1u1 := hmk
  clear hmk
  go_simp
  obtain ⟨bb2, ebb⟩ : ∃ b, b = Uc1u0.heap.size := ⟨_, rfl⟩
  have HG2 : Hid (Uc1u1.heap[bb2]? = some (.cells (List.replicate m (.slice none 0 0)).toArray 47)) := (by rw [ebb]; exact hbg)
  have HL2 : Hid (w.heap.size ≤ bb2) := (by show _ ≤ _; rw [ebb]; exact HB.out.size)
  rw [← ebb]
  clear ebb hmk2 hbg
  refine hK.out _ _ (hHeld.below hb) (fun hHeld2 => ?_)
  clear hK K hHeld
  have hHeld := hHeld2
  clear hHeld2
  (try simp only [Act.put, List.setIfInBounds_toArray, List.set_cons_zero, List.set_cons_succ])
  replace HB : Hid (Below w.heap.size w Uc1u1) := HB.out.trans (hb.mono HB.out.size)
  replace HSrc : Hid (NetIs F Uc1u1 nb n B bb vs) := HSrc.out.below hb
  clear hb
  refine tkW 10 (some 18) (v := ?_) ?_ hHeld ?_
  rotate_left
  · (intro ww hSw; (try dsimp only at hSw); go_simp; try with_reducible rfl)
  refine wpAnyH_ready (rs := [11]) (by kernel_rfl) (by simp) ?_
  refine AllReadyH.cons (o := ⟨some 19, _, _, _, _, _⟩) rfl (fun K hK => ?_) AllReadyH.nil
  have hb : Below Uc1u1.heap.size Uc1u1 (Uc1u1.alloc (.cells #[.int .i64 (n : Int), .slice (some ⟨bb2, 0, none⟩) m m] 43)) := (Below.refl _ _).alloc (Nat.le_refl _) _
  go_simp
  obtain ⟨Uc1u2, eW⟩ : ∃ X, X = Uc1u1.alloc (.cells #[.int .i64 (n : Int), .slice (some ⟨bb2, 0, none⟩) m m] 43) := ⟨_, rfl⟩
  rw [← eW] at hb ⊢
  obtain ⟨nb2, enb⟩ : ∃ b, b = Uc1u1.heap.size := ⟨_, rfl⟩
  have HR2 : Hid (Uc1u2.heap[nb2]? = some (.cells #[.int .i64 (n : Int), .slice (some ⟨bb2, 0, none⟩) m m] 43)) := (by rw [eW, enb]; exact heap_alloc_new _ _)
  have HL3 : Hid (w.heap.size ≤ nb2) := (by show _ ≤ _; rw [enb]; exact HB.out.size)
  rw [← enb]
  clear enb eW
  refine hK.out _ _ (hHeld.below hb) (fun hHeld2 => ?_)
  clear hK K hHeld
  have hHeld := hHeld2
  clear hHeld2
  (try simp only [Act.put, List.setIfInBounds_toArray, List.set_cons_zero, List.set_cons_succ])
  replace HB : Hid (Below w.heap.size w Uc1u2) := HB.out.trans (hb.mono HB.out.size)
  replace HSrc : Hid (NetIs F Uc1u2 nb n B bb vs) := HSrc.out.below hb
  replace HG2 : Hid (Uc1u2.heap[bb2]? = some (.cells (List.replicate m (.slice none 0 0)).toArray 47)) := (hb.block _ (row_lt HG2.out)).trans HG2.out
  clear hb
  refine tkW 12 (some 3) (v := ?_) ?_ hHeld ?_
  rotate_left
  · (intro ww _; go_simp; try with_reducible rfl)
  refine wpAnyH_done (by kernel_rfl) ?_ _
  clear hHeld
  have HC0 : Hid (ClN F w nb n m B bb vs nb2 bb2 (List.replicate m (.slice none 0 0)) 0 Uc1u2) := ⟨HSrc.out, HFl.out, HR2.out, HG2.out, by simp, Hm.out, fun i h => by rw [List.getElem_replicate, if_neg (by omega)]; exact OwnP.nil0 _ _, fun i h _ => List.getElem_replicate _, fun i h j h2 _ k e => by (rw [List.getElem_replicate] at e; cases e), ⟨HL3.out, HL2.out⟩, HB.out⟩
  have c1 := HSrc.out.cell1
  rw [← Hm.out] at c1
  clear HSrc HR2 HG2 HB
  go_wp2
  clear c1
  go_loopw [25] (fun jv wr => ∃ (j : Nat) (us : List Value), j ≤ m ∧ jv = .int .i64 (j : Int) ∧ Hid (ClN F w nb n m B bb vs nb2 bb2 us j wr)) (fun jv _ => m - (intOf jv).toNat)
  case atStart => exact ⟨0, _, Nat.zero_le _, rfl, HC0⟩
  case round =>
    clear HC0
    obtain ⟨j, us, hj, rfl, HC⟩ := hrel
    by_cases hlt : j < m
    · obtain ⟨a5, c5, e5⟩ := (HC.out.src.hown j (by rw [HC.out.src.len, ← HC.out.em]; exact hlt)).form
      have s5 := HC.out.src.celli (i := j) (by rw [HC.out.src.len, ← HC.out.em]; exact hlt)
      rw [e5] at s5
      have HP4 : Hid (OwnP 0 wr (.slice a5 (B j).length c5) (B j)) := (by rw [← e5]; exact HC.out.src.hown j (by rw [HC.out.src.len, ← HC.out.em]; exact hlt))
      have HLm : Hid ((B j).length ≤ 256) := (HC.out.src.lim j).1
      have Hj : Hid (j < m) := hlt
      have k1 : (j : Int) < (m : Int) := by omega
      have k0 : (0 : Int) ≤ (j : Int) := by omega
      have Hj3 : Hid ((0 : Int) ≤ (j : Int) ∧ (j : Int) < (m : Int)) := ⟨k0, k1⟩
      obtain ⟨W4, eW4⟩ : ∃ X, X = wr.alloc (.cells #[.slice a5 (B j).length c5] 47) := ⟨_, rfl⟩
      have hb4 : Below wr.heap.size wr W4 := by rw [eW4]; exact (Below.refl _ _).alloc (Nat.le_refl _) _
      obtain ⟨b4, eb4⟩ : ∃ b, b = wr.heap.size := ⟨_, rfl⟩
      have HX4 : Hid (W4.heap[b4]? = some (.cells #[.slice a5 (B j).length c5] 47)) := (by rw [eW4, eb4]; exact heap_alloc_new _ _)
      have Hb4 : Hid (b4 ≠ bb2 ∧ b4 ≠ nb2) := (by have h1 := row_lt HC.out.bags2; have h2 := row_lt HC.out.row2; exact ⟨by omega, by omega⟩)
      have HC4 : Hid (ClN F w nb n m B bb vs nb2 bb2 us j W4) := HC.out.below hb4
      have HP5 : Hid (OwnP 0 W4 (.slice a5 (B j).length c5) (B j)) := HP4.out.below hb4
      have HE4 := hide9 (And.intro eW4 eb4)
      clear e5 hb4 HC HP4 eW4 eb4
      have HC := HC4
      clear HC4
      go_upto_region 7 with fail
      rw [← HE4.out.1, ← HE4.out.2]
      clear HE4 s5
      refine wp_region_held_drew (S := fun W' => W'.heap[nb2]? = some (.cells #[.int .i64 (n : Int), .slice (some ⟨bb2, 0, none⟩) m m] 43) ∧ W'.heap[b4]? = some (.cells #[.slice a5 (B j).length c5] 47)) (by kernel_rfl) ⟨HC.out.row2, HX4.out⟩ (fun hHeld => ?_)
      obtain ⟨Uk2u0, eW⟩ : ∃ X, X = W4.drew := ⟨_, rfl⟩
      have hb : Below W4.heap.size W4 Uk2u0 := by rw [eW]; exact (Below.refl _ _).drew
      replace HC : Hid (ClN F w nb n m B bb vs nb2 bb2 us j Uk2u0) := HC.out.below hb
      replace HP5 : Hid (OwnP 0 Uk2u0 (.slice a5 (B j).length c5) (B j)) := HP5.out.below hb
      rw [← eW] at hHeld ⊢
      clear eW hb
      refine tkW 0 (some 30) (v := ?_) ?_ hHeld ?_
      rotate_left
      · (intro ww _; go_simp; try with_reducible rfl)
      refine tkW 1 (some 31) (v := ?_) ?_ hHeld ?_
      rotate_left
      · (intro ww hSw; (try dsimp only at hSw); go_simp; try with_reducible rfl)
      refine tkW 2 (some 32) (v := ?_) ?_ hHeld ?_
      rotate_left
      · (intro ww _; go_simp; try with_reducible rfl)
      refine tkW 3 (some 33) (v := ?_) ?_ hHeld ?_
      rotate_left
      · (intro ww hSw; (try dsimp only at hSw); have r1 : ww.cell? ⟨nb2, 1, none⟩ = some (.slice (some ⟨bb2, 0, none⟩) m m) := (by rw [cell_of_row ww nb2 1 _ _ _ hSw.1]; rfl); go_simp; try with_reducible rfl)
      refine tkW 4 (some 34) (v := ?_) ?_ hHeld ?_
      rotate_left
      · (intro ww _; go_simp; try with_reducible rfl)
      refine tkW 5 (some 35) (v := ?_) ?_ hHeld ?_
      rotate_left
      · (intro ww _; go_simp; try with_reducible rfl)
      refine tkW 6 (some 36) (v := ?_) ?_ hHeld ?_
      rotate_left
      · (intro ww hSw; (try dsimp only at hSw); have s0 : ww.cell? ⟨b4, 0, none⟩ = some (.slice a5 (B j).length c5) := (by rw [cell_of_row ww b4 0 _ _ _ hSw.2]; rfl); go_simp; try with_reducible rfl)
      refine wpAnyH_ready (rs := [7]) (by kernel_rfl) (by simp) ?_
      refine AllReadyH.cons (o := ⟨some 37, _, _, _, _, _⟩) rfl (fun K hK => ?_) AllReadyH.nil
      go_simp
      refine (cloneP _ (B j) _ HP5.out (HLm.out)).mono ?_
      rintro e Uk2u1 ⟨v6, rfl, ho6, hb⟩
      obtain ⟨a6, c6, e6⟩ := ho6.form
      subst e6
      have HO6 : Hid (OwnP Uk2u0.heap.size Uk2u1 (.slice a6 (B j).length c6) (B j) ∧ Below Uk2u0.heap.size Uk2u0 Uk2u1) := ⟨ho6, hb⟩
      have hS7 : Uk2u1.heap[nb2]? = some (.cells #[.int .i64 (n : Int), .slice (some ⟨bb2, 0, none⟩) m m] 43) ∧ Uk2u1.heap[b4]? = some (.cells #[.slice a5 (B j).length c5] 47) := ⟨(hb.block _ (row_lt hHeld.1)).trans hHeld.1, (hb.block _ (row_lt hHeld.2)).trans hHeld.2⟩
      have HC7 : Hid (ClN F w nb n m B bb vs nb2 bb2 us j Uk2u0) := HC.out
      have HQ : Hid (ClN F w nb n m B bb vs nb2 bb2 us j Uk2u1) := HC.out.below hb
      clear ho6 HC HP5
      (try go_wp2_with fail)
      refine hK.out _ _ (hS7) (fun hHeld2 => ?_)
      clear hK K hHeld
      have hHeld := hHeld2
      clear hHeld2
      (try simp only [Act.put, List.setIfInBounds_toArray, List.set_cons_zero, List.set_cons_succ])
      clear hb hS7
      refine tkW 8 (some 38) (v := ?_) ?_ hHeld ?_
      rotate_left
      · (intro ww hSw; (try dsimp only at hSw); have g1 := Hj3.out.1; have g2 := Hj3.out.2; have g3 := Hj3.out; go_simp; try with_reducible rfl)
      refine tkW 9 (some 39) (v := ?_) ?_ hHeld ?_
      rotate_left
      · (intro ww _; go_simp; try with_reducible rfl)
      refine wpAnyH_ready (rs := [10]) (by kernel_rfl) (by simp) ?_
      refine AllReadyH.cons (o := ⟨none, _, _, _, _, _⟩) rfl (fun K hK => ?_) AllReadyH.nil
      have hcl := HQ.out.cell Hj.out
      have hfz := HQ.out.free j
      go_simp
      refine hK.out _ _ (⟨(RowKit.Below.heap_setCell _ _ _ _ HQ.out.ne).trans hHeld.1, (RowKit.Below.heap_setCell _ _ _ _ Hb4.out.1).trans hHeld.2⟩) (fun hHeld2 => ?_)
      clear hK K hHeld
      have hHeld := hHeld2
      clear hHeld2
      (try simp only [Act.put, List.setIfInBounds_toArray, List.set_cons_zero, List.set_cons_succ])
      obtain ⟨Uk2u2, eWn⟩ : ∃ X, X = Uk2u1.setCell ⟨bb2, j, none⟩ (.slice a6 (B j).length c6) := ⟨_, rfl⟩
      rw [← eWn] at hHeld ⊢
      have HCn : Hid (∃ us2, ClN F w nb n m B bb vs nb2 bb2 us2 (j + 1) Uk2u2) := (by rw [eWn]; exact ⟨_, HC7.out.put Hj.out HO6.out.2 HO6.out.1⟩)
      clear eWn hcl hfz HC7 HO6 HQ
      refine wpAnyH_done (by kernel_rfl) ?_ _
      clear hHeld
      have n1 : IntKind.i64.wrap ((j : Int) + 1) = (j : Int) + 1 := by rw [IntKind.wrap_i64]; omega
      obtain ⟨us2, hcn⟩ := HCn.out
      have HC : Hid (ClN F w nb n m B bb vs nb2 bb2 us2 (j + 1) Uk2u2) := hcn
      clear hcn HCn
      go_wp2
      go_roundw
      case rel => exact ⟨j + 1, us2, by omega, by go_num, HC⟩
      case measure => simp [intOf]; omega
    · have ej : j = m := by omega
      have HE : Hid (NetOk (fun k => w.heap.size ≤ k ∧ k < wr.heap.size) wr nb2 n B) := ⟨bb2, us, (ej ▸ HC.out).done⟩
      have HBe : Hid (Below w.heap.size w wr) := HC.out.bel
      have k1 : ¬ (j : Int) < (m : Int) := by omega
      have k2 : decide ((j : Int) < (m : Int)) = false := decide_eq_false k1
      clear HC ej
      go_wp2
      go_ret
      exact ⟨nb2, rfl, _, HE.out, fun k hk => hk.1, HBe.out⟩

end Go.Proofs.Ytlcnfoljkcfplaa
