/- slices.Delete of one row; Undo. -/
import Derived.Test.YtljepindfdhbbaaTrJ
import Derived.Lib.SlicesDelete
import Derived.Deep.RegionLaw
import Derived.Shelf.RegionOpenPlain
import Derived.Lib.SliceRun
namespace Go.Proofs.Ytljepindfdhbbaa
open Go.RowKit
set_option linter.unusedVariables false
set_option linter.unusedSimpArgs false

theorem splice_len {cur : List Value} {o : Nat} {vs : List Value} (h : o + vs.length ≤ cur.length) : (splice cur o vs).length = cur.length := by
  unfold splice
  simp
  omega
theorem heap_setCells_same (g : Nat) (t : TypeId) : ∀ (vs : List Value) (o : Nat) (cur : Array Value) (w : World), w.heap[g]? = some (.cells cur t (0, 0)) → o + vs.length ≤ cur.size → (w.setCells g o vs).heap[g]? = some (.cells (splice cur.toList o vs).toArray t (0, 0))
  | [], o, cur, w, h, hl => by
    show w.heap[g]? = _
    rw [h]
    unfold splice
    simp
  | v :: r, o, cur, w, h, hl => by
    have h1 := heap_setCell_same w g o cur t v h
    have h2 := heap_setCells_same g t r (o + 1) _ _ h1 (by simp at hl ⊢; omega)
    show ((w.setCell ⟨g, o, none⟩ v).setCells g (o + 1) r).heap[g]? = _
    rw [h2]
    have e : splice (cur.setIfInBounds o v).toList (o + 1) r = splice cur.toList o (v :: r) := by
      unfold splice
      simp at hl
      rw [Array.toList_setIfInBounds]
      rw [show (cur.toList.set o v).take (o + 1) = cur.toList.take o ++ [v] from by rw [List.take_succ_eq_append_getElem (by simp; omega), List.take_set_of_le (Nat.le_refl _)]; simp, List.drop_set_of_lt (by omega)]
      simp [Nat.add_assoc, Nat.add_comm 1 r.length]
    rw [e]
theorem grownBy_setCells (g : Nat) : ∀ (vs : List Value) (o : Nat) (w : World), w.grownBy (w.setCells g o vs) (some g)
  | [], o, w => ⟨rfl, rfl, rfl, Nat.le_refl _, fun _ _ _ => rfl⟩
  | v :: r, o, w => (grownBy_setCell w g o v).trans (grownBy_setCells g r (o + 1) _)
/-- clear, of one row. -/
theorem run_clearM (w : World) (ty : TypeId) (g o c : Nat) (hc : ∀ j, j < 13 → (w.cell? ⟨g, o + j, none⟩).isSome = true) (hf : ∀ j, j < 13 → w.frozen? ⟨g, o + j, none⟩ = false) :
    (Builtin.clear_ #[64] ty #[.slice (some ⟨g, o, none⟩) 1 c]).run Try.prog w = .ok (.tuple #[]) (w.setCells g o (#[.int .i64 0, .int .i64 0, .int .i64 0, .int .i64 0, .int .i64 0, .int .i64 0, .bool false, .int .i64 0, .int .i64 0, .int .i64 0, .int .i64 0, .int .i64 0, .int .i64 0] : Array Value).toList) := by
  have hv : (zeroValue 69).run Try.prog w = .ok (.agg #[.int .i64 0, .int .i64 0, .int .i64 0, .int .i64 0, .int .i64 0, .int .i64 0, .bool false, .int .i64 0, .int .i64 0, .int .i64 0, .int .i64 0, .int .i64 0, .int .i64 0]) w := by kernel_rfl
  have hst := run_storeCells_cells (P := Try.prog) g o (#[.int .i64 0, .int .i64 0, .int .i64 0, .int .i64 0, .int .i64 0, .int .i64 0, .bool false, .int .i64 0, .int .i64 0, .int .i64 0, .int .i64 0, .int .i64 0, .int .i64 0] : Array Value).toList 0 w (by simpa using hc) (by simpa using hf) (by intro v hv'; simp at hv'; rcases hv' with rfl | rfl | rfl <;> rfl)
  simp only [Nat.add_zero] at hst
  have hzc : (Builtin.zeroCells (Value.agg #[.int .i64 0, .int .i64 0, .int .i64 0, .int .i64 0, .int .i64 0, .int .i64 0, .bool false, .int .i64 0, .int .i64 0, .int .i64 0, .int .i64 0, .int .i64 0, .int .i64 0]).cells 1).toList = (#[.int .i64 0, .int .i64 0, .int .i64 0, .int .i64 0, .int .i64 0, .int .i64 0, .bool false, .int .i64 0, .int .i64 0, .int .i64 0, .int .i64 0, .int .i64 0, .int .i64 0] : Array Value).toList := by kernel_rfl
  simp only [Builtin.clear_, List.getElem?_toArray, List.getElem?_cons_zero, Sem.run_bind, run_underlying Try.underlying64, Result.andThen_ok, hv, hzc, hst, Sem.run_pure]

set_option maxRecDepth 1000000 in
set_option maxHeartbeats 4000000 in
theorem delete_any (v : Value) (d : List Rw) (i m : Nat) (w : World) (h : OwnR 0 w v d) (hl : d.length ≤ 4096) (hm : d.length = i + m + 1) :
    Calls Try.prog 59 #[v, .int .i64 (i : Int), .int .i64 ((i + 1 : Nat) : Int)] w fun e w' => ∃ v', e = .returned v' ∧ OwnR 0 w' v' (d.take i ++ d.drop (i + 1)) ∧ w.grownBy w' v.ownBlock ∧ v'.ownBlock = v.ownBlock := by
  obtain ⟨i0, hi0, hz0, hz1, hz2⟩ := info_parts infoMove
  obtain ⟨hxl, h2⟩ := h
  rcases h2 with ⟨rfl, hn⟩ | ⟨g, cap, cur, rfl, hg, hc, hcap, hmx, hsz, htk⟩
  · omega
  rw [hm]
  obtain ⟨Y, eY⟩ : ∃ Y, Y = flatE rwCells (d.drop (i + 1)) := ⟨_, rfl⟩
  have hYl : Y.length = m * 13 := by rw [eY, flatE_length rwCells_len, List.length_drop]; congr 1; omega
  have hYe : Y = (cur.toList.take ((i + m + 1) * 13)).drop ((i + 1) * 13) := by rw [eY, flatE_drop rwCells_len, ← htk, hm]
  have hcl : cur.toList.length = cap * 13 := by simpa using hsz
  have hcell : ∀ j, j < cap * 13 → ∀ W : World, W.heap = w.heap → W.cell? ⟨g, j, none⟩ = cur.toList[j]? := fun j hj W e => by
    rw [cell_of_row W g j _ _ _ (by rw [e]; exact hc)]; simp
  have hge : ∀ t u, Y[t]? = some u → cur.toList[(i + 1) * 13 + t]? = some u := fun t u hu => by
    have ht : t < m * 13 := by have := (List.getElem?_eq_some_iff.1 hu).1; omega
    rw [hYe, List.getElem?_drop, List.getElem?_take_of_lt (by rw [Nat.add_mul, Nat.add_mul, Nat.add_mul]; omega)] at hu
    exact hu
  obtain ⟨A, hA, hsrc⟩ : ∃ A : Addr, (if cap = i + 1 then some (⟨g, 0, none⟩ : Addr) else some ⟨g, (i + 1) * 13, none⟩) = some A ∧ Hid (∀ t u, Y[t]? = some u → w.drew.cell? (A.add t) = some u) := by
    by_cases h9 : cap = i + 1
    · refine ⟨⟨g, 0, none⟩, by simp [h9], fun t u hu => ?_⟩
      have : t < m * 13 := by have := (List.getElem?_eq_some_iff.1 hu).1; omega
      have : m = 0 := by omega
      subst this
      omega
    · refine ⟨⟨g, (i + 1) * 13, none⟩, by simp [h9], fun t u hu => ?_⟩
      have ht : t < m * 13 := by have := (List.getElem?_eq_some_iff.1 hu).1; omega
      rw [Addr.add_lit, hcell _ (by rw [Nat.add_mul]; have : (i + m + 1) * 13 ≤ cap * 13 := Nat.mul_le_mul_right _ (by omega); rw [Nat.add_mul, Nat.add_mul] at this; omega) w.drew rfl]
      exact hge t u hu
  have s1 : Hid (Y.length = m * 13) := hYl
  have s2 : Hid (∀ u ∈ Y, u.oneCell' = true) := by (rw [eY]; exact flat_one _)
  have hcap13 : (i + m + 1) * 13 ≤ cap * 13 := Nat.mul_le_mul_right _ (by omega)
  have s3 : Hid (∀ t, t < Y.length → (w.drew.cell? ⟨g, 0 + i * 13 + t, none⟩).isSome = true ∧ w.drew.frozen? ⟨g, 0 + i * 13 + t, none⟩ = false) := fun t ht => by
    rw [hYl] at ht
    rw [Nat.add_mul, Nat.add_mul] at hcap13
    refine ⟨?_, frozen_of_row w.drew g _ _ _ hc⟩
    rw [hcell _ (by omega) w.drew rfl, List.getElem?_eq_getElem (by omega)]
    rfl
  obtain ⟨W1, hW1⟩ : ∃ W1, W1 = w.drew.setCells g (0 + i * 13) Y := ⟨_, rfl⟩
  have hr1 : W1.heap[g]? = some (.cells (splice cur.toList (0 + i * 13) Y).toArray 69 (0, 0)) := by
    rw [hW1]
    exact heap_setCells_same g _ Y _ cur w.drew hc (by rw [Nat.add_mul, Nat.add_mul] at hcap13; omega)
  have hl1 : (splice cur.toList (0 + i * 13) Y).length = cap * 13 := by rw [splice_len (by rw [Nat.add_mul, Nat.add_mul] at hcap13; omega)]; exact hcl
  have hcl1 : ∀ ty, (Builtin.clear_ #[64] ty #[.slice (some ⟨g, (i + m) * 13, none⟩) 1 (cap - (i + m))]).run Try.prog W1 = .ok (.tuple #[]) (W1.setCells g ((i + m) * 13) (#[.int .i64 0, .int .i64 0, .int .i64 0, .int .i64 0, .int .i64 0, .int .i64 0, .bool false, .int .i64 0, .int .i64 0, .int .i64 0, .int .i64 0, .int .i64 0, .int .i64 0] : Array Value).toList) := fun ty => run_clearM W1 ty g _ _ (fun j hj => by
      rw [cell_of_row W1 g _ _ _ _ hr1]
      rw [Nat.add_mul] at hcap13
      simp only [List.getElem?_toArray]
      rw [List.getElem?_eq_getElem (by omega)]
      rfl) (fun j hj => frozen_of_row W1 g _ _ _ hr1)
  have HR : Hid (W1.heap[g]? = some (.cells (splice cur.toList (0 + i * 13) Y).toArray 69 (0, 0))) := hr1
  have HW : Hid (W1 = w.drew.setCells g (0 + i * 13) Y) := hW1
  have HFin : Hid (OwnR 0 (W1.setCells g ((i + m) * 13) (#[.int .i64 0, .int .i64 0, .int .i64 0, .int .i64 0, .int .i64 0, .int .i64 0, .bool false, .int .i64 0, .int .i64 0, .int .i64 0, .int .i64 0, .int .i64 0, .int .i64 0] : Array Value).toList) (.slice (some ⟨g, 0, none⟩) (i + m) cap) (d.take i ++ d.drop (i + 1)) ∧ w.grownBy (W1.setCells g ((i + m) * 13) (#[.int .i64 0, .int .i64 0, .int .i64 0, .int .i64 0, .int .i64 0, .int .i64 0, .bool false, .int .i64 0, .int .i64 0, .int .i64 0, .int .i64 0, .int .i64 0, .int .i64 0] : Array Value).toList) (some g)) := by
    have hdl : (d.take i ++ d.drop (i + 1)).length = i + m := by simp; omega
    refine ⟨?_, ?_⟩
    · show World.ownsRow _ _ _ _ _ _ _
      rw [hdl]
      refine ⟨by rw [flatE_length rwCells_len, hdl], .inr ⟨g, cap, _, rfl, Nat.zero_le _, heap_setCells_same g _ _ _ _ W1 hr1 (by rw [List.size_toArray, hl1]; show (i + m) * 13 + 13 ≤ cap * 13; rw [Nat.add_mul] at hcap13; omega), by omega, hmx, ?_, ?_⟩⟩
      · rw [List.size_toArray, splice_len (by rw [List.toList_toArray, hl1]; rw [Nat.add_mul] at hcap13; simp; omega)]; rw [List.toList_toArray]; exact hl1
      · rw [List.toList_toArray, List.toList_toArray]
        have e1 : (splice (splice cur.toList (0 + i * 13) Y) ((i + m) * 13) (#[.int .i64 0, .int .i64 0, .int .i64 0, .int .i64 0, .int .i64 0, .int .i64 0, .bool false, .int .i64 0, .int .i64 0, .int .i64 0, .int .i64 0, .int .i64 0, .int .i64 0] : Array Value).toList).take ((i + m) * 13) = (splice cur.toList (0 + i * 13) Y).take ((i + m) * 13) := by
          show (List.take _ _ ++ _).take _ = _
          rw [List.take_append_of_le_length (by rw [List.length_take, hl1, Nat.min_eq_left (by rw [Nat.add_mul] at hcap13; omega)]; exact Nat.le_refl _), List.take_take, Nat.min_self]
        rw [e1]
        have hX : (cur.toList.take (0 + i * 13)).length = i * 13 := by rw [List.length_take, hcl, Nat.zero_add, Nat.min_eq_left]; rw [Nat.add_mul, Nat.add_mul] at hcap13; omega
        have e2 : (splice cur.toList (0 + i * 13) Y).take ((i + m) * 13) = cur.toList.take (0 + i * 13) ++ Y := by
          unfold splice
          rw [← List.append_assoc, List.take_append_of_le_length (by rw [List.length_append, hX, hYl, Nat.add_mul]; exact Nat.le_refl _), List.take_of_length_le (by rw [List.length_append, hX, hYl, Nat.add_mul]; exact Nat.le_refl _)]
        rw [e2, flatE_append, eY]
        congr 1
        rw [flatE_take rwCells_len, ← htk, List.take_take, Nat.zero_add, Nat.min_eq_left]
        exact Nat.mul_le_mul_right _ (by omega)
    · rw [hW1]
      have h0 : w.grownBy w.drew (some g) := ⟨rfl, rfl, rfl, Nat.le_refl _, fun _ _ _ => rfl⟩
      exact (h0.trans (grownBy_setCells g Y _ _)).trans (grownBy_setCells g _ _ _)
  have hn1 : ¬ cap = i + m := by omega
  have hic : i ≤ cap := by omega
  have hjc : i + 1 ≤ cap := by omega
  have hkc : i + m ≤ cap := by omega
  have z1 : (0 : Int) ≤ (i : Int) + 1 := by omega
  have z2 : (i : Int) ≤ (i : Int) + (m : Int) := by omega
  have z3 : (0 : Int) ≤ (i : Int) + (m : Int) := by omega
  have z4 : (0 : Int) ≤ (i : Int) + (m : Int) + 1 := by omega
  have z5 : (i : Int) + (m : Int) + 1 ≤ (cap : Int) := by omega
  have z6 : (i : Int) + (m : Int) ≤ (i : Int) + (m : Int) + 1 := by omega
  clear hr1 hW1 hcell hge hxl hc hsz htk hYl hYe eY hcl hcap13 hl1 hm
  go_enter Try.func59, Try.ntmps59
  go_wp2_with fail
  have mixed : Try.prog.follows .mixedOrders = true := by kernel_rfl
  go_region_law_o (refine step_append_room rfl (.tmp 22) (.tmp 25) 64 rfl 69 i0 13 Try.underlying64 hi0 hz1 g 0 i cap (by simp [Act.eval, Act.put]) A m (cap - (i + 1)) Y (by simp [Act.eval, Act.put]) s1.out hsrc.out s2.out (by omega) s3.out ?_; rw [← HW.out])
  go_wp2
  go_ret
  exact ⟨_, rfl, HFin.out.1, HFin.out.2, rfl⟩

/-- What Undo tells. -/
def undoE (L : List Mv) (t : St) : Int := if hasM L t = true then 0 else 4
def UndP (F : Nat → Prop) (w : World) (tb : Nat) (L : List Mv) (t : St) (e : Ending) (w' : World) : Prop := e = .returned (.int .i64 (undoE L t)) ∧ ∃ F', TreeOk F' w' tb (delM L t) ∧ (∀ k, F k → F' k) ∧ (∀ k, F' k → F k ∨ w.heap.size ≤ k) ∧ Touch F w w'
theorem delM_no {L : List Mv} {t : St} (h : hasM L t = false) : delM L t = L := List.filter_eq_self.2 fun x hx => by simpa using hasM_no.1 h x hx

set_option maxRecDepth 100000 in
set_option maxHeartbeats 4000000 in
theorem undo_any (F : Nat → Prop) (tb : Nat) (L : List Mv) (s1 : St) (w : World) (h : TreeOk F w tb L) :
    Calls Try.prog 38 #[.pointer (some ⟨tb, 0, none⟩), .agg #[.int .i64 s1.1, .int .i64 s1.2]] w fun e w' => UndP F w tb L s1 e w' := by
  obtain ⟨R, k, lv, sb, kb, h, em⟩ := h
  have HEm : Hid (mvs R = L) := em
  obtain ⟨W0, eW⟩ : ∃ X, X = w.alloc (.cells (stCells s1).toArray 27) := ⟨_, rfl⟩
  have hb0 : Below w.heap.size w W0 := by rw [eW]; exact (Below.refl _ _).alloc (Nat.le_refl _) _
  have a0 : W0.cell? ⟨w.heap.size, 0, none⟩ = some (.int .i64 s1.1) := by rw [eW, cell_of_row _ _ 0 _ _ _ (heap_alloc_new w _)]; rfl
  have a1 : W0.cell? ⟨w.heap.size, 1, none⟩ = some (.int .i64 s1.2) := by rw [eW, cell_of_row _ _ 1 _ _ _ (heap_alloc_new w _)]; rfl
  have HT : Hid (TrIs F W0 tb R k lv sb kb) := h.below hb0
  have HTo : Hid (Touch F w W0) := Touch.of_below hb0
  have HeW : Hid (W0 = w.alloc (.cells #[.int .i64 s1.1, .int .i64 s1.2] 27)) := eW
  rw [eW] at a0 a1
  clear h hb0 em eW
  go_enter Try.func38, Try.ntmps38
  go_wp2_with fail
  rw [← HeW.out]
  clear HeW a0 a1
  refine (find_any F tb R k lv sb kb s1.1 s1.2 _ HT.out).mono ?_
  rintro e w4 ⟨i, b, rfl, hpl, hbb, hb⟩
  replace HT : Hid (TrIs F w4 tb R k lv sb kb) := HT.out.below hb
  replace HTo : Hid (Touch F w w4) := HTo.out.trans (Touch.of_below (F := fun _ => False) hb) (fun j h => h.elim)
  have HPl : Hid (PlcM (mvs R) s1 i) := hpl
  have HHs : Hid (b = hasM (mvs R) s1) := hbb
  clear hb hpl hbb
  cases b with
  | false =>
    have HHas : Hid (hasM L s1 = false) := by (rw [← HEm.out]; exact HHs.out.symm)
    have HE : Hid (undoE L s1 = 4) := by (show _ = _; unfold undoE; rw [HHas.out]; rfl)
    clear HHs
    go_wp2
    go_ret
    exact ⟨by (rw [HE.out]; rfl), F, by (rw [delM_no HHas.out]; exact ⟨R, k, lv, sb, kb, HT.out, HEm.out⟩), fun _ h => h, fun _ h => .inl h, HTo.out⟩
  | true =>
    have HHas : Hid (hasM (mvs R) s1 = true) := HHs.out.symm
    have HE : Hid (undoE L s1 = 0) := by (show _ = _; unfold undoE; rw [← HEm.out, HHas.out]; rfl)
    obtain ⟨hi0, hie⟩ : ∃ h : i < (mvs R).length, (mvs R)[i].ts = s1 := by (have h9 := HPl.out.has HT.out.ls.srt; rw [HHas.out] at h9; exact of_decide_eq_true h9.symm)
    have hi : i < R.length := by simpa [mvs] using hi0
    have HIe : Hid (R[i].m.ts = s1) := by (show _ = _; rw [← hie]; simp [mvs])
    obtain ⟨m, hm⟩ : ∃ m, R.length = i + m + 1 := ⟨R.length - i - 1, by omega⟩
    have HM : Hid (R.length = i + m + 1) := hm
    have hRl := HT.out.small
    clear HHs hi0 hie hm
    go_wp2_with fail
    refine (rewind_any F tb R k lv sb kb i _ HT.out).mono ?_
    rintro e w5 ⟨⟨v5, rfl⟩, hT5, ht5⟩
    replace HTo : Hid (Touch F w w5) := HTo.out.trans ht5 (fun j hj => .inl hj)
    obtain ⟨k2, hk2⟩ : ∃ k', k' = min k i := ⟨_, rfl⟩
    rw [← hk2] at hT5
    have HKi : Hid (k2 ≤ i) := by (rw [hk2]; exact Nat.min_le_right _ _)
    have HT5 : Hid (TrIs F w5 tb R k2 lv sb kb) := hT5
    clear HT hT5 ht5 hk2
    obtain ⟨a9, c9, e9⟩ := HT5.out.own.form
    subst e9
    have t0 := HT5.out.t0
    have n12 : IntKind.i64.wrap ((i : Int) + 1) = (i : Int) + 1 := by rw [IntKind.wrap_i64]; omega
    go_wp2_with fail
    clear t0 n12
    refine (delete_any (.slice a9 R.length c9) R i m _ HT5.out.own HT5.out.small HM.out).mono ?_
    rintro e w6 ⟨lv2, rfl, ho, hg, hat⟩
    obtain ⟨hLs, hMs⟩ := HT5.out.ls.del HPl.out hi HIe.out HKi.out
    have HRd : Hid (Listed F w w5 w6 tb R k2 (.slice a9 R.length c9) sb kb lv2 (R.take i ++ R.drop (i + 1))) := ⟨HT5.out, HTo.out, ho, hg, .inl hat, hLs, by (have h1 := HKi.out; unfold mvs; rw [List.map_append, List.take_append_of_le_length (by simp; omega), List.map_take, List.take_take, Nat.min_eq_left h1]), by (simp only [List.length_append, List.length_take, List.length_drop]; omega)⟩
    have HMs : Hid (mvs (R.take i ++ R.drop (i + 1)) = delM L s1) := by (rw [← HEm.out]; exact hMs)
    obtain ⟨a2, n2, c2, e2⟩ : ∃ a2 n2 c2, lv2 = .slice a2 n2 c2 := by (obtain ⟨a2, c2, e2⟩ := ho.form; exact ⟨a2, _, c2, e2⟩)
    subst e2
    have hc0 := HRd.out.t0
    have hz0 := HRd.out.tz
    have HFin : Hid (TrIs (fun j => F j ∨ (Value.slice a2 n2 c2).ownBlock = some j) (w6.setCell ⟨tb, 0, none⟩ (Value.slice a2 n2 c2)) tb (R.take i ++ R.drop (i + 1)) k2 (Value.slice a2 n2 c2) sb kb ∧ (∀ j, (Value.slice a2 n2 c2).ownBlock = some j → F j ∨ w.heap.size ≤ j) ∧ Touch F w (w6.setCell ⟨tb, 0, none⟩ (Value.slice a2 n2 c2))) := HRd.out.fin
    clear ho hg hat hLs hMs HT5 HTo
    go_wp2
    go_ret
    exact ⟨by (rw [HE.out]; rfl), (fun j => F j ∨ (Value.slice a2 n2 c2).ownBlock = some j), ⟨_, k2, _, sb, kb, HFin.out.1, HMs.out⟩, fun _ h => .inl h, fun j h => h.elim .inl (HFin.out.2.1 j), HFin.out.2.2⟩

end Go.Proofs.Ytljepindfdhbbaa
