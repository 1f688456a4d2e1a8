/- slices.Delete of one stamp. -/
import Derived.Test.YtfgkdbidgbpobaaRgI
import Derived.Lib.SlicesDelete
import Derived.Deep.RegionLaw
import Derived.Shelf.RegionOpenPlain
import Derived.Lib.SliceRun
namespace Go.Proofs.Ytfgkdbidgbpobaa
open Go.RowKit
set_option linter.unusedVariables false
set_option linter.unusedSimpArgs false

theorem splice_len {cur : List Value} {o : Nat} {vs : List Value} (h : o + vs.length ≤ cur.length) : (splice cur o vs).length = cur.length := by
  unfold splice
  simp
  omega
theorem heap_setCells_same (g : Nat) (t : TypeId) : ∀ (vs : List Value) (o : Nat) (cur : Array Value) (w : World), w.heap[g]? = some (.cells cur t (0, 0)) → o + vs.length ≤ cur.size → (w.setCells g o vs).heap[g]? = some (.cells (splice cur.toList o vs).toArray t (0, 0))
  | [], o, cur, w, h, hl => by
    show w.heap[g]? = _
    rw [h]
    unfold splice
    simp
  | v :: r, o, cur, w, h, hl => by
    have h1 := heap_setCell_same w g o cur t v h
    have h2 := heap_setCells_same g t r (o + 1) _ _ h1 (by simp at hl ⊢; omega)
    show ((w.setCell ⟨g, o, none⟩ v).setCells g (o + 1) r).heap[g]? = _
    rw [h2]
    have e : splice (cur.setIfInBounds o v).toList (o + 1) r = splice cur.toList o (v :: r) := by
      unfold splice
      simp at hl
      rw [Array.toList_setIfInBounds]
      rw [show (cur.toList.set o v).take (o + 1) = cur.toList.take o ++ [v] from by rw [List.take_succ_eq_append_getElem (by simp; omega), List.take_set_of_le (Nat.le_refl _)]; simp, List.drop_set_of_lt (by omega)]
      simp [Nat.add_assoc, Nat.add_comm 1 r.length]
    rw [e]
theorem grownBy_setCells (g : Nat) : ∀ (vs : List Value) (o : Nat) (w : World), w.grownBy (w.setCells g o vs) (some g)
  | [], o, w => ⟨rfl, rfl, rfl, Nat.le_refl _, fun _ _ _ => rfl⟩
  | v :: r, o, w => (grownBy_setCell w g o v).trans (grownBy_setCells g r (o + 1) _)
/-- clear, of one row. -/
theorem run_clearM (w : World) (ty : TypeId) (g o c : Nat) (hc : ∀ j, j < 2 → (w.cell? ⟨g, o + j, none⟩).isSome = true) (hf : ∀ j, j < 2 → w.frozen? ⟨g, o + j, none⟩ = false) :
    (Builtin.clear_ #[38] ty #[.slice (some ⟨g, o, none⟩) 1 c]).run Try.prog w = .ok (.tuple #[]) (w.setCells g o (#[.int .i64 0, .int .i64 0] : Array Value).toList) := by
  have hv : (zeroValue 33).run Try.prog w = .ok (.agg #[.int .i64 0, .int .i64 0]) w := by kernel_rfl
  have hst := run_storeCells_cells (P := Try.prog) g o (#[.int .i64 0, .int .i64 0] : Array Value).toList 0 w (by simpa using hc) (by simpa using hf) (by intro v hv'; simp at hv'; rcases hv' with rfl | rfl <;> rfl)
  simp only [Nat.add_zero] at hst
  have hzc : (Builtin.zeroCells (Value.agg #[.int .i64 0, .int .i64 0]).cells 1).toList = (#[.int .i64 0, .int .i64 0] : Array Value).toList := by kernel_rfl
  simp only [Builtin.clear_, List.getElem?_toArray, List.getElem?_cons_zero, Sem.run_bind, run_underlying Try.underlying38, Result.andThen_ok, hv, hzc, hst, Sem.run_pure]

set_option maxRecDepth 1000000 in
set_option maxHeartbeats 4000000 in
theorem delete_any (v : Value) (d : List St) (i m : Nat) (w : World) (h : OwnSt 0 w v d) (hl : d.length ≤ 4096) (hm : d.length = i + m + 1) :
    Calls Try.prog 40 #[v, .int .i64 (i : Int), .int .i64 ((i + 1 : Nat) : Int)] w fun e w' => ∃ v', e = .returned v' ∧ OwnSt 0 w' v' (d.take i ++ d.drop (i + 1)) ∧ w.grownBy w' v.ownBlock ∧ v'.ownBlock = v.ownBlock := by
  obtain ⟨i0, hi0, hz0, hz1, hz2⟩ := info_parts infoStamp
  obtain ⟨hxl, h2⟩ := h
  rcases h2 with ⟨rfl, hn⟩ | ⟨g, cap, cur, rfl, hg, hc, hcap, hmx, hsz, htk⟩
  · omega
  rw [hm]
  obtain ⟨Y, eY⟩ : ∃ Y, Y = flatE stCells (d.drop (i + 1)) := ⟨_, rfl⟩
  have hYl : Y.length = m * 2 := by rw [eY, flatE_length stCells_len, List.length_drop]; congr 1; omega
  have hYe : Y = (cur.toList.take ((i + m + 1) * 2)).drop ((i + 1) * 2) := by rw [eY, flatE_drop stCells_len, ← htk, hm]
  have hcl : cur.toList.length = cap * 2 := by simpa using hsz
  have hcell : ∀ j, j < cap * 2 → ∀ W : World, W.heap = w.heap → W.cell? ⟨g, j, none⟩ = cur.toList[j]? := fun j hj W e => by
    rw [cell_of_row W g j _ _ _ (by rw [e]; exact hc)]; simp
  have hge : ∀ t u, Y[t]? = some u → cur.toList[(i + 1) * 2 + t]? = some u := fun t u hu => by
    have ht : t < m * 2 := by have := (List.getElem?_eq_some_iff.1 hu).1; omega
    rw [hYe, List.getElem?_drop, List.getElem?_take_of_lt (by rw [Nat.add_mul, Nat.add_mul, Nat.add_mul]; omega)] at hu
    exact hu
  obtain ⟨A, hA, hsrc⟩ : ∃ A : Addr, (if cap = i + 1 then some (⟨g, 0, none⟩ : Addr) else some ⟨g, (i + 1) * 2, none⟩) = some A ∧ Hid (∀ t u, Y[t]? = some u → w.drew.cell? (A.add t) = some u) := by
    by_cases h9 : cap = i + 1
    · refine ⟨⟨g, 0, none⟩, by simp [h9], fun t u hu => ?_⟩
      have : t < m * 2 := by have := (List.getElem?_eq_some_iff.1 hu).1; omega
      have : m = 0 := by omega
      subst this
      omega
    · refine ⟨⟨g, (i + 1) * 2, none⟩, by simp [h9], fun t u hu => ?_⟩
      have ht : t < m * 2 := by have := (List.getElem?_eq_some_iff.1 hu).1; omega
      rw [Addr.add_lit, hcell _ (by rw [Nat.add_mul]; have : (i + m + 1) * 2 ≤ cap * 2 := Nat.mul_le_mul_right _ (by omega); rw [Nat.add_mul, Nat.add_mul] at this; omega) w.drew rfl]
      exact hge t u hu
  have s1 : Hid (Y.length = m * 2) := hYl
  have s2 : Hid (∀ u ∈ Y, u.oneCell' = true) := by (rw [eY]; exact flat_one _)
  have hcap2 : (i + m + 1) * 2 ≤ cap * 2 := Nat.mul_le_mul_right _ (by omega)
  have s3 : Hid (∀ t, t < Y.length → (w.drew.cell? ⟨g, 0 + i * 2 + t, none⟩).isSome = true ∧ w.drew.frozen? ⟨g, 0 + i * 2 + t, none⟩ = false) := fun t ht => by
    rw [hYl] at ht
    rw [Nat.add_mul, Nat.add_mul] at hcap2
    refine ⟨?_, frozen_of_row w.drew g _ _ _ hc⟩
    rw [hcell _ (by omega) w.drew rfl, List.getElem?_eq_getElem (by omega)]
    rfl
  obtain ⟨W1, hW1⟩ : ∃ W1, W1 = w.drew.setCells g (0 + i * 2) Y := ⟨_, rfl⟩
  have hr1 : W1.heap[g]? = some (.cells (splice cur.toList (0 + i * 2) Y).toArray 33 (0, 0)) := by
    rw [hW1]
    exact heap_setCells_same g _ Y _ cur w.drew hc (by rw [Nat.add_mul, Nat.add_mul] at hcap2; omega)
  have hl1 : (splice cur.toList (0 + i * 2) Y).length = cap * 2 := by rw [splice_len (by rw [Nat.add_mul, Nat.add_mul] at hcap2; omega)]; exact hcl
  have hcl1 : ∀ ty, (Builtin.clear_ #[38] ty #[.slice (some ⟨g, (i + m) * 2, none⟩) 1 (cap - (i + m))]).run Try.prog W1 = .ok (.tuple #[]) (W1.setCells g ((i + m) * 2) (#[.int .i64 0, .int .i64 0] : Array Value).toList) := fun ty => run_clearM W1 ty g _ _ (fun j hj => by
      rw [cell_of_row W1 g _ _ _ _ hr1]
      rw [Nat.add_mul] at hcap2
      simp only [List.getElem?_toArray]
      rw [List.getElem?_eq_getElem (by omega)]
      rfl) (fun j hj => frozen_of_row W1 g _ _ _ hr1)
  have HR : Hid (W1.heap[g]? = some (.cells (splice cur.toList (0 + i * 2) Y).toArray 33 (0, 0))) := hr1
  have HW : Hid (W1 = w.drew.setCells g (0 + i * 2) Y) := hW1
  have HFin : Hid (OwnSt 0 (W1.setCells g ((i + m) * 2) (#[.int .i64 0, .int .i64 0] : Array Value).toList) (.slice (some ⟨g, 0, none⟩) (i + m) cap) (d.take i ++ d.drop (i + 1)) ∧ w.grownBy (W1.setCells g ((i + m) * 2) (#[.int .i64 0, .int .i64 0] : Array Value).toList) (some g)) := by
    have hdl : (d.take i ++ d.drop (i + 1)).length = i + m := by simp; omega
    refine ⟨?_, ?_⟩
    · show World.ownsRow _ _ _ _ _ _ _
      rw [hdl]
      refine ⟨by rw [flatE_length stCells_len, hdl], .inr ⟨g, cap, _, rfl, Nat.zero_le _, heap_setCells_same g _ _ _ _ W1 hr1 (by rw [List.size_toArray, hl1]; show (i + m) * 2 + 2 ≤ cap * 2; rw [Nat.add_mul] at hcap2; omega), by omega, hmx, ?_, ?_⟩⟩
      · rw [List.size_toArray, splice_len (by rw [List.toList_toArray, hl1]; rw [Nat.add_mul] at hcap2; simp; omega)]; rw [List.toList_toArray]; exact hl1
      · rw [List.toList_toArray, List.toList_toArray]
        have e1 : (splice (splice cur.toList (0 + i * 2) Y) ((i + m) * 2) (#[.int .i64 0, .int .i64 0] : Array Value).toList).take ((i + m) * 2) = (splice cur.toList (0 + i * 2) Y).take ((i + m) * 2) := by
          show (List.take _ _ ++ _).take _ = _
          rw [List.take_append_of_le_length (by rw [List.length_take, hl1, Nat.min_eq_left (by rw [Nat.add_mul] at hcap2; omega)]; exact Nat.le_refl _), List.take_take, Nat.min_self]
        rw [e1]
        have hX : (cur.toList.take (0 + i * 2)).length = i * 2 := by rw [List.length_take, hcl, Nat.zero_add, Nat.min_eq_left]; rw [Nat.add_mul, Nat.add_mul] at hcap2; omega
        have e2 : (splice cur.toList (0 + i * 2) Y).take ((i + m) * 2) = cur.toList.take (0 + i * 2) ++ Y := by
          unfold splice
          rw [← List.append_assoc, List.take_append_of_le_length (by rw [List.length_append, hX, hYl, Nat.add_mul]; exact Nat.le_refl _), List.take_of_length_le (by rw [List.length_append, hX, hYl, Nat.add_mul]; exact Nat.le_refl _)]
        rw [e2, flatE_append, eY]
        congr 1
        rw [flatE_take stCells_len, ← htk, List.take_take, Nat.zero_add, Nat.min_eq_left]
        exact Nat.mul_le_mul_right _ (by omega)
    · rw [hW1]
      have h0 : w.grownBy w.drew (some g) := ⟨rfl, rfl, rfl, Nat.le_refl _, fun _ _ _ => rfl⟩
      exact (h0.trans (grownBy_setCells g Y _ _)).trans (grownBy_setCells g _ _ _)
  have hn1 : ¬ cap = i + m := by omega
  have hic : i ≤ cap := by omega
  have hjc : i + 1 ≤ cap := by omega
  have hkc : i + m ≤ cap := by omega
  have z1 : (0 : Int) ≤ (i : Int) + 1 := by omega
  have z2 : (i : Int) ≤ (i : Int) + (m : Int) := by omega
  have z3 : (0 : Int) ≤ (i : Int) + (m : Int) := by omega
  have z4 : (0 : Int) ≤ (i : Int) + (m : Int) + 1 := by omega
  have z5 : (i : Int) + (m : Int) + 1 ≤ (cap : Int) := by omega
  have z6 : (i : Int) + (m : Int) ≤ (i : Int) + (m : Int) + 1 := by omega
  clear hr1 hW1 hcell hge hxl hc hsz htk hYl hYe eY hcl hcap2 hl1 hm
  go_enter Try.func40, Try.ntmps40
  go_wp2_with fail
  have mixed : Try.prog.follows .mixedOrders = true := by kernel_rfl
  go_region_law_o (refine step_append_room rfl (.tmp 22) (.tmp 25) 38 rfl 33 i0 2 Try.underlying38 hi0 hz1 g 0 i cap (by simp [Act.eval, Act.put]) A m (cap - (i + 1)) Y (by simp [Act.eval, Act.put]) s1.out hsrc.out s2.out (by omega) s3.out ?_; rw [← HW.out])
  go_wp2
  go_ret
  exact ⟨_, rfl, HFin.out.1, HFin.out.2, rfl⟩

end Go.Proofs.Ytfgkdbidgbpobaa
