/- What slices.Insert does with one stamp. -/
import Derived.Test.YtfgkdbidgbpobaaRgB
import Derived.Laws.CopyOwn
import Derived.Laws.Externs
import Derived.Lib.Overlaps
import Derived.Lib.AppendZerosOnto
import Derived.Shelf.Spec.SlicesInsert
namespace Go.Proofs.Ytfgkdbidgbpobaa
open Go.RowKit
set_option linter.unusedVariables false
set_option linter.unusedSimpArgs false

theorem sizeOfStamp (w : World) : (Go.sizeOf 33).run Try.prog w = .ok 2 w := by kernel_rfl
/-- copy, of rows. -/
theorem run_copyM (w : World) (ty : TypeId) (g o dLen dCap : Nat) (a : Addr) (sLen sCap : Nat) (cur : List Value) (t : TypeId) (cs : List Value) (n : Nat)
    (hg : w.heap[g]? = some (.cells cur.toArray t (0, 0))) (hn : n = Nat.min sLen dLen) (hc : cs.length = n * 2)
    (hsrc : ∀ j v, cs[j]? = some v → w.cell? (a.add j) = some v) (hfit : o + cs.length ≤ cur.length) (h1 : ∀ v ∈ cs, v.oneCell' = true) :
    (Builtin.copy_ #[38, 38] ty #[.slice (some ⟨g, o, none⟩) dLen dCap, .slice (some a) sLen sCap]).run Try.prog w = .ok (goInt n) (w.setRow g (splice cur o cs).toArray) := by
  have hl := run_loadCells_list (P := Try.prog) w a cs hsrc
  have hst := run_storeCells_at Try.prog g o t cs 0 cur.toArray w hg (by simpa using hfit) h1
  have hq := sizeStamp
  cases hi : Try.prog.info? 33 with
  | none => simp [hi] at hq
  | some i =>
    have hz : i.size = 2 := by simpa [hi] using hq
    rw [hc] at hl
    simp [Builtin.copy_, run_underlying Try.underlying38, Builtin.lenOf, Builtin.firstCells, sizeOf, typeInfo, hi, hz, ← hn, hl, hst, splice]

theorem grownBy.ofBelow {a b : World} (h : Below a.heap.size a b) (r : Option Nat) : a.grownBy b r := ⟨h.os, h.tape, h.output, h.size, fun k hk _ => h.block k hk⟩
theorem stCells_one (x : St) : ∀ u ∈ stCells x, u.oneCell' = true := by
  intro u hu
  simp only [stCells, List.mem_cons, List.not_mem_nil, or_false] at hu
  rcases hu with rfl | rfl <;> rfl
theorem flat_one (D : List St) : ∀ u ∈ flatE stCells D, u.oneCell' = true := by
  intro u hu
  simp only [flatE, List.mem_flatMap] at hu
  obtain ⟨x, _, hu⟩ := hu
  exact stCells_one x u hu
theorem infoStamp : (Try.prog.info? 33).map (fun i => (i.zero, i.size, i.bytes)) = some (some (.agg #[.int .i64 0, .int .i64 0]), 2, 16) := by kernel_rfl
/-- Two cells between the parts of a row: in place, .. -/
theorem splice_room (X Y Z N : List Value) (hN : N.length = 2) (hZ : 2 ≤ Z.length) : splice (splice (X ++ (Y ++ Z)) (X.length + 2) Y) X.length N = X ++ (N ++ (Y ++ Z.drop 2)) := by
  unfold splice
  have e1 : ((X ++ (Y ++ Z)).take (X.length + 2) ++ (Y ++ (X ++ (Y ++ Z)).drop (X.length + 2 + Y.length))).take X.length = X := by
    rw [List.take_append_of_le_length (by simp), List.take_take, Nat.min_eq_left (by omega), List.take_left]
  have e2 : ((X ++ (Y ++ Z)).take (X.length + 2) ++ (Y ++ (X ++ (Y ++ Z)).drop (X.length + 2 + Y.length))).drop (X.length + N.length) = Y ++ (X ++ (Y ++ Z)).drop (X.length + 2 + Y.length) := by
    have hl : ((X ++ (Y ++ Z)).take (X.length + 2)).length = X.length + N.length := by simp; omega
    rw [← hl, List.drop_left]
  have e3 : (X ++ (Y ++ Z)).drop (X.length + 2 + Y.length) = Z.drop 2 := by
    rw [show X.length + 2 + Y.length = X.length + (Y.length + 2) by omega, List.drop_append, List.drop_append, show X.drop (X.length + (Y.length + 2)) = [] from List.drop_eq_nil_of_le (by omega), show Y.drop (X.length + (Y.length + 2) - X.length) = [] from List.drop_eq_nil_of_le (by omega)]
    simp
  rw [e1, e2, e3]
/-- .. and in a new row. -/
theorem splice_grow (X Y Z N : List Value) (hN : N.length = 2) (hZ : 2 + Y.length ≤ Z.length) : splice (splice (X ++ Z) X.length N) (X.length + 2) Y = X ++ (N ++ (Y ++ Z.drop (2 + Y.length))) := by
  unfold splice
  have e0 : (X ++ Z).take X.length ++ (N ++ (X ++ Z).drop (X.length + N.length)) = (X ++ N) ++ Z.drop 2 := by
    rw [List.take_left, List.drop_append]
    simp [hN]
  rw [e0]
  have hl : (X ++ N).length = X.length + 2 := by simp [hN]
  rw [← hl, List.take_left, List.drop_append]
  simp [Nat.add_comm]

set_option maxHeartbeats 4000000 in
set_option maxRecDepth 100000 in
theorem insert_end (v : Value) (d : List St) (x : St) (vb : Nat) (w : World) (h : OwnSt 0 w v d) (hl : d.length ≤ 4096) (hv : w.heap[vb]? = some (.cells (stCells x).toArray 33)) :
    Calls Try.prog 38 #[v, .int .i64 (d.length : Int), .slice (some ⟨vb, 0, none⟩) 1 1] w fun e w' => ∃ v', e = .returned v' ∧ OwnSt 0 w' v' (d ++ [x]) ∧ w.grownBy w' v.ownBlock ∧ (v'.ownBlock = v.ownBlock ∨ v'.ownBlock = some w.heap.size) := by
  obtain ⟨i0, hi, hz0, hz1, hz2⟩ := info_parts infoStamp
  have H : Hid (OwnSt 0 w v d) := h
  have hnews : ∀ j u, (stCells x)[j]? = some u → w.cell? ((⟨vb, 0, none⟩ : Addr).add j) = some u := fun j u hj => by
    rw [Addr.add_lit, cell_of_row w vb _ _ _ _ hv]
    simpa using hj
  have HN : Hid (∀ j u, (stCells x)[j]? = some u → w.cell? ((⟨vb, 0, none⟩ : Addr).add j) = some u) := hnews
  clear hnews hv
  rcases h.2 with ⟨rfl, hn⟩ | ⟨g, cap, cur, rfl, hg, hc, hcap, hm, hsz, htk⟩
  · have e : d = [] := List.eq_nil_of_length_eq_zero hn
    subst e
    clear h hn
    go_enter Try.func38, Try.ntmps38
    go_wp2_with (at_builtin; refine wpList_append_own_at _ rfl _ _ 38 rfl 0 33 i0 (.agg #[.int .i64 0, .int .i64 0]) 2 16 Try.underlying38 hi hz0 hz1 hz2 rfl (by decide) _ _ _ rfl H.out ⟨vb, 0, none⟩ 1 1 (stCells x) rfl rfl HN.out (stCells_one x) (by unfold maxLen; simp) (by simp) (Nat.zero_le _) ?_; intro v3 w3 hown3 hgrow3 hnil3 hat3)
    go_ret
    exact ⟨_, rfl, OwnE.snoc rfl hown3, hgrow3, hat3⟩
  · have hcl : d.length ≤ cap := hcap
    clear h hc htk hm hsz hcap
    by_cases hcc : cap = d.length
    all_goals
      go_enter Try.func38, Try.ntmps38
      go_wp2_with (at_builtin; refine wpList_append_own_at _ rfl _ _ 38 rfl 0 33 i0 (.agg #[.int .i64 0, .int .i64 0]) 2 16 Try.underlying38 hi hz0 hz1 hz2 rfl (by decide) _ _ _ rfl H.out ⟨vb, 0, none⟩ 1 1 (stCells x) rfl rfl HN.out (stCells_one x) (by unfold maxLen; omega) (by omega) (Nat.zero_le _) ?_; intro v3 w3 hown3 hgrow3 hnil3 hat3)
      go_ret
      exact ⟨_, rfl, OwnE.snoc rfl hown3, hgrow3, hat3⟩

/-- What Insert leaves. -/
def InsP (d : List St) (i : Nat) (x : St) (v : Value) (w : World) (e : Ending) (w' : World) : Prop := ∃ v', e = .returned v' ∧ OwnSt 0 w' v' (d.take i ++ x :: d.drop i) ∧ w.grownBy w' v.ownBlock ∧ (v'.ownBlock = v.ownBlock ∨ ∃ k, v'.ownBlock = some k ∧ w.heap.size ≤ k)
theorem ins_row {d : List St} {i : Nat} {x : St} {X Y Z : List Value} (hX : X = flatE stCells (d.take i)) (hY : Y = flatE stCells (d.drop i)) (hi : i ≤ d.length) : (X ++ ((stCells x) ++ (Y ++ Z))).take ((d.length + 1) * 2) = flatE stCells (d.take i ++ x :: d.drop i) := by
  have e : flatE stCells (d.take i ++ x :: d.drop i) = X ++ ((stCells x) ++ Y) := by
    rw [flatE_append, hX, hY]; rfl
  rw [e, ← List.append_assoc, ← List.append_assoc, ← List.append_assoc]
  have hl : (X ++ (stCells x) ++ Y).length = (d.length + 1) * 2 := by
    rw [hX, hY]
    simp only [List.length_append, flatE_length stCells_len, List.length_take, List.length_drop, List.length_cons, List.length_nil, stCells_len]
    omega
  rw [← hl, List.take_left]

set_option maxHeartbeats 4000000 in
set_option maxRecDepth 100000 in
theorem insert_room (g cap : Nat) (d : List St) (i : Nat) (x : St) (vb : Nat) (w : World) (h : OwnSt 0 w (.slice (some ⟨g, 0, none⟩) d.length cap) d) (hl : d.length ≤ 4096) (hin : i < d.length) (hroom : d.length + 1 ≤ cap) (hv : w.heap[vb]? = some (.cells (stCells x).toArray 33)) (hne : vb ≠ g) :
    Calls Try.prog 38 #[.slice (some ⟨g, 0, none⟩) d.length cap, .int .i64 (i : Int), .slice (some ⟨vb, 0, none⟩) 1 1] w fun e w' => InsP d i x (.slice (some ⟨g, 0, none⟩) d.length cap) w e w' := by
  obtain ⟨hfl, hn | ⟨g', cap', cur, hv', _, hc, _, hm, hsz, htk⟩⟩ := h
  · cases hn.1
  cases hv'
  obtain ⟨X, hX⟩ : ∃ X, X = flatE stCells (d.take i) := ⟨_, rfl⟩
  obtain ⟨Y, hY⟩ : ∃ Y, Y = flatE stCells (d.drop i) := ⟨_, rfl⟩
  obtain ⟨Z, hZ⟩ : ∃ Z, Z = cur.toList.drop (d.length * 2) := ⟨_, rfl⟩
  have hXl : X.length = i * 2 := by rw [hX, flatE_length stCells_len, List.length_take, Nat.min_eq_left (by omega)]
  have hYl : Y.length = (d.length - i) * 2 := by rw [hY, flatE_length stCells_len, List.length_drop]
  have hcl : cur.toList.length = cap * 2 := by simpa using hsz
  have hZl : Z.length = (cap - d.length) * 2 := by rw [hZ, List.length_drop, hcl]; omega
  have hcur : cur.toList = X ++ (Y ++ Z) := by
    rw [← List.append_assoc, hX, hY, ← flatE_append, List.take_append_drop, ← htk, hZ, List.take_append_drop]
  have hrow : w.heap[g]? = some (.cells (X ++ (Y ++ Z)).toArray 33 (0, 0)) := by rw [← hcur, Array.toArray_toList]; exact hc
  have hsa : w.shape? vb = some (33, 2) := by simp [World.shape?, hv, stCells_len]
  have hsb : w.shape? g = some (33, cap * 2) := by simp [World.shape?, hc, hsz]
  have hov : ∀ lb cb, (callFunc 46 #[.slice (some ⟨vb, 0, none⟩) 1 1, .slice (some ⟨g, (i + 1) * 2, none⟩) lb cb]).run Try.prog w = .ok (.value (.bool false)) w := fun lb cb => by
    rw [run_callFunc_extern Try.func46 (by kernel_rfl) (by kernel_rfl) (by kernel_rfl) (e := Extern.SlicesOverlaps.overlaps #[38, 38] #[4]) (by kernel_rfl),
      Lib.run_overlaps_apart w 38 4 33 Try.underlying38 2 sizeOfStamp ⟨vb, 0, none⟩ ⟨g, (i + 1) * 2, none⟩ 1 1 lb cb hne 33 33 2 (cap * 2) hsa hsb (by omega) (frozen_of_row w vb 0 _ _ hv) (frozen_of_row w vb 2 _ _ hv)]
    rfl
  have h1Y : ∀ u ∈ Y, u.oneCell' = true := by rw [hY]; exact flat_one _
  have hcp1 : ∀ ty dc sc, (Builtin.copy_ #[38, 38] ty #[.slice (some ⟨g, (i + 1) * 2, none⟩) (d.length - i) dc, .slice (some ⟨g, i * 2, none⟩) (d.length + 1 - i) sc]).run Try.prog w.drew = .ok (goInt ((d.length - i : Nat) : Int)) (w.drew.setRow g (splice (X ++ (Y ++ Z)) (X.length + 2) Y).toArray) := fun ty dc sc => by
    have := run_copyM w.drew ty g ((i + 1) * 2) (d.length - i) dc ⟨g, i * 2, none⟩ (d.length + 1 - i) sc (X ++ (Y ++ Z)) 33 Y (d.length - i) hrow (by simp only [Nat.min_def]; split <;> omega) hYl (fun j u hj => by
      rw [Addr.add_lit, cell_of_row w.drew g _ _ _ _ hrow]
      have hj2 := (List.getElem?_eq_some_iff.1 hj).1
      show (X ++ (Y ++ Z)).toArray[i * 2 + j]? = _
      rw [List.getElem?_toArray, ← hXl, List.getElem?_append_right (by omega), show X.length + j - X.length = j by omega, List.getElem?_append_left (by omega)]
      exact hj) (by simp only [List.length_append, hXl, hYl, hZl]; omega) h1Y
    rw [show (i + 1) * 2 = X.length + 2 by omega] at this
    rw [show (i + 1) * 2 = X.length + 2 by omega]
    exact this
  obtain ⟨W1, hW1⟩ : ∃ W1, W1 = w.drew.setRow g (splice (X ++ (Y ++ Z)) (X.length + 2) Y).toArray := ⟨_, rfl⟩
  rw [← hW1] at hcp1
  have hrow1 : W1.heap[g]? = some (.cells (splice (X ++ (Y ++ Z)) (X.length + 2) Y).toArray 33 (0, 0)) := by rw [hW1]; exact setRow_heap w.drew g _ _ _ _ hrow
  have hvb1 : W1.heap[vb]? = some (.cells (stCells x).toArray 33) := by rw [hW1]; exact (setRow_other w.drew g vb _ hne).trans hv
  have hcp2 : ∀ ty dc, (Builtin.copy_ #[38, 38] ty #[.slice (some ⟨g, i * 2, none⟩) (d.length + 1 - i) dc, .slice (some ⟨vb, 0, none⟩) 1 1]).run Try.prog W1 = .ok (goInt 1) (W1.setRow g (splice (splice (X ++ (Y ++ Z)) (X.length + 2) Y) X.length (stCells x)).toArray) := fun ty dc => by
    have := run_copyM W1 ty g (i * 2) (d.length + 1 - i) dc ⟨vb, 0, none⟩ 1 1 (splice (X ++ (Y ++ Z)) (X.length + 2) Y) 33 (stCells x) 1 hrow1 (by simp only [Nat.min_def]; split <;> omega) rfl (fun j u hj => by
      rw [Addr.add_lit, cell_of_row W1 vb _ _ _ _ hvb1]
      simpa using hj) (by rw [length_splice _ _ _ (by simp only [List.length_append, hXl, hYl, hZl]; omega)]; simp only [List.length_append, List.length_cons, List.length_nil, stCells_len, hXl, hYl, hZl]; omega) (stCells_one x)
    rw [← hXl] at this ⊢
    exact this
  have HG : Hid (w.grownBy (W1.setRow g (splice (splice (X ++ (Y ++ Z)) (X.length + 2) Y) X.length (stCells x)).toArray) (some g)) := by
    rw [hW1]
    exact ⟨rfl, rfl, rfl, by simp [World.setRow], fun k hk hkg => (setRow_other _ g k _ (fun e => hkg (by rw [e]))).trans (setRow_other _ g k _ (fun e => hkg (by rw [e])))⟩
  have HO : Hid (OwnSt 0 (W1.setRow g (splice (splice (X ++ (Y ++ Z)) (X.length + 2) Y) X.length (stCells x)).toArray) (.slice (some ⟨g, 0, none⟩) (d.length + 1) cap) (d.take i ++ x :: d.drop i)) := by
    have hlen : (d.take i ++ x :: d.drop i).length = d.length + 1 := by simp; omega
    show World.ownsRow _ _ _ _ _ _ _
    rw [hlen]
    refine ⟨by rw [flatE_length stCells_len, hlen], .inr ⟨g, cap, (splice (splice (X ++ (Y ++ Z)) (X.length + 2) Y) X.length (stCells x)).toArray, rfl, Nat.zero_le _, setRow_heap W1 g _ _ _ _ hrow1, hroom, hm, ?_, ?_⟩⟩
    · rw [splice_room X Y Z _ rfl (by omega)]
      simp only [List.size_toArray, List.length_append, List.length_cons, List.length_nil, stCells_len, List.length_drop, hXl, hYl, hZl]
      omega
    · rw [splice_room X Y Z _ rfl (by omega)]
      exact ins_row hX hY (by omega)
  generalize hW2 : W1.setRow g (splice (splice (X ++ (Y ++ Z)) (X.length + 2) Y) X.length (stCells x)).toArray = W2 at hcp2 HG HO
  have n1 : ¬ ((i : Int) = (d.length : Int)) := by omega
  have n2 : ((i : Int) == (d.length : Int)) = false := by simp; omega
  have n3 : ¬ (cap = i + 1) := by omega
  have n4 : ¬ (cap = i) := by omega
  have n5 : ((i : Int) + 1).toNat = i + 1 := by omega
  have n6 : (i : Int) ≤ (d.length : Int) + 1 := by omega
  have n7 : i ≤ d.length := by omega
  have n8 : ¬ ((cap : Int) < (d.length : Int) + 1) := by omega
  have n9 : (d.length : Int) + 1 ≤ (cap : Int) := by omega
  have n10 : i + 1 ≤ d.length + 1 := by omega
  have mixed : Try.prog.follows Departure.mixedOrders = true := by kernel_rfl
  have n11 : (0 : Int) ≤ (i : Int) + 1 := by omega
  have n12 : IntKind.i64.wrap ((i : Int) + 1) = (i : Int) + 1 := by rw [IntKind.wrap_i64]; omega
  have n13 : (i : Int) + 1 ≤ (d.length : Int) + 1 := by omega
  clear hX hY hZ hXl hYl hZl hcur hrow hsa hsb h1Y hW1 hrow1 hvb1 hW2 hc hsz htk hcl hfl hv
  go_enter Try.func38, Try.ntmps38
  go_wp2_with (simp only [hov])
  go_region_law_o (refine step_copy_runI rfl _ _ 38 38 rfl _ _ (by simp [Act.eval, Act.put]) (by simp [Act.eval, Act.put]) (hcp1 _ _ _) ?_)
  go_wp2_with (at_builtin; refine wpList_copy_runI _ rfl _ _ 38 38 rfl _ _ rfl rfl (hcp2 _ _) ?_)
  go_ret
  exact ⟨_, rfl, HO.out, HG.out, .inl rfl⟩

set_option maxHeartbeats 4000000 in
set_option maxRecDepth 100000 in
theorem insert_grow (g cap : Nat) (d : List St) (i : Nat) (x : St) (vb : Nat) (w : World) (h : OwnSt 0 w (.slice (some ⟨g, 0, none⟩) d.length cap) d) (hl : d.length ≤ 4096) (hin : i < d.length) (hroom : cap < d.length + 1) (hv : w.heap[vb]? = some (.cells (stCells x).toArray 33)) :
    Calls Try.prog 38 #[.slice (some ⟨g, 0, none⟩) d.length cap, .int .i64 (i : Int), .slice (some ⟨vb, 0, none⟩) 1 1] w fun e w' => InsP d i x (.slice (some ⟨g, 0, none⟩) d.length cap) w e w' := by
  obtain ⟨i0, hi0, hz0, hz1, hz2⟩ := info_parts infoStamp
  obtain ⟨hfl, hn | ⟨g', cap', cur, hv', _, hc, hcap, hm, hsz, htk⟩⟩ := h
  · cases hn.1
  cases hv'
  obtain rfl : cap = d.length := by omega
  obtain ⟨X, hX⟩ : ∃ X, X = flatE stCells (d.take i) := ⟨_, rfl⟩
  obtain ⟨Y, hY⟩ : ∃ Y, Y = flatE stCells (d.drop i) := ⟨_, rfl⟩
  have hXl : X.length = i * 2 := by rw [hX, flatE_length stCells_len, List.length_take, Nat.min_eq_left (by omega)]
  have hYl : Y.length = (d.length - i) * 2 := by rw [hY, flatE_length stCells_len, List.length_drop]
  have hcl : cur.toList.length = d.length * 2 := by simpa using hsz
  have hcur : cur.toList = X ++ Y := by
    rw [hX, hY, ← flatE_append, List.take_append_drop, ← htk, List.take_of_length_le (by omega)]
  have hrow : w.heap[g]? = some (.cells (X ++ Y).toArray 33 (0, 0)) := by rw [← hcur, Array.toArray_toList]; exact hc
  have hgw : g < w.heap.size := (Array.getElem?_eq_some_iff.1 hrow).1
  have hvw : vb < w.heap.size := (Array.getElem?_eq_some_iff.1 hv).1
  have hold : (Builtin.firstCells i0.size i (.slice (some ⟨g, 0, none⟩) i d.length)).run Try.prog w.drew = .ok X.toArray w.drew := by
    rw [hz1]
    exact run_firstCells_some w.drew 2 i ⟨g, 0, none⟩ i d.length X hXl (fun j u hj => by
      rw [Addr.add_lit, cell_of_row w.drew g _ _ _ _ hrow]
      have hj2 := (List.getElem?_eq_some_iff.1 hj).1
      rw [List.getElem?_toArray, Nat.zero_add, List.getElem?_append_left hj2]
      exact hj)
  obtain ⟨G, hG⟩ : ∃ G, G = grownCap w (d.length + 1) d.length 33 := ⟨_, rfl⟩
  obtain ⟨Z, hZ⟩ : ∃ Z : List Value, Z = (Builtin.zeroCells (Value.agg #[.int .i64 0, .int .i64 0]).cells (d.length + 1 - i)).toList ++ (Builtin.zeroCells (Value.agg #[.int .i64 0, .int .i64 0]).cells (G - (d.length + 1))).toList := ⟨_, rfl⟩
  have hGn : d.length + 1 ≤ G := by rw [hG]; exact grownCap_ge w _ _ _
  have hZl : Z.length = (G - i) * 2 := by
    rw [hZ]
    simp only [List.length_append, Array.length_toList, size_zeroCells]
    simp only [Value.cells]
    simp
    omega
  have hG63 : G ≤ maxLen := by
    have := grownCap_le_maxLen w (d.length + 1) d.length 33 (by unfold maxLen; omega)
    rw [← hG] at this
    exact this
  have hrz : ∀ ty, (Builtin.append_ #[38, 3] ty #[.slice (some ⟨g, 0, none⟩) i d.length, .int .i64 ((d.length : Int) + 1 - (i : Int))]).run Try.prog w =
      .ok (.slice (some ⟨w.heap.size, 0, none⟩) (d.length + 1) G) (w.drew.alloc (.cells (X ++ Z).toArray 33)) := fun ty => by
    have h := Lib.run_append_grow_zeros w 38 3 ty 33 i0 _ .i64 .i64 Try.underlying38 Try.underlying3 hi0 hz0 (some ⟨g, 0, none⟩) i d.length X hold (d.length + 1 - i) (by omega) (by omega) (by omega) (by omega) (by rw [hz2]; omega) (by rw [hz2, show i + (d.length + 1 - i) = d.length + 1 by omega]; exact growslice_fits (by omega) (by omega))
    rw [show i + (d.length + 1 - i) = d.length + 1 by omega, ← hG] at h
    rw [show (d.length : Int) + 1 - (i : Int) = ((d.length + 1 - i : Nat) : Int) by omega, h]
    have e : X.toArray ++ Builtin.zeroCells (Value.agg #[.int .i64 0, .int .i64 0]).cells (d.length + 1 - i) ++ Builtin.zeroCells (Value.agg #[.int .i64 0, .int .i64 0]).cells (G - (d.length + 1)) = (X ++ Z).toArray := by
      rw [hZ]; simp
    rw [e]
  obtain ⟨W1, hW1⟩ : ∃ W1, W1 = w.drew.alloc (.cells (X ++ Z).toArray 33) := ⟨_, rfl⟩
  rw [← hW1] at hrz
  have hB1 : Below w.heap.size w W1 := by rw [hW1]; exact ((Below.refl _ _).drew).alloc (Nat.le_refl _) _
  have hrowN : W1.heap[w.heap.size]? = some (.cells (X ++ Z).toArray 33 (0, 0)) := by rw [hW1]; exact heap_alloc_new w.drew _
  have hcpA : ∀ ty dc, (Builtin.copy_ #[38, 38] ty #[.slice (some ⟨w.heap.size, i * 2, none⟩) (d.length + 1 - i) dc, .slice (some ⟨vb, 0, none⟩) 1 1]).run Try.prog W1 = .ok (goInt 1) (W1.setRow w.heap.size (splice (X ++ Z) X.length (stCells x)).toArray) := fun ty dc => by
    have hvb1 : W1.heap[vb]? = some (.cells (stCells x).toArray 33) := (hB1.block vb hvw).trans hv
    have := run_copyM W1 ty w.heap.size (i * 2) (d.length + 1 - i) dc ⟨vb, 0, none⟩ 1 1 (X ++ Z) 33 (stCells x) 1 hrowN (by simp only [Nat.min_def]; split <;> omega) rfl (fun j u hj => by
      rw [Addr.add_lit, cell_of_row W1 vb _ _ _ _ hvb1]
      simpa using hj) (by simp only [List.length_append, List.length_cons, List.length_nil, stCells_len, hXl, hZl]; omega) (stCells_one x)
    rw [← hXl] at this ⊢
    exact this
  obtain ⟨W2, hW2⟩ : ∃ W2, W2 = W1.setRow w.heap.size (splice (X ++ Z) X.length (stCells x)).toArray := ⟨_, rfl⟩
  rw [← hW2] at hcpA
  have hrow2 : W2.heap[w.heap.size]? = some (.cells (splice (X ++ Z) X.length (stCells x)).toArray 33 (0, 0)) := by rw [hW2]; exact setRow_heap W1 _ _ _ _ _ hrowN
  have hB2 : Below w.heap.size w W2 := by rw [hW2]; exact below_setRow hB1 (Nat.le_refl _) _
  have hgr2 : W2.heap[g]? = some (.cells (X ++ Y).toArray 33 (0, 0)) := (hB2.block g hgw).trans hrow
  have h1Y : ∀ u ∈ Y, u.oneCell' = true := by rw [hY]; exact flat_one _
  have hcpB : ∀ ty dc sc, (Builtin.copy_ #[38, 38] ty #[.slice (some ⟨w.heap.size, (i + 1) * 2, none⟩) (d.length - i) dc, .slice (some ⟨g, i * 2, none⟩) (d.length - i) sc]).run Try.prog W2.drew = .ok (goInt ((d.length - i : Nat) : Int)) (W2.drew.setRow w.heap.size (splice (splice (X ++ Z) X.length (stCells x)) (X.length + 2) Y).toArray) := fun ty dc sc => by
    have := run_copyM W2.drew ty w.heap.size ((i + 1) * 2) (d.length - i) dc ⟨g, i * 2, none⟩ (d.length - i) sc (splice (X ++ Z) X.length (stCells x)) 33 Y (d.length - i) hrow2 (by simp only [Nat.min_def]; split <;> omega) hYl (fun j u hj => by
      rw [Addr.add_lit, cell_of_row W2.drew g _ _ _ _ hgr2]
      show (X ++ Y).toArray[i * 2 + j]? = _
      rw [List.getElem?_toArray, ← hXl, List.getElem?_append_right (by omega), show X.length + j - X.length = j by omega]
      exact hj) (by rw [length_splice _ _ _ (by simp only [List.length_append, List.length_cons, List.length_nil, stCells_len, hXl, hZl]; omega)]; simp only [List.length_append, hXl, hYl, hZl]; omega) h1Y
    rw [show (i + 1) * 2 = X.length + 2 by omega] at this
    rw [show (i + 1) * 2 = X.length + 2 by omega]
    exact this
  obtain ⟨W3, hW3⟩ : ∃ W3, W3 = W2.drew.setRow w.heap.size (splice (splice (X ++ Z) X.length (stCells x)) (X.length + 2) Y).toArray := ⟨_, rfl⟩
  rw [← hW3] at hcpB
  have hB3 : Below w.heap.size w W3 := by rw [hW3]; exact below_setRow hB2.drew (Nat.le_refl _) _
  have HG : Hid (w.grownBy W3 (some g)) := grownBy.ofBelow hB3 _
  have HO : Hid (OwnSt 0 W3 (.slice (some ⟨w.heap.size, 0, none⟩) (d.length + 1) G) (d.take i ++ x :: d.drop i)) := by
    have hlen : (d.take i ++ x :: d.drop i).length = d.length + 1 := by simp; omega
    show World.ownsRow _ _ _ _ _ _ _
    rw [hlen]
    refine ⟨by rw [flatE_length stCells_len, hlen], .inr ⟨w.heap.size, G, (splice (splice (X ++ Z) X.length (stCells x)) (X.length + 2) Y).toArray, rfl, Nat.zero_le _, ?_, hGn, hG63, ?_, ?_⟩⟩
    · rw [hW3]; exact setRow_heap W2.drew _ _ _ _ _ hrow2
    · rw [splice_grow X Y Z _ rfl (by omega)]
      simp only [List.size_toArray, List.length_append, List.length_cons, List.length_nil, stCells_len, List.length_drop, hXl, hYl, hZl]
      omega
    · rw [splice_grow X Y Z _ rfl (by omega)]
      exact ins_row hX hY (by omega)
  have n1 : ¬ ((i : Int) = (d.length : Int)) := by omega
  have n2 : ((i : Int) == (d.length : Int)) = false := by simp; omega
  have n3 : ¬ (G = i + 1) := by omega
  have n4 : ¬ (G = i) := by omega
  have n4b : ¬ (d.length = i) := by omega
  have n5 : ((i : Int) + 1).toNat = i + 1 := by omega
  have n6 : (i : Int) ≤ (d.length : Int) + 1 := by omega
  have n7 : i ≤ d.length := by omega
  have n7b : i ≤ d.length + 1 := by omega
  have n10 : i + 1 ≤ d.length + 1 := by omega
  have mixed : Try.prog.follows Departure.mixedOrders = true := by kernel_rfl
  have n11 : (0 : Int) ≤ (i : Int) + 1 := by omega
  have n12 : IntKind.i64.wrap ((i : Int) + 1) = (i : Int) + 1 := by rw [IntKind.wrap_i64]; omega
  have n13 : (i : Int) + 1 ≤ (d.length : Int) + 1 := by omega
  have n14 : (d.length : Int) < (d.length : Int) + 1 := by omega
  clear hX hY hZ hXl hYl hZl hcur hrow h1Y hW1 hW2 hW3 hc hsz htk hcl hfl hv hG hgr2 hrow2 hrowN hold hB1 hB2 hB3 hroom
  go_enter Try.func38, Try.ntmps38
  go_wp2_with (at_builtin; first | refine Lib.wpList_append_run _ rfl _ _ _ _ rfl _ _ rfl rfl _ _ (hrz _) ?_ | refine wpList_copy_runI _ rfl _ _ 38 38 rfl _ _ rfl rfl (hcpA _ _) ?_)
  go_region_law_o (refine step_copy_runI rfl _ _ 38 38 rfl _ _ (by simp [Act.eval, Act.put]) (by simp [Act.eval, Act.put]) (hcpB _ _ _) ?_)
  go_wp2
  go_ret
  exact ⟨_, rfl, HO.out, HG.out, .inr ⟨w.heap.size, rfl, Nat.le_refl _⟩⟩

/-- slices.Insert, of one stamp that lies in a block of its own. -/
theorem insert_any (v : Value) (d : List St) (i : Nat) (x : St) (vb : Nat) (w : World) (h : OwnSt 0 w v d) (hl : d.length ≤ 4096) (hin : i ≤ d.length) (hv : w.heap[vb]? = some (.cells (stCells x).toArray 33)) (hne : v.ownBlock ≠ some vb) :
    Calls Try.prog 38 #[v, .int .i64 (i : Int), .slice (some ⟨vb, 0, none⟩) 1 1] w fun e w' => InsP d i x v w e w' := by
  by_cases hi : i = d.length
  · subst hi
    refine (insert_end v d x vb w h hl hv).mono ?_
    rintro e w' ⟨v', rfl, h1, h2, h3⟩
    refine ⟨v', rfl, ?_, h2, h3.imp id fun e => ⟨_, e, Nat.le_refl _⟩⟩
    rw [List.take_length, List.drop_length]
    exact h1
  · rcases h.2 with ⟨rfl, hn⟩ | ⟨g, cap, cur, rfl, hg, hc, hcap, hm, hsz, htk⟩
    · omega
    · rcases Nat.lt_or_ge cap (d.length + 1) with h' | h'
      · exact insert_grow g cap d i x vb w h hl (by omega) h' hv
      · exact insert_room g cap d i x vb w h hl (by omega) h' hv (fun e => hne (by rw [e]; rfl))

end Go.Proofs.Ytfgkdbidgbpobaa
