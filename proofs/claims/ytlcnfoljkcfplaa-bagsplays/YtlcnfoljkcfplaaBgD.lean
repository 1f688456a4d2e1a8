/- What cuts a parcel out of a bag. -/
import Derived.Test.YtlcnfoljkcfplaaBgC
import Derived.Laws.CopyOwn
import Derived.Shelf.Spec.SlicesInsert
namespace Go.Proofs.Ytlcnfoljkcfplaa
open Go.RowKit
set_option linter.unusedVariables false
set_option linter.unusedSimpArgs false

theorem NetIs.shrink {F F' : Nat → Prop} {w : World} {nb n : Nat} {B : Nat → List Pc} {bb : Nat} {vs : List Value} (h : NetIs F' w nb n B bb vs) (hF : ∀ k, F' k → F k) (hl : ∀ k, F k → k < w.heap.size) : NetIs F w nb n B bb vs :=
  ⟨h.row, h.bags, h.len, h.hown, h.small, h.lim, hF _ h.fl, hF _ h.fb, fun i hi k e => hF k (h.fr i hi k e), h.dis, hl⟩
/-- What a call leaves of a net, in the net's own blocks. -/
def NetS (F : Nat → Prop) (nb n : Nat) (w w' : World) (B' : Nat → List Pc) : Prop := NetOk F w' nb n B' ∧ Touch F w w'
theorem NetS.p {F : Nat → Prop} {nb n : Nat} {w w' : World} {B : Nat → List Pc} (h : NetS F nb n w w' B) : NetP F nb n w w' B := ⟨F, h.1, fun _ h => h, fun _ h => .inl h, h.2⟩
theorem NetS.same {F : Nat → Prop} {nb n : Nat} {w w' : World} {B : Nat → List Pc} (h : NetOk F w nb n B) (hb : Below w.heap.size w w') : NetS F nb n w w' B := ⟨h.below hb, Touch.of_below hb⟩
theorem NetS.back {F : Nat → Prop} {nb n : Nat} {w w1 w' : World} {B : Nat → List Pc} (h : NetS F nb n w1 w' B) (hb : Below w.heap.size w w1) : NetS F nb n w w' B := ⟨h.1, Touch.trans (Touch.of_below hb) h.2 (fun j h => .inl h)⟩
theorem sizePc : (Try.prog.info? 50).map (·.size) = some 2 := by kernel_rfl
/-- copy, of elements of two cells. -/
theorem run_copyP (w : World) (ty : TypeId) (g o dLen dCap : Nat) (a : Addr) (sLen sCap : Nat) (cur : List Value) (t : TypeId) (cs : List Value) (n : Nat)
    (hg : w.heap[g]? = some (.cells cur.toArray t (0, 0))) (hn : n = Nat.min sLen dLen) (hc : cs.length = n * 2)
    (hsrc : ∀ j v, cs[j]? = some v → w.cell? (a.add j) = some v) (hfit : o + cs.length ≤ cur.length) (h1 : ∀ v ∈ cs, v.oneCell' = true) :
    (Builtin.copy_ #[45, 45] ty #[.slice (some ⟨g, o, none⟩) dLen dCap, .slice (some a) sLen sCap]).run Try.prog w = .ok (goInt n) (w.setRow g (splice cur o cs).toArray) := by
  have hl := run_loadCells_list (P := Try.prog) w a cs hsrc
  have hst := run_storeCells_at Try.prog g o t cs 0 cur.toArray w hg (by simpa using hfit) h1
  have hq := sizePc
  cases hi : Try.prog.info? 50 with
  | none => simp [hi] at hq
  | some i =>
    have hz : i.size = 2 := by simpa [hi] using hq
    rw [hc] at hl
    simp [Builtin.copy_, run_underlying Try.underlying45, Builtin.lenOf, Builtin.firstCells, sizeOf, typeInfo, hi, hz, ← hn, hl, hst, splice]
theorem erase_eq (D : List Pc) (k : Nat) : D.eraseIdx k = D.take k ++ D.drop (k + 1) := List.eraseIdx_eq_take_drop_succ D k
/-- What is behind a place is copied down by one. -/
theorem cut_copy {w : World} {g cap : Nat} {D : List Pc} {k : Nat} (h : OwnP 0 w (.slice (some ⟨g, 0, none⟩) D.length cap) D) (hk : k < D.length) :
    ∃ w1, (∀ ty dc sc, (Builtin.copy_ #[45, 45] ty #[.slice (some ⟨g, k * 2, none⟩) (D.length - k) dc, .slice (if cap = k + 1 then some ⟨g, 0, none⟩ else some ⟨g, (k + 1) * 2, none⟩) (D.length - (k + 1)) sc]).run Try.prog w = .ok (goInt ((D.length - (k + 1) : Nat) : Int)) w1) ∧ w.grownBy w1 (some g) ∧ OwnP 0 w1 (.slice (some ⟨g, 0, none⟩) D.length cap) (D.eraseIdx k ++ [D[D.length - 1]]) := by
  obtain ⟨hfl, hn | ⟨g', cap', cur, hv', _, hc, hcap, hm, hsz, htk⟩⟩ := h
  · cases hn.1
  cases hv'
  obtain ⟨Z, hZ⟩ : ∃ Z, Z = cur.toList.drop (D.length * 2) := ⟨_, rfl⟩
  have hcl : cur.toList.length = cap * 2 := by simpa using hsz
  have hZl : Z.length = (cap - D.length) * 2 := by rw [hZ, List.length_drop, hcl]; omega
  have hcur : cur.toList = flatP D ++ Z := by rw [← htk, hZ, List.take_append_drop]
  have hrow : w.heap[g]? = some (.cells (flatP D ++ Z).toArray 50 (0, 0)) := by rw [← hcur, Array.toArray_toList]; exact hc
  have hDl := flatP_length D
  have hdl : (flatP (D.drop (k + 1))).length = (D.length - (k + 1)) * 2 := by rw [flatP_length, List.length_drop]
  refine ⟨w.setRow g (splice (flatP D ++ Z) (k * 2) (flatP (D.drop (k + 1)))).toArray, fun ty dc sc => ?_, ⟨rfl, rfl, rfl, by simp [World.setRow], fun l hl hne => setRow_other _ g l _ (fun e => hne (by rw [e]))⟩, ?_⟩
  · by_cases hce : cap = k + 1
    · rw [if_pos hce]
      have h0 : flatP (D.drop (k + 1)) = [] := List.eq_nil_of_length_eq_zero (by rw [hdl]; omega)
      refine run_copyP w ty g (k * 2) (D.length - k) dc ⟨g, 0, none⟩ (D.length - (k + 1)) sc (flatP D ++ Z) 50 (flatP (D.drop (k + 1))) (D.length - (k + 1)) hrow (by simp only [Nat.min_def]; split <;> omega) hdl (fun j u hj => ?_) (by rw [hdl, List.length_append, hDl]; omega) (flatP_one _)
      rw [h0] at hj
      simp at hj
    rw [if_neg hce]
    refine run_copyP w ty g (k * 2) (D.length - k) dc ⟨g, (k + 1) * 2, none⟩ (D.length - (k + 1)) sc (flatP D ++ Z) 50 (flatP (D.drop (k + 1))) (D.length - (k + 1)) hrow (by simp only [Nat.min_def]; split <;> omega) hdl (fun j u hj => ?_) (by rw [hdl, List.length_append, hDl]; omega) (flatP_one _)
    rw [Addr.add_lit, cell_of_row w g _ _ _ _ hrow]
    have hj2 := (List.getElem?_eq_some_iff.1 hj).1
    rw [flatP_drop] at hj
    rw [List.getElem?_drop] at hj
    rw [List.getElem?_toArray, List.getElem?_append_left (by rw [hDl]; omega)]
    exact hj
  · have hlen : (D.eraseIdx k ++ [D[D.length - 1]]).length = D.length := by rw [List.length_append, List.length_eraseIdx_of_lt hk]; simp; omega
    have e2 : D.drop (D.length - 1) = [D[D.length - 1]] := by
      rw [List.drop_eq_getElem_cons (by omega), List.drop_eq_nil_of_le (by omega)]
    have e1 : splice (flatP D ++ Z) (k * 2) (flatP (D.drop (k + 1))) = flatP (D.eraseIdx k ++ [D[D.length - 1]]) ++ Z := by
      unfold splice
      rw [erase_eq, ← e2, flatP_append, flatP_append, List.take_append_of_le_length (by rw [hDl]; omega), ← flatP_take, hdl, List.drop_append_of_le_length (by rw [hDl]; omega), flatP_drop D (D.length - 1)]
      rw [show k * 2 + (D.length - (k + 1)) * 2 = (D.length - 1) * 2 by omega]
      simp
    obtain ⟨E, hE⟩ : ∃ E, E = D.eraseIdx k ++ [D[D.length - 1]] := ⟨_, rfl⟩
    rw [← hE] at hlen e1 ⊢
    show World.ownsRow _ _ _ _ _ _ _
    rw [hlen]
    refine ⟨by rw [flatP_length, hlen], .inr ⟨g, cap, (splice (flatP D ++ Z) (k * 2) (flatP (D.drop (k + 1)))).toArray, rfl, Nat.zero_le _, setRow_heap w g _ _ _ _ hrow, hcap, hm, ?_, ?_⟩⟩
    · rw [e1]; simp only [List.size_toArray, List.length_append, flatP_length, hZl]; rw [hlen]; omega
    · rw [e1]
      show ((flatP E ++ Z).toArray.toList.take (D.length * 2)) = _
      rw [List.toList_toArray, ← hlen, ← flatP_length, List.take_left]
/-- A parcel of a row is written over. -/
theorem OwnP.write {w : World} {g cap : Nat} {D : List Pc} (h : OwnP 0 w (.slice (some ⟨g, 0, none⟩) D.length cap) D) {j : Nat} (hj : j < D.length) (x : Pc) :
    OwnP 0 ((w.setCell ⟨g, j * 2, none⟩ (.string (txt x.1))).setCell ⟨g, j * 2 + 1, none⟩ (.bool x.2)) (.slice (some ⟨g, 0, none⟩) D.length cap) (D.set j x) ∧ w.grownBy ((w.setCell ⟨g, j * 2, none⟩ (.string (txt x.1))).setCell ⟨g, j * 2 + 1, none⟩ (.bool x.2)) (some g) := by
  obtain ⟨h1, h2⟩ := World.ownsRow.stored h (j * 2) (.string (txt x.1))
  obtain ⟨h3, h4⟩ := World.ownsRow.stored h1 (j * 2 + 1) (.bool x.2)
  refine ⟨?_, grownBy.trans2 h2 h4⟩
  unfold OwnP
  rw [List.length_set, flatP_set D j x hj]
  exact h3
theorem OwnP.cut {w : World} {g cap : Nat} {D : List Pc} (h : OwnP 0 w (.slice (some ⟨g, 0, none⟩) D.length cap) D) {k : Nat} (hk : k ≤ D.length) : OwnP 0 w (.slice (some ⟨g, 0, none⟩) k cap) (D.take k) := by
  obtain ⟨hfl, hn | ⟨g', cap', cur, hv', _, hc, hcap, hm, hsz, htk⟩⟩ := h
  · cases hn.1
  cases hv'
  have hl : (D.take k).length = k := by rw [List.length_take]; omega
  show World.ownsRow _ _ _ _ _ _ _
  rw [hl]
  refine ⟨by rw [flatP_length, hl], .inr ⟨g, cap, cur, rfl, Nat.zero_le _, hc, by omega, hm, hsz, ?_⟩⟩
  rw [flatP_take, ← htk, List.take_take, Nat.min_eq_left (by omega)]
theorem erase_take (D : List Pc) (k : Nat) (hk : k < D.length) (x y : Pc) : ((D.eraseIdx k ++ [x]).set (D.length - 1) y).take (D.length - 1) = D.eraseIdx k := by
  have hl : (D.eraseIdx k).length = D.length - 1 := List.length_eraseIdx_of_lt hk
  rw [List.take_set_of_le (by omega), ← hl, List.take_left]

/-- The last parcel of a row is none now, and is left out. -/
theorem OwnP.zero {w : World} {g cap : Nat} {D : List Pc} {k : Nat} {x : Pc} (h : OwnP 0 w (.slice (some ⟨g, 0, none⟩) D.length cap) (D.eraseIdx k ++ [x])) (hk : k < D.length) :
    OwnP 0 ((w.setCell ⟨g, (D.length - 1) * 2, none⟩ (.string ⟨#[]⟩)).setCell ⟨g, (D.length - 1) * 2 + 1, none⟩ (.bool false)) (.slice (some ⟨g, 0, none⟩) (D.length - 1) cap) (D.eraseIdx k) ∧ w.grownBy ((w.setCell ⟨g, (D.length - 1) * 2, none⟩ (.string ⟨#[]⟩)).setCell ⟨g, (D.length - 1) * 2 + 1, none⟩ (.bool false)) (some g) := by
  have hl : (D.eraseIdx k ++ [x]).length = D.length := by rw [List.length_append, List.length_eraseIdx_of_lt hk]; simp; omega
  have h0 : OwnP 0 w (.slice (some ⟨g, 0, none⟩) (D.eraseIdx k ++ [x]).length cap) (D.eraseIdx k ++ [x]) := by rw [hl]; exact h
  obtain ⟨h1, h2⟩ := h0.write (j := D.length - 1) (by omega) (([], false) : Pc)
  refine ⟨?_, h2⟩
  have h3 : OwnP 0 ((w.setCell ⟨g, (D.length - 1) * 2, none⟩ (.string ⟨#[]⟩)).setCell ⟨g, (D.length - 1) * 2 + 1, none⟩ (.bool false)) (.slice (some ⟨g, 0, none⟩) ((D.eraseIdx k ++ [x]).set (D.length - 1) ([], false)).length cap) ((D.eraseIdx k ++ [x]).set (D.length - 1) ([], false)) := by rw [List.length_set]; exact h1
  have h4 := h3.cut (k := D.length - 1) (by rw [List.length_set, hl]; omega)
  rw [erase_take D k hk] at h4
  exact h4

set_option maxRecDepth 100000 in
set_option maxHeartbeats 4000000 in
theorem bagCut_any (F : Nat → Prop) (nb n : Nat) (B : Nat → List Pc) (bb : Nat) (vs : List Value) (j : Nat) (hj : j < vs.length) (k : Nat) (w : World) (h : NetIs F w nb n B bb vs) (hkk : k < (B j).length) :
    Calls Try.prog 16 #[.pointer (some ⟨bb, j, none⟩), .int .i64 (k : Int)] w fun e w' => (∃ v, e = .returned v) ∧ NetS F nb n w w' (upd B j ((B j).eraseIdx k)) := by
  obtain ⟨D, hD⟩ : ∃ D, D = B j := ⟨_, rfl⟩
  rw [← hD] at hkk ⊢
  have hk : k < D.length := hkk
  have HF : Hid (∀ k, F k → k < w.heap.size) := h.lt
  have HR : Hid (NetIs F w nb n B bb vs) := h
  have HT : Hid (TouchW F w w) := Touch.refl _ _
  have hown := h.hown j hj
  rw [← hD] at hown
  obtain ⟨g, cap, eo, hcap, _, _, hfr⟩ := hown.cells hk
  have HOV : Hid (OwnP 0 w (.slice (some ⟨g, 0, none⟩) D.length cap) D) := by rw [← eo]; exact hown
  have c0 := h.celli hj
  rw [eo] at c0
  have HC0 : Hid (w.cell? ⟨bb, j, none⟩ = some (.slice (some ⟨g, 0, none⟩) D.length cap)) := c0
  have hlim := h.lim j
  rw [← hD] at hlim
  have HLE : Hid (PcOk (D.eraseIdx k)) := ⟨Nat.le_trans (List.length_eraseIdx_le _ _) hlim.1, fun x hx => hlim.2 x (List.mem_of_mem_eraseIdx hx)⟩
  have hl256 := hlim.1
  have q1 : (k : Int) ≤ (D.length : Int) := by omega
  have q2 : (k : Int) + 1 ≤ (D.length : Int) := by omega
  have q3 : ((k : Int) + 1).toNat = k + 1 := by omega
  have q4 : (0 : Int) ≤ (k : Int) + 1 := by omega
  obtain ⟨m, hm⟩ : ∃ m, m = D.length - 1 := ⟨_, rfl⟩
  have HM : Hid (m = D.length - 1) := hm
  have q9 : ¬ (cap = k) := by omega
  have q5 : ((D.length : Int) - 1) = (m : Int) := by omega
  have q6 : (m : Int) < (D.length : Int) := by omega
  have q7 : m ≤ cap := by omega
  have q8 : IntKind.i64.wrap ((k : Int) + 1) = (k : Int) + 1 := by rw [IntKind.wrap_i64]; omega
  clear h hD hlim hown hkk hm
  go_enter Try.func16, Try.ntmps16
  go_upto_region 1 with fail
  refine wp_region_held_drew (S := fun W' => W'.cell? ⟨bb, j, none⟩ = some (.slice (some ⟨g, 0, none⟩) D.length cap)) (by kernel_rfl) HC0.out (fun hHeld => ?_)
  obtain ⟨Uc1u0, eW⟩ : ∃ X, X = w.drew := ⟨_, rfl⟩
  have hb : Below w.heap.size w Uc1u0 := by rw [eW]; exact (Below.refl _ _).drew
  replace HR : Hid (NetIs F Uc1u0 nb n B bb vs) := HR.out.below hb
  replace HT : Hid (TouchW F w Uc1u0) := HT.out.below hb
  replace HOV : Hid (OwnP 0 Uc1u0 (.slice (some ⟨g, 0, none⟩) D.length cap) D) := HOV.out.below hb
  rw [← eW] at hHeld ⊢
  clear eW hb
  refine wpAnyH_take (i := 0) (oi := ⟨some 11, _, _, _, _, _⟩) (v := ?vc1ux0) rfl (by kernel_rfl) (by kernel_rfl) (by kernel_rfl) (fun _ _ _ h => h) (Or.inl ⟨by rfl, ?hyc1ux0⟩) hHeld ?restc1ux0
  case hyc1ux0 => (intro w _; go_simp; try with_reducible rfl)
  simp only [Act.put, List.setIfInBounds_toArray, List.set_cons_zero, List.set_cons_succ]
  refine wpAnyH_take (i := 1) (oi := ⟨some 12, _, _, _, _, _⟩) (v := ?vc1ux1) rfl (by kernel_rfl) (by kernel_rfl) (by kernel_rfl) (fun _ _ _ h => h) (Or.inl ⟨by rfl, ?hyc1ux1⟩) hHeld ?restc1ux1
  case hyc1ux1 => (intro w hSw; (try dsimp only at hSw); have hc := hSw; go_simp; try with_reducible rfl)
  simp only [Act.put, List.setIfInBounds_toArray, List.set_cons_zero, List.set_cons_succ]
  refine wpAnyH_take (i := 2) (oi := ⟨some 13, _, _, _, _, _⟩) (v := ?vc1ux2) rfl (by kernel_rfl) (by kernel_rfl) (by kernel_rfl) (fun _ _ _ h => h) (Or.inl ⟨by rfl, ?hyc1ux2⟩) hHeld ?restc1ux2
  case hyc1ux2 => (intro w _; go_simp; try with_reducible rfl)
  simp only [Act.put, List.setIfInBounds_toArray, List.set_cons_zero, List.set_cons_succ]
  refine wpAnyH_take (i := 3) (oi := ⟨some 14, _, _, _, _, _⟩) (v := ?vc1ux3) rfl (by kernel_rfl) (by kernel_rfl) (by kernel_rfl) (fun _ _ _ h => h) (Or.inl ⟨by rfl, ?hyc1ux3⟩) hHeld ?restc1ux3
  case hyc1ux3 => (intro w hSw; (try dsimp only at hSw); have hc := hSw; go_simp; try with_reducible rfl)
  simp only [Act.put, List.setIfInBounds_toArray, List.set_cons_zero, List.set_cons_succ]
  refine wpAnyH_take (i := 4) (oi := ⟨some 15, _, _, _, _, _⟩) (v := ?vc1ux4) rfl (by kernel_rfl) (by kernel_rfl) (by kernel_rfl) (fun _ _ _ h => h) (Or.inl ⟨by rfl, ?hyc1ux4⟩) hHeld ?restc1ux4
  case hyc1ux4 => (intro w _; go_simp; try with_reducible rfl)
  simp only [Act.put, List.setIfInBounds_toArray, List.set_cons_zero, List.set_cons_succ]
  refine wpAnyH_take (i := 5) (oi := ⟨some 16, _, _, _, _, _⟩) (v := ?vc1ux5) rfl (by kernel_rfl) (by kernel_rfl) (by kernel_rfl) (fun _ _ _ h => h) (Or.inl ⟨by rfl, ?hyc1ux5⟩) hHeld ?restc1ux5
  case hyc1ux5 => (intro w hSw; (try dsimp only at hSw); have hc := hSw; go_simp; try with_reducible rfl)
  simp only [Act.put, List.setIfInBounds_toArray, List.set_cons_zero, List.set_cons_succ]
  refine wpAnyH_take (i := 6) (oi := ⟨some 17, _, _, _, _, _⟩) (v := ?vc1ux6) rfl (by kernel_rfl) (by kernel_rfl) (by kernel_rfl) (fun _ _ _ h => h) (Or.inl ⟨by rfl, ?hyc1ux6⟩) hHeld ?restc1ux6
  case hyc1ux6 => (intro w _; go_simp; try with_reducible rfl)
  simp only [Act.put, List.setIfInBounds_toArray, List.set_cons_zero, List.set_cons_succ]
  refine wpAnyH_take (i := 7) (oi := ⟨some 18, _, _, _, _, _⟩) (v := ?vc1ux7) rfl (by kernel_rfl) (by kernel_rfl) (by kernel_rfl) (fun _ _ _ h => h) (Or.inl ⟨by rfl, ?hyc1ux7⟩) hHeld ?restc1ux7
  case hyc1ux7 => (intro w hSw; (try dsimp only at hSw); have hc := hSw; go_simp; try with_reducible rfl)
  simp only [Act.put, List.setIfInBounds_toArray, List.set_cons_zero, List.set_cons_succ]
  refine wpAnyH_take (i := 8) (oi := ⟨some 19, _, _, _, _, _⟩) (v := ?vc1ux8) rfl (by kernel_rfl) (by kernel_rfl) (by kernel_rfl) (fun _ _ _ h => h) (Or.inl ⟨by rfl, ?hyc1ux8⟩) hHeld ?restc1ux8
  case hyc1ux8 => (intro w _; go_simp; try with_reducible rfl)
  simp only [Act.put, List.setIfInBounds_toArray, List.set_cons_zero, List.set_cons_succ]
  refine wpAnyH_take (i := 9) (oi := ⟨some 20, _, _, _, _, _⟩) (v := ?vc1ux9) rfl (by kernel_rfl) (by kernel_rfl) (by kernel_rfl) (fun _ _ _ h => h) (Or.inl ⟨by rfl, ?hyc1ux9⟩) hHeld ?restc1ux9
  case hyc1ux9 => (intro w hSw; (try dsimp only at hSw); have hc := hSw; go_simp; try with_reducible rfl)
  simp only [Act.put, List.setIfInBounds_toArray, List.set_cons_zero, List.set_cons_succ]
  refine wpAnyH_take (i := 10) (oi := ⟨some 21, _, _, _, _, _⟩) (v := ?vc1ux10) rfl (by kernel_rfl) (by kernel_rfl) (by kernel_rfl) (fun _ _ _ h => h) (Or.inl ⟨by rfl, ?hyc1ux10⟩) hHeld ?restc1ux10
  case hyc1ux10 => (intro w _; go_simp; try with_reducible rfl)
  simp only [Act.put, List.setIfInBounds_toArray, List.set_cons_zero, List.set_cons_succ]
  refine wpAnyH_take (i := 11) (oi := ⟨some 22, _, _, _, _, _⟩) (v := ?vc1ux11) rfl (by kernel_rfl) (by kernel_rfl) (by kernel_rfl) (fun _ _ _ h => h) (Or.inl ⟨by rfl, ?hyc1ux11⟩) hHeld ?restc1ux11
  case hyc1ux11 => (intro w hSw; (try dsimp only at hSw); have hc := hSw; go_simp; try with_reducible rfl)
  simp only [Act.put, List.setIfInBounds_toArray, List.set_cons_zero, List.set_cons_succ]
  refine wpAnyH_take (i := 12) (oi := ⟨some 23, _, _, _, _, _⟩) (v := ?vc1ux12) rfl (by kernel_rfl) (by kernel_rfl) (by kernel_rfl) (fun _ _ _ h => h) (Or.inl ⟨by rfl, ?hyc1ux12⟩) hHeld ?restc1ux12
  case hyc1ux12 => (intro w hSw; (try dsimp only at hSw); have hc := hSw; go_simp; try with_reducible rfl)
  simp only [Act.put, List.setIfInBounds_toArray, List.set_cons_zero, List.set_cons_succ]
  refine wpAnyH_ready (rs := [13]) (by kernel_rfl) (by simp) ?_
  refine AllReadyH.cons (o := ⟨some 24, _, _, _, _, _⟩) rfl (fun K hK => ?_) AllReadyH.nil
  obtain ⟨Uc1u1, hcp, hgc, hoc⟩ := cut_copy (w := Uc1u0) HOV.out hk
  have hcpI := hcp
  refine step_copy_runI rfl _ _ 45 45 rfl _ _ (by rfl) (by rfl) (hcpI _ _ _) ?_
  have HG1 : Hid (Uc1u0.grownBy Uc1u1 (some g)) := hgc
  have HO1 : Hid (OwnP 0 Uc1u1 (.slice (some ⟨g, 0, none⟩) D.length cap) (D.eraseIdx k ++ [D[D.length - 1]])) := hoc
  have HC1 : Hid (Uc1u1.cell? ⟨bb, j, none⟩ = some (.slice (some ⟨g, 0, none⟩) D.length cap)) := (hgc.cell_far ⟨bb, j, none⟩ (HR.out.lt _ HR.out.fb) (fun e => by have h9 := HR.out.ne.2.1 j hj; rw [eo] at h9; exact h9 e.symm)).trans hHeld
  clear hcp hcpI hgc hoc
  refine hK.out _ _ (HC1.out) (fun hHeld2 => ?_)
  clear hK K hHeld
  have hHeld := hHeld2
  clear hHeld2
  (try simp only [Act.put, List.setIfInBounds_toArray, List.set_cons_zero, List.set_cons_succ])
  have HR1 : Hid (NetIs F Uc1u0 nb n B bb vs) := HR.out
  have HT1 : Hid (TouchW F w Uc1u0) := HT.out
  have HF1 : Hid (Uc1u1.frozen? ⟨bb, j, none⟩ = false) := by rw [World.frozen?_of_block (HG1.out.block bb (HR.out.lt _ HR.out.fb) (fun e => by have h9 := HR.out.ne.2.1 j hj; rw [eo] at h9; exact h9 e.symm))]; exact HR.out.free _
  clear HR HT HOV
  refine wpAnyH_done (by kernel_rfl) ?_ _
  clear hHeld
  obtain ⟨x, hx⟩ : ∃ x, x = D[D.length - 1] := ⟨_, rfl⟩
  rw [← hx] at HO1
  clear hx
  have hle : (D.eraseIdx k ++ [x]).length = D.length := by rw [List.length_append, List.length_eraseIdx_of_lt hk]; simp; omega
  have h0 : OwnP 0 Uc1u1 (.slice (some ⟨g, 0, none⟩) (D.eraseIdx k ++ [x]).length cap) (D.eraseIdx k ++ [x]) := by rw [hle]; exact HO1.out
  obtain ⟨g9, cap9, eqv, _, x0, x1, fz⟩ := h0.cells (i := m) (by rw [hle]; have := HM.out; omega)
  injection eqv with e1 e2 e3
  injection e1 with e1
  injection e1 with e1
  subst e1 e3
  have hgb : bb ≠ g := fun e => by have h9 := HR1.out.ne.2.1 j hj; rw [eo] at h9; exact h9 (by rw [e]; rfl)
  have hgb2 : g ≠ bb := fun e => hgb e.symm
  have hz := HO1.out.zero hk
  rw [← HM.out] at hz
  have HO2 : Hid (OwnP 0 ((Uc1u1.setCell ⟨g, m * 2, none⟩ (.string ⟨#[]⟩)).setCell ⟨g, m * 2 + 1, none⟩ (.bool false)) (.slice (some ⟨g, 0, none⟩) m cap) (D.eraseIdx k)) := hz.1
  have HG2 : Hid (Uc1u1.grownBy ((Uc1u1.setCell ⟨g, m * 2, none⟩ (.string ⟨#[]⟩)).setCell ⟨g, m * 2 + 1, none⟩ (.bool false)) (some g)) := hz.2
  obtain ⟨y0, z0⟩ : ∃ y, Uc1u1.cell? ⟨g, m * 2, none⟩ = some y := ⟨_, x0⟩
  obtain ⟨y1, z1⟩ : ∃ y, Uc1u1.cell? ⟨g, m * 2 + 1, none⟩ = some y := ⟨_, x1⟩
  clear x0 x1
  have c2 := HC1.out
  have f2 := HF1.out
  have f3 := fz (m * 2)
  have f4 := fz (m * 2 + 1)
  clear hz h0 hle e2 fz hfr HC1 HF1 c0 HC0
  generalize (if cap = k + 1 then some (⟨g, 0, none⟩ : Addr) else some ⟨g, (k + 1) * 2, none⟩) = za
  go_wp2
  go_end0
  have hst := HR1.out.store hj (by rw [eo]; exact grownBy.trans2 HG1.out HG2.out) HO2.out (.inl (by rw [eo]; rfl)) HLE.out
  refine ⟨⟨_, rfl⟩, ⟨bb, _, hst.1.shrink (fun k h => ?_) (fun k h => hst.1.lt k (.inl h))⟩, Touch.trans HT1.out hst.2 (fun j h => .inl h)⟩
  rcases h with h | h
  · exact h
  · exact HR1.out.fr j hj k (by rw [eo]; exact h)

end Go.Proofs.Ytlcnfoljkcfplaa
