/- leave: the steps by which what cannot stay leaves the tree. -/
import Derived.Test.YthhnglpkfcmjiaaKDiQ
import Derived.Test.YthhnglpkfcmjiaaKVtW
import Derived.Shelf.SlMaps.Clone
import Derived.Maps.AppendAt
namespace Go.Proofs.Ythhnglpkfcmjiaa
open Go.RowKit Go.Shelf
set_option linter.unusedVariables false
set_option linter.unusedSimpArgs false
attribute [local go_sem] Oper.semAt_some
set_option maxRecDepth 100000 in
set_option maxHeartbeats 2000000 in
theorem cloneM_any (b : Nat) (D : List Sd) (w : World) (h : MpS w b D) :
    Calls Try.prog 50 #[.map (some b)] w fun e w' => e = .returned (.map (some w.heap.size)) ∧ MpS w' w.heap.size D ∧ w'.heap.size = w.heap.size + 1 ∧ Below w.heap.size w w' := by
  obtain ⟨es, clock, hb, he⟩ := h
  have hq := fun w => run_eql_map_nil_sl (P := Try.prog) w 56 _ _ (some b) uSpk
  have HE := hide9 he
  clear he
  go_enter Try.func50, Try.ntmps50
  go_wp2
  rw [run_callFunc_extern Try.func73 (by kernel_rfl) (by kernel_rfl) (by kernel_rfl) (e := Extern.MapsClone.clone) (by kernel_rfl), run_maps_clone_sl w 56 hb]
  simp only [Result.andThen]
  rw [Oper.upon_value]
  go_wp2
  rw [run_typeAssert_map_sl _ 56 _ _ _ _ uSpk]
  simp only [Result.andThen]
  rw [Oper.upon_value]
  go_wp2
  go_ret
  exact ⟨rfl, ⟨es, clock, heap_alloc_new _ _, HE.out⟩, by simp, (Below.refl _ _).alloc (Nat.le_refl _) _⟩
theorem erase_filter {s : St} : ∀ {D : List Sd} {j : Nat} {x : Sd}, (D.map skU).Nodup → D[j]? = some x → skU x = s → D.eraseIdx j = D.filter fun y => decide (skU y ≠ s)
  | y :: r, 0, x, hn, hj, hx => by
    simp at hj
    subst hj
    rw [List.map_cons, List.nodup_cons] at hn
    rw [List.eraseIdx_zero, List.tail_cons, List.filter_cons, if_neg (by simp [hx])]
    exact (List.filter_eq_self.2 fun z hz => by simpa using fun e => hn.1 (by rw [hx, ← e]; exact List.mem_map.2 ⟨z, hz, rfl⟩)).symm
  | y :: r, j + 1, x, hn, hj, hx => by
    rw [List.map_cons, List.nodup_cons] at hn
    have hj2 : r[j]? = some x := by simpa using hj
    have hne : skU y ≠ s := fun e => hn.1 (by rw [e, ← hx]; exact List.mem_map.2 ⟨x, List.mem_of_getElem? hj2, rfl⟩)
    rw [List.eraseIdx_cons_succ, erase_filter hn.2 hj2 hx, List.filter_cons, if_pos (by simpa using hne)]
theorem getP_key {D : List Sd} {s : St} {x : Sd} (h : getP skU D s = some x) : x ∈ D ∧ skU x = s := by
  unfold getP at h
  exact ⟨List.mem_of_find?_eq_some h, by simpa using List.find?_some h⟩
theorem getP_not {D : List Sd} {s : St} (h : getP skU D s = none) : ∀ x ∈ D, skU x ≠ s := by
  unfold getP at h
  rw [List.find?_eq_none] at h
  exact fun x hx => by simpa using h x hx
theorem drop_sd {w : World} {b : Nat} {D : List Sd} (h : MpS w b D) (hn : (D.map skU).Nodup) (s : St) (ty : TypeId) : ∃ w', (Builtin.delete_ #[56, 23] ty #[.map (some b), .agg #[.int .i64 s.1, .int .i64 s.2]]).run Try.prog w = .ok (.tuple #[]) w' ∧ w.grownBy w' (some b) ∧ MpS w' b (D.filter fun y => decide (skU y ≠ s)) := by
  obtain ⟨w', h1, h2, _, h3⟩ := drop_st 56 64 uSpk h s ty 23
  refine ⟨w', h1, h2, ?_⟩
  rcases h3 with ⟨hg, h3⟩ | ⟨x, j, hg, hj, h3⟩
  · rw [List.filter_eq_self.2 fun z hz => by simpa using getP_not hg z hz]; exact h3
  · rw [← erase_filter hn hj (getP_key hg).2]; exact h3
/-- What is taken, what is gone. -/
def tkL (A ys : List Sd) : List Sd := A.filter fun x => !(ys.any fun y => decide (skU y = skU x ∧ y.a = x.a))
def gnL (A ys : List Sd) : List Sd := A.filter fun x => !(ys.any fun y => decide (skU y = skU x))
theorem gnL_snoc (A ys : List Sd) (y : Sd) : gnL A (ys ++ [y]) = (gnL A ys).filter fun x => decide (skU x ≠ skU y) := by
  unfold gnL
  rw [List.filter_filter]
  refine List.filter_congr fun x _ => ?_
  rw [List.any_append]
  by_cases h : skU y = skU x <;> simp [h, eq_comm, Bool.and_comm] <;> (first | rfl | (intro e; exact absurd e.symm h) | skip)
theorem tkL_snoc (A ys : List Sd) (y : Sd) : tkL A (ys ++ [y]) = (tkL A ys).filter fun x => !decide (skU y = skU x ∧ y.a = x.a) := by
  unfold tkL
  rw [List.filter_filter]
  refine List.filter_congr fun x _ => ?_
  rw [List.any_append]
  cases h : (ys.any fun y => decide (skU y = skU x ∧ y.a = x.a)) <;> simp [h]
theorem sd_uniq : ∀ {D : List Sd} {x y : Sd}, (D.map skU).Nodup → x ∈ D → y ∈ D → skU x = skU y → x = y
  | z :: r, x, y, hn, hx, hy, e => by
    rw [List.map_cons, List.nodup_cons] at hn
    rcases List.mem_cons.1 hx with h1 | h1
    · rcases List.mem_cons.1 hy with h2 | h2
      · rw [h1, h2]
      · exact absurd (List.mem_map.2 ⟨y, h2, by rw [← e, h1]⟩) hn.1
    · rcases List.mem_cons.1 hy with h2 | h2
      · exact absurd (List.mem_map.2 ⟨x, h1, by rw [e, h2]⟩) hn.1
      · exact sd_uniq hn.2 h1 h2 e
/-- Where a node of a map stands beneath (zero: it is not in the map). -/
def abvL (D : List Sd) (s : St) : St := match getP skU D s with | some x => x.a | none => (0, 0)
theorem tk_yes {A ys : List Sd} {y : Sd} (hn : ((tkL A ys).map skU).Nodup) (h : abvL (tkL A ys) (skU y) = y.a) : tkL A (ys ++ [y]) = (tkL A ys).filter fun x => decide (skU x ≠ skU y) := by
  rw [tkL_snoc]
  refine List.filter_congr fun x hx => ?_
  by_cases e : skU x = skU y
  · unfold abvL at h
    cases hg : getP skU (tkL A ys) (skU y) with
    | none => exact absurd e (getP_not hg x hx)
    | some z =>
      rw [hg] at h
      obtain ⟨h1, h2⟩ := getP_key hg
      have hz : z = x := sd_uniq hn h1 hx (h2.trans e.symm)
      subst hz
      have h' : z.a = y.a := h
      simp [e, h']
  · have e2 : ¬ skU y = skU x := fun q => e q.symm
    simp [e, e2]
theorem tk_no {A ys : List Sd} {y : Sd} (hn : ((tkL A ys).map skU).Nodup) (h : abvL (tkL A ys) (skU y) ≠ y.a) : tkL A (ys ++ [y]) = tkL A ys := by
  rw [tkL_snoc]
  refine List.filter_eq_self.2 fun x hx => ?_
  by_cases e : skU y = skU x
  · have hz : y.a ≠ x.a := fun q => h (by
      unfold abvL
      cases hg : getP skU (tkL A ys) (skU y) with
      | none => exact absurd e.symm (getP_not hg x hx)
      | some z =>
        obtain ⟨h1, h2⟩ := getP_key hg
        have hz : z = x := sd_uniq hn h1 hx (h2.trans e)
        rw [hz]; exact q.symm)
    simp [hz]
  · simp [e]
theorem look1_sd {w : World} {mb : Nat} {D : List Sd} (h : MpS w mb D) (s : St) : ∃ (lv : Sd) (p : Value), (∀ W9, W9.heap[mb]? = w.heap[mb]? → (Instr.lookup 56 (.map (some mb)) (.agg #[.int .i64 s.1, .int .i64 s.2]) false).run Try.prog W9 = .ok (.agg #[p, .int .i64 lv.a.1, .int .i64 lv.a.2, .int .i64 (lv.i : Int)]) W9) ∧ lv.a = abvL D s := by
  unfold abvL
  cases hg : getP skU D s with
  | none => exact ⟨⟨(0, 0), 0, 0, 0, .node (0, 0) ⟨#[]⟩ ⟨#[]⟩ [] []⟩, .pointer none, fun W9 e => (look1_st 56 64 (.agg #[.pointer none, .int .i64 0, .int .i64 0, .int .i64 0]) uSpk zSpk (h.keep e) s).trans (by rw [hg]; rfl), rfl⟩
  | some y => exact ⟨y, _, fun W9 e => (look1_st 56 64 (.agg #[.pointer none, .int .i64 0, .int .i64 0, .int .i64 0]) uSpk zSpk (h.keep e) s).trans (by rw [hg]; rfl), rfl⟩
theorem tkL_nil (A : List Sd) : tkL A [] = A := by simp [tkL]
theorem gnL_nil (A : List Sd) : gnL A [] = A := by simp [gnL]
theorem nd_filter {A : List Sd} (h : (A.map skU).Nodup) (p : Sd → Bool) : ((A.filter p).map skU).Nodup := List.Nodup.sublist (List.Sublist.map _ List.filter_sublist) h
theorem M2.of {b c k : Nat} {D E X : List Sd} (h : M2 b D c E k = some X) : (k = b ∧ X = D) ∨ (k = c ∧ X = E) := by
  unfold M2 at h
  by_cases e : k = b
  · rw [if_pos e] at h; injection h with h; exact .inl ⟨e, h.symm⟩
  · rw [if_neg e] at h
    by_cases e2 : k = c
    · rw [if_pos e2] at h; injection h with h; exact .inr ⟨e2, h.symm⟩
    · rw [if_neg e2] at h; cases h
theorem row2d {W : World} {b : Nat} {x0 x1 : Value} {ty : TypeId} (h : W.heap[b]? = some (.cells #[x0, x1] ty)) : W.cell? ⟨b, 0, none⟩ = some x0 ∧ W.cell? ⟨b, 1, none⟩ = some x1 := by
  refine ⟨?_, ?_⟩ <;> (rw [cell_of_row W b _ _ _ _ h]; rfl)
/-- A mark at which the walk stops. -/
def StpD (p : Prop) : Prop := p
theorem StpD.to {p : Prop} (h : StpD p) : p := h
theorem StpD.of {p : Prop} (h : p) : StpD p := h
theorem run_appendE {P : Program} {w : World} (base : Nat) (t ty e : TypeId) (i : TypeInfo) (size : Nat) (ht : P.underlying t = some (.slice e)) (hi : P.info? e = some i)
    (v : Value) (n : Nat) (xs : List Value) (hown : w.ownsRow base e size v n xs) (c : Nat) :
    (Builtin.append_ #[t, t] ty #[v, .slice none 0 c]).run P w = .ok v w := by
  rcases hown.2 with ⟨rfl, rfl⟩ | ⟨g, cap, cur, rfl, _, _, hnc, _⟩
  · simp [Builtin.append_, run_underlying ht, sizeOf, typeInfo, hi, Builtin.lenOf, Builtin.firstCells]
  · simp [Builtin.append_, run_underlying ht, sizeOf, typeInfo, hi, Builtin.lenOf, Builtin.firstCells, hnc, storeCells]
theorem flat_paD (D : List Pa) : ∀ u ∈ flatE paCells D, u.oneCell' = true := fun u hu => by
  obtain ⟨p, _, hp⟩ := List.mem_flatMap.1 hu
  exact pa_oneD p u hp
set_option maxHeartbeats 1000000 in
theorem step_appPs {G : Nat → Prop} {ops : Array Oper} {o : Oper} {a : Act} {w : World} {K : Act → World → Prop} {Q : Exit → Act → World → Prop} {P9 : Prop} (hgd : o.guard = none) (s x : Operand)
    (ho : o.op = .call { callee := .builtin .append, args := #[s, x], argTypes := #[31, 31] }) (base : Nat) (v xv : Value) (D E : List Pa) (hs : a.eval s = v) (hown : OwnPa base w v D) (hx : a.eval x = xv) (hE : LsE paCells 9 G w xv E) (hl : D.length + E.length ≤ 1048576000) (hbase : base ≤ w.heap.size)
    (hK : ∀ v' w', OwnPa base w' v' (D ++ E) → w.grownBy w' v.ownBlock → K (a.put o.dst v') w') :
    if Region.wanted o (yielded ops a.tmps) = true then Oper.wp Try.prog o a w K Q else P9 := by
  have hw : Region.wanted o (yielded ops a.tmps) = true := by simp [Region.wanted, hgd]
  rw [if_pos hw]
  obtain ⟨i0, hi, hz0, hz1, hz2⟩ := info_parts infoPaD
  obtain ⟨a1, c1, rfl⟩ := hE.form
  cases a1 with
  | none =>
    obtain rfl : E = [] := (by obtain ⟨a, c, e, _, _, r⟩ := hE; rcases r with q | ⟨b, o, q, _⟩; exact q; rw [q] at e; cases e)
    have hr := fun ty => run_appendE base 31 ty 45 i0 9 Try.underlying31 hi v D.length (flatE paCells D) hown c1
    unfold Oper.wp execOp
    simp only [ho, resolve, invoke, builtin, Sem.run_bind, Sem.run_pure, Result.andThen_ok, List.map_toArray, List.map_cons, List.map_nil, hs, hx, List.length_nil, hr]
    exact hK _ _ (by rw [List.append_nil]; exact hown) ⟨rfl, rfl, rfl, Nat.le_refl _, fun _ _ _ => rfl⟩
  | some ad =>
    obtain ⟨v', w', hr, h3, h4, h5, h6⟩ := run_append_own_at (P := Try.prog) w base 31 o.type 45 i0 (.agg #[.int .i64 0, .int .i64 0, .int .i64 0, .int .i64 0, .int .i64 0, .int .i64 0, .int .i64 0, .string ⟨#[]⟩, .string ⟨#[]⟩]) 9 88 Try.underlying31 hi hz0 hz1 hz2 rfl (by decide) v D.length (flatE paCells D) hown ad E.length c1 (flatE paCells E) (flatE_length pzLen E) (fun j u hj => (LsE.flat (by decide) pzLen hE j u hj).1) (flat_paD E) (by unfold maxLen; omega) (by omega) hbase
    unfold Oper.wp execOp
    simp only [ho, resolve, invoke, builtin, Sem.run_bind, Sem.run_pure, Result.andThen_ok, List.map_toArray, List.map_cons, List.map_nil, hs, hx, hr]
    exact hK _ _ (by unfold OwnPa OwnE; rw [flatE_append, List.length_append]; exact h3) h4
end Go.Proofs.Ythhnglpkfcmjiaa
