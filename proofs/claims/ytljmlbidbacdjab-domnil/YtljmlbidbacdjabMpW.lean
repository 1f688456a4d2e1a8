/- Maps by stamps, in memory: what a block that is one holds; a look-up, a store, a delete, a range over it. -/
import Derived.Test.YtljmlbidbacdjabPlainVt
import Derived.Test.YtljmlbidbacdjabRows
import Derived.WalkKit
import Derived.WalkSpells
import Derived.RowKit3
import Derived.Laws.StructEq
import Derived.Maps.Own
import Derived.Maps.OwnOps
import Derived.Maps.RangeRun
namespace Go.Proofs.Ytljmlbidbacdjab
open Go.RowKit
set_option linter.unusedVariables false
set_option linter.unusedSimpArgs false

/-- A stamp as a value. -/
def stV (s : St) : Value := .agg #[.int .i64 s.1, .int .i64 s.2]
def entE (e : MapEntry) : Value × Value := (e.key, e.val)
theorem checkSt (em : Bool) (s : St) (w : World) : (Instr.checkKey em 10000 24 (stV s)).run Try.prog w = .ok () w := by
  cases em <;> kernel_rfl
theorem equalSt (s t : St) (w : World) : (Op.equal 24 (stV s) (stV t)).run Try.prog w = .ok (decide (t = s)) w := by
  obtain ⟨c, r⟩ := s
  obtain ⟨c2, r2⟩ := t
  have hS : Try.prog.underlying 24 = some (.struct (Try.prog.fieldsOf 24)) := by kernel_rfl
  have hp : Try.prog.stoodInHeld 24 = false := by kernel_rfl
  show (Op.equalIn 10000 24 (.agg #[.int .i64 c, .int .i64 r]) (.agg #[.int .i64 c2, .int .i64 r2])).run Try.prog w = _
  rw [show (10000 : Nat) = 9999 + 1 from rfl, run_equalIn_agg w 9999 24 _ _ hS hp]
  simp only [Program.fieldsOf, Try.underlying24]
  go_simp
  by_cases h1 : c = c2 <;> by_cases h2 : r = r2 <;> simp [h1, h2, eq_comm]
theorem sameNow_st (f : Array Field) (k k2 : Value) : Instr.sameNow (.struct f) k k2 = none := by unfold Instr.sameNow; rfl
theorem sameBits_st (s : St) : Instr.sameBits 10000 (stV s) (stV s) = true := by
  obtain ⟨c, r⟩ := s
  simp [stV, Instr.sameBits]

section
variable {α : Type} (ky : α → St) (vl : α → Value)
def entV (x : α) : Value × Value := (stV (ky x), vl x)
/-- The entries are these, in the order in which they came. -/
structure MapE (es : Array MapEntry) (clock : Nat) (D : List α) : Prop where
  ent : es.toList.map entE = D.map (entV ky vl)
  nod : (es.toList.map (·.born)).Nodup
  old : ∀ x ∈ es.toList, x.born < clock
def MapIs (w : World) (b : Nat) (D : List α) : Prop := ∃ es clock, w.heap[b]? = some (.map es clock) ∧ MapE ky vl es clock D
def getP (D : List α) (s : St) : Option α := D.find? fun x => decide (ky x = s)
end
section
variable {α : Type} {ky : α → St} {vl : α → Value} {w w' : World} {b r : Nat} {D R : List α}
theorem MapIs.keep (h : MapIs ky vl w b D) (hk : w'.heap[b]? = w.heap[b]?) : MapIs ky vl w' b D := by
  obtain ⟨es, cl, h1, h2⟩ := h
  exact ⟨es, cl, hk.trans h1, h2⟩
theorem MapIs.lt (h : MapIs ky vl w b D) : b < w.heap.size := by
  obtain ⟨es, cl, h1, h2⟩ := h
  exact (Array.getElem?_eq_some_iff.1 h1).1
theorem MapIs.new (w : World) : MapIs ky vl (w.alloc (.map #[] 0)) w.heap.size [] := ⟨#[], 0, heap_alloc_new w _, ⟨rfl, List.nodup_nil, fun x h => by simp at h⟩⟩
theorem findAskP (s : St) (w : World) : ∀ (es : List MapEntry) (D : List α) (i : Nat), es.map entE = D.map (entV ky vl) →
    ((getP ky D s = none ∧ (Instr.findAsking 24 (stV s) es i).run Try.prog w = .ok none w) ∨ ∃ x j, getP ky D s = some x ∧ D[j]? = some x ∧ (Instr.findAsking 24 (stV s) es i).run Try.prog w = .ok (some (i + j, vl x)) w)
  | [], D, i, h => by
    have : D = [] := by simpa using h.symm
    subst this
    exact .inl ⟨rfl, rfl⟩
  | e :: es, [], i, h => by simp at h
  | e :: es, y :: D, i, h => by
    simp only [List.map_cons, List.cons.injEq, entE, entV, Prod.mk.injEq] at h
    obtain ⟨⟨hk, hv⟩, ht⟩ := h
    have ih := findAskP s w es D (i + 1) ht
    unfold Instr.findAsking getP
    rw [List.find?_cons]
    have he := equalSt s (ky y) w
    rw [← hk] at he
    cases hx : decide (ky y = s) with
    | true =>
      rw [hx] at he
      refine .inr ⟨y, 0, rfl, rfl, ?_⟩
      simp only [Sem.run_bind, he, Result.andThen_ok, if_true, hv]
      rfl
    | false =>
      rw [hx] at he
      simp only [Sem.run_bind, he, Result.andThen_ok, Bool.false_eq_true, if_false]
      rcases ih with ⟨i1, i2⟩ | ⟨x, j, i1, i2, i3⟩
      · exact .inl ⟨i1, i2⟩
      · exact .inr ⟨x, j + 1, i1, by simpa using i2, by rw [i3, show i + 1 + j = i + (j + 1) by omega]⟩
theorem find_st (s : St) (w : World) (es : List MapEntry) (D : List α) (h : es.map entE = D.map (entV ky vl)) :
    (getP ky D s = none ∧ (Instr.findKey 24 (stV s) es).run Try.prog w = .ok none w) ∨ ∃ x j, getP ky D s = some x ∧ D[j]? = some x ∧ (Instr.findKey 24 (stV s) es).run Try.prog w = .ok (some (j, vl x)) w := by
  have hu := run_underlying (w := w) Try.underlying24
  unfold Instr.findKey
  cases es with
  | nil =>
    have : D = [] := by simpa using h.symm
    subst this
    refine .inl ⟨rfl, ?_⟩
    simp only [Sem.run_bind, hu, Result.andThen_ok, Instr.findNow]
    rfl
  | cons e es =>
    have := findAskP s w (e :: es) D 0 h
    simp only [Nat.zero_add] at this
    simp only [Sem.run_bind, hu, Result.andThen_ok, Instr.findNow, sameNow_st]
    exact this

/-- A look-up. -/
theorem look_st (mT vT : TypeId) (z : Value) (hu : Try.prog.underlying mT = some (.map 24 vT)) (hz : ∀ w, (zeroValue vT).run Try.prog w = .ok z w) (h : MapIs ky vl w b D) (s : St) : (Instr.lookup mT (.map (some b)) (stV s) true).run Try.prog w = .ok (match getP ky D s with | some x => .tuple #[vl x, .bool true] | none => .tuple #[z, .bool false]) w := by
  obtain ⟨es, clock, hb, he⟩ := h
  have hg : (getObj b).run Try.prog w = .ok (.map es clock) w := MapKept.run_getObj_map hb
  rcases find_st s w es.toList D he.ent with ⟨h1, h2⟩ | ⟨x, j, h1, _, h2⟩
  · rw [h1]
    simp [Instr.lookup, run_underlying hu, hg, checkSt, h2, hz, Result.andThen]
    try rfl
  · rw [h1]
    simp [Instr.lookup, run_underlying hu, hg, checkSt, h2, Result.andThen]
theorem look1_st (mT vT : TypeId) (z : Value) (hu : Try.prog.underlying mT = some (.map 24 vT)) (hz : ∀ w, (zeroValue vT).run Try.prog w = .ok z w) (h : MapIs ky vl w b D) (s : St) : (Instr.lookup mT (.map (some b)) (stV s) false).run Try.prog w = .ok (match getP ky D s with | some x => vl x | none => z) w := by
  obtain ⟨es, clock, hb, he⟩ := h
  have hg : (getObj b).run Try.prog w = .ok (.map es clock) w := MapKept.run_getObj_map hb
  rcases find_st s w es.toList D he.ent with ⟨h1, h2⟩ | ⟨x, j, h1, _, h2⟩
  · rw [h1]
    simp [Instr.lookup, run_underlying hu, hg, checkSt, h2, hz, Result.andThen]
    try rfl
  · rw [h1]
    simp [Instr.lookup, run_underlying hu, hg, checkSt, h2, Result.andThen]
theorem born_modify (l : List MapEntry) (j : Nat) (k v : Value) : (l.modify j fun e => { e with key := k, val := v }).map (·.born) = l.map (·.born) := by
  induction l generalizing j with
  | nil => simp
  | cons x t ih => cases j <;> simp_all
theorem ent_modify (l : List MapEntry) (D : List α) (j : Nat) (x y : α) (h : l.map entE = D.map (entV ky vl)) (hj : D[j]? = some x) : (l.modify j fun e => { e with key := stV (ky y), val := vl y }).map entE = (D.set j y).map (entV ky vl) := by
  induction l generalizing D j with
  | nil =>
    have : D = [] := by simpa using h.symm
    subst this
    simp at hj
  | cons e t ih =>
    cases D with
    | nil => simp at h
    | cons z D =>
      simp only [List.map_cons, List.cons.injEq] at h
      cases j with
      | zero => simp [h.2, entE, entV]
      | succ j => simp [h.1, ih D j h.2 (by simpa using hj)]
/-- A store: at a new stamp behind all, at one that is there in its place. -/
theorem store_st (mT vT : TypeId) (hu : Try.prog.underlying mT = some (.map 24 vT)) (h : MapIs ky vl w b D) (y : α) : ∃ w', (Instr.mapUpdate mT (.map (some b)) (stV (ky y)) (vl y)).run Try.prog w = .ok () w' ∧ w.grownBy w' (some b) ∧ w'.heap.size = w.heap.size ∧ ((getP ky D (ky y) = none ∧ MapIs ky vl w' b (D ++ [y])) ∨ ∃ x j, getP ky D (ky y) = some x ∧ D[j]? = some x ∧ MapIs ky vl w' b (D.set j y)) := by
  obtain ⟨es, clock, hb, he⟩ := h
  have hg : (getObj b).run Try.prog w = .ok (.map es clock) w := MapKept.run_getObj_map hb
  rcases find_st (ky y) w es.toList D he.ent with ⟨h1, h2⟩ | ⟨x, j, h1, h3, h2⟩
  · refine ⟨ChangeMaps.setBlock w b (.map (es.push { key := stV (ky y), val := vl y, born := clock }) (clock + 1)), ?_, ⟨rfl, rfl, rfl, by simp [ChangeMaps.setBlock], fun i _ hi => ChangeMaps.heap_setBlock_other hb _ (fun e => hi (by rw [e]))⟩, by simp [ChangeMaps.setBlock], .inl ⟨h1, ⟨_, _, ChangeMaps.heap_setBlock_same hb _, ⟨by simp [he.ent, entE, entV], ?_, ?_⟩⟩⟩⟩
    · simp [Instr.mapUpdate, run_underlying hu, hg, checkSt, h2, MapKept.run_setObj_map _ hb, Result.andThen]
      try rfl
    · rw [Array.toList_push, List.map_append, List.nodup_append]
      refine ⟨he.nod, by simp, fun a ha b hb => ?_⟩
      obtain ⟨x, hx, rfl⟩ := List.mem_map.1 ha
      have := he.old x hx
      simp at hb
      omega
    · intro x hx
      rw [Array.toList_push, List.mem_append] at hx
      rcases hx with hx | hx
      · have := he.old x hx; omega
      · simp at hx; rw [hx]; exact Nat.lt_succ_self _
  · have hjl : j < D.length := (List.getElem?_eq_some_iff.1 h3).1
    have hlen : es.toList.length = D.length := by have := congrArg List.length he.ent; simpa using this
    have hjs : j < es.size := by simp at hlen; omega
    have hkx : ky x = ky y := by simpa [getP] using List.find?_some h1
    have hkey : es[j].key = stV (ky y) := by
      have := congrArg (fun l => l[j]?) he.ent
      simp only [List.getElem?_map] at this
      rw [List.getElem?_eq_getElem (by simpa using hjs), h3] at this
      simp only [Option.map_some, Option.some.injEq, entE, entV, Prod.mk.injEq] at this
      rw [← hkx, ← this.1]
      simp
    refine ⟨ChangeMaps.setBlock w b (.map (es.modify j fun e => { e with key := stV (ky y), val := vl y }) clock), ?_, ⟨rfl, rfl, rfl, by simp [ChangeMaps.setBlock], fun i _ hi => ChangeMaps.heap_setBlock_other hb _ (fun e => hi (by rw [e]))⟩, by simp [ChangeMaps.setBlock], .inr ⟨x, j, h1, h3, ⟨_, clock, ChangeMaps.heap_setBlock_same hb _, ⟨?_, ?_, ?_⟩⟩⟩⟩
    · have hks : (Instr.keyThatStays es[j].key (stV (ky y))).run Try.prog w = .ok (stV (ky y)) w := by
        rw [hkey]
        unfold Instr.keyThatStays
        rw [sameBits_st, if_pos rfl]
        rfl
      simp [Instr.mapUpdate, run_underlying hu, hg, checkSt, h2, hjs, hks, MapKept.run_setObj_map _ hb, Result.andThen]
      try rfl
    · rw [Array.toList_modify]
      exact ent_modify es.toList D j x y he.ent h3
    · rw [Array.toList_modify, born_modify]
      exact he.nod
    · intro e hx
      have : e.born ∈ es.toList.map (·.born) := by
        rw [← born_modify es.toList j (stV (ky y)) (vl y), ← Array.toList_modify]
        exact List.mem_map_of_mem hx
      obtain ⟨e', he', e2⟩ := List.mem_map.1 this
      rw [← e2]
      exact he.old e' he'

theorem nodup_erase {α β : Type} (f : α → β) (l : List α) (j : Nat) (h : (l.map f).Nodup) : ((l.eraseIdx j).map f).Nodup :=
  List.Nodup.sublist ((List.eraseIdx_sublist l j).map f) h
theorem map_erase {α β : Type} (f : α → β) : ∀ (l : List α) (j : Nat), (l.eraseIdx j).map f = (l.map f).eraseIdx j
  | [], j => by simp
  | x :: l, 0 => by simp
  | x :: l, j + 1 => by simp [map_erase f l j]
theorem erase_list (es : Array MapEntry) (j : Nat) (h : j < es.size) : (es.eraseIdxIfInBounds j).toList = es.toList.eraseIdx j := by
  unfold Array.eraseIdxIfInBounds
  rw [dif_pos h]
  simp
/-- A delete. -/
theorem drop_st (mT vT : TypeId) (hu : Try.prog.underlying mT = some (.map 24 vT)) (h : MapIs ky vl w b D) (s : St) (ty kT : TypeId) : ∃ w', (Builtin.delete_ #[mT, kT] ty #[.map (some b), stV s]).run Try.prog w = .ok (.tuple #[]) w' ∧ w.grownBy w' (some b) ∧ w'.heap.size = w.heap.size ∧
    ((getP ky D s = none ∧ MapIs ky vl w' b D) ∨ ∃ x j, getP ky D s = some x ∧ D[j]? = some x ∧ MapIs ky vl w' b (D.eraseIdx j)) := by
  obtain ⟨es, clock, hb, he⟩ := h
  have hg : (getObj b).run Try.prog w = .ok (.map es clock) w := MapKept.run_getObj_map hb
  rcases find_st s w es.toList D he.ent with ⟨h1, h2⟩ | ⟨x, j, h1, h3, h2⟩
  · refine ⟨ChangeMaps.setBlock w b (.map es clock), ?_, ⟨rfl, rfl, rfl, by simp [ChangeMaps.setBlock], fun i _ hi => ChangeMaps.heap_setBlock_other hb _ (fun e => hi (by rw [e]))⟩, by simp [ChangeMaps.setBlock], .inl ⟨h1, ⟨es, clock, ChangeMaps.heap_setBlock_same hb _, he⟩⟩⟩
    simp [Builtin.delete_, run_underlying hu, hg, checkSt, h2, MapKept.run_setObj_map _ hb, Result.andThen, ChangeMaps.setBlock]
  · have hjl : j < D.length := (List.getElem?_eq_some_iff.1 h3).1
    have hjs : j < es.size := by
      have := congrArg List.length he.ent
      simp at this
      omega
    have hl := erase_list es j hjs
    refine ⟨ChangeMaps.setBlock w b (.map (es.eraseIdxIfInBounds j) clock), ?_, ⟨rfl, rfl, rfl, by simp [ChangeMaps.setBlock], fun i _ hi => ChangeMaps.heap_setBlock_other hb _ (fun e => hi (by rw [e]))⟩, by simp [ChangeMaps.setBlock], .inr ⟨x, j, h1, h3, ⟨_, clock, ChangeMaps.heap_setBlock_same hb _, ⟨by rw [hl, map_erase, map_erase, he.ent], by rw [hl]; exact nodup_erase _ _ _ he.nod, fun y hy => he.old y ?_⟩⟩⟩⟩
    · simp [Builtin.delete_, run_underlying hu, hg, checkSt, h2, MapKept.run_setObj_map _ hb, Result.andThen, ChangeMaps.setBlock]
    · rw [hl] at hy
      exact (List.eraseIdx_sublist _ _).subset hy
end

end Go.Proofs.Ytljmlbidbacdjab
