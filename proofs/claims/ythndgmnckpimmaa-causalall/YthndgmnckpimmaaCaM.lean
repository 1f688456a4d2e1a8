/- A map of changes by their places, in memory: what a block that is one holds; a look-up, a store, a delete, a range over it. -/
import Derived.Test.YthndgmnckpimmaaOlA
import Derived.Test.YthndgmnckpimmaaPlainL
import Derived.Laws.StructEq
import Derived.Maps.Own
import Derived.Maps.OwnOps
import Derived.Maps.RangeRun
namespace Go.Proofs.Ythndgmnckpimmaa
open Go.RowKit
set_option linter.unusedVariables false
set_option linter.unusedSimpArgs false

/-- A place and a change as values. -/
def plV (r s : Int) : Value := .agg #[.int .i64 r, .int .i64 s]
def chV (c : Ch) (dv : Value) : Value := .agg (chCells c dv).toArray
def zeroV : Value := .agg #[.int .i64 0, .int .i64 0, .int .i64 0, .slice none 0 0, .int .i64 0, .int .i64 0, .int .i64 0, .int .i64 0, .int .i64 0, .int .i64 0, .int .i64 0, .string ⟨#[]⟩, .string ⟨#[]⟩]
def entV (x : Ch × Value) : Value × Value := (plV x.1.ar x.1.seq, chV x.1 x.2)
def entE (e : MapEntry) : Value × Value := (e.key, e.val)
/-- The entries are these changes, in the order in which they came. -/
structure MapE (es : Array MapEntry) (clock : Nat) (D : List (Ch × Value)) : Prop where
  ent : es.toList.map entE = D.map entV
  nod : (es.toList.map (·.born)).Nodup
  old : ∀ x ∈ es.toList, x.born < clock
def MapIs (w : World) (b : Nat) (D : List (Ch × Value)) : Prop := ∃ es clock, w.heap[b]? = some (.map es clock) ∧ MapE es clock D
def isAtB (c r c2 r2 : Int) : Bool := decide (c2 = c ∧ r2 = r)
def getP (D : List (Ch × Value)) (r s : Int) : Option (Ch × Value) := D.find? fun x => isOwn r s x.1
theorem MapIs.keep {w w' : World} {b : Nat} {D : List (Ch × Value)} (h : MapIs w b D) (hk : w'.heap[b]? = w.heap[b]?) : MapIs w' b D := by
  obtain ⟨es, cl, h1, h2⟩ := h
  exact ⟨es, cl, hk.trans h1, h2⟩
theorem MapIs.lt {w : World} {b : Nat} {D : List (Ch × Value)} (h : MapIs w b D) : b < w.heap.size := by
  obtain ⟨es, cl, h1, h2⟩ := h
  exact (Array.getElem?_eq_some_iff.1 h1).1
theorem MapIs.new (w : World) : MapIs (w.alloc (.map #[] 0)) w.heap.size [] := ⟨#[], 0, heap_alloc_new w _, ⟨rfl, List.nodup_nil, fun x h => by simp at h⟩⟩
theorem MapIs.size {w : World} {b : Nat} {D : List (Ch × Value)} (h : MapIs w b D) : ∃ es clock, w.heap[b]? = some (.map es clock) ∧ es.size = D.length := by
  obtain ⟨es, cl, h1, h2⟩ := h
  refine ⟨es, cl, h1, ?_⟩
  have := congrArg List.length h2.ent
  simpa using this

theorem checkPl (em : Bool) (c r : Int) (w : World) : (Instr.checkKey em 10000 80 (plV c r)).run Try.prog w = .ok () w := by
  cases em <;> kernel_rfl
theorem zeroCh (w : World) : (zeroValue 35).run Try.prog w = .ok zeroV w := by kernel_rfl
theorem equalPl (c r c2 r2 : Int) (w : World) : (Op.equal 80 (plV c r) (plV c2 r2)).run Try.prog w = .ok (isAtB c r c2 r2) w := by
  have hS : Try.prog.underlying 80 = some (.struct (Try.prog.fieldsOf 80)) := by kernel_rfl
  have hp : Try.prog.stoodInHeld 80 = false := by kernel_rfl
  show (Op.equalIn 10000 80 (.agg #[.int .i64 c, .int .i64 r]) (.agg #[.int .i64 c2, .int .i64 r2])).run Try.prog w = _
  rw [show (10000 : Nat) = 9999 + 1 from rfl, run_equalIn_agg w 9999 80 _ _ hS hp]
  simp only [Program.fieldsOf, Try.underlying80]
  go_simp
  unfold isAtB
  by_cases h1 : c = c2 <;> by_cases h2 : r = r2 <;> simp [h1, h2, eq_comm]
theorem sameNow_pl (f : Array Field) (k k2 : Value) : Instr.sameNow (.struct f) k k2 = none := by unfold Instr.sameNow; rfl
theorem findAskP (c r : Int) (w : World) : ∀ (es : List MapEntry) (D : List (Ch × Value)) (i : Nat), es.map entE = D.map entV →
    ((getP D c r = none ∧ (Instr.findAsking 80 (plV c r) es i).run Try.prog w = .ok none w) ∨ ∃ x j, getP D c r = some x ∧ D[j]? = some x ∧ (Instr.findAsking 80 (plV c r) es i).run Try.prog w = .ok (some (i + j, chV x.1 x.2)) w)
  | [], D, i, h => by
    have : D = [] := by simpa using h.symm
    subst this
    exact .inl ⟨rfl, rfl⟩
  | e :: es, [], i, h => by simp at h
  | e :: es, y :: D, i, h => by
    simp only [List.map_cons, List.cons.injEq, entE, entV, Prod.mk.injEq] at h
    obtain ⟨⟨hk, hv⟩, ht⟩ := h
    have ih := findAskP c r w es D (i + 1) ht
    unfold Instr.findAsking getP
    rw [List.find?_cons]
    have he := equalPl c r y.1.ar y.1.seq w
    rw [← hk] at he
    have hb : isAtB c r y.1.ar y.1.seq = isOwn c r y.1 := rfl
    rw [hb] at he
    cases hx : isOwn c r y.1 with
    | true =>
      rw [hx] at he
      refine .inr ⟨y, 0, rfl, rfl, ?_⟩
      simp only [Sem.run_bind, he, Result.andThen_ok, if_true, hv]
      rfl
    | false =>
      rw [hx] at he
      simp only [Sem.run_bind, he, Result.andThen_ok, Bool.false_eq_true, if_false]
      rcases ih with ⟨i1, i2⟩ | ⟨x, j, i1, i2, i3⟩
      · exact .inl ⟨i1, i2⟩
      · exact .inr ⟨x, j + 1, i1, by simpa using i2, by rw [i3, show i + 1 + j = i + (j + 1) by omega]⟩
theorem find_pl (c r : Int) (w : World) (es : List MapEntry) (D : List (Ch × Value)) (h : es.map entE = D.map entV) :
    (getP D c r = none ∧ (Instr.findKey 80 (plV c r) es).run Try.prog w = .ok none w) ∨ ∃ x j, getP D c r = some x ∧ D[j]? = some x ∧ (Instr.findKey 80 (plV c r) es).run Try.prog w = .ok (some (j, chV x.1 x.2)) w := by
  have hu := run_underlying (w := w) Try.underlying80
  unfold Instr.findKey
  cases es with
  | nil =>
    have : D = [] := by simpa using h.symm
    subst this
    refine .inl ⟨rfl, ?_⟩
    simp only [Sem.run_bind, hu, Result.andThen_ok, Instr.findNow]
    rfl
  | cons e es =>
    have := findAskP c r w (e :: es) D 0 h
    simp only [Nat.zero_add] at this
    simp only [Sem.run_bind, hu, Result.andThen_ok, Instr.findNow, sameNow_pl]
    exact this

/-- A look-up. -/
theorem look_pl {w : World} {b : Nat} {D : List (Ch × Value)} (h : MapIs w b D) (c r : Int) : (Instr.lookup 74 (.map (some b)) (plV c r) true).run Try.prog w = .ok (match getP D c r with | some x => .tuple #[chV x.1 x.2, .bool true] | none => .tuple #[zeroV, .bool false]) w := by
  obtain ⟨es, clock, hb, he⟩ := h
  have hg : (getObj b).run Try.prog w = .ok (.map es clock) w := MapKept.run_getObj_map hb
  rcases find_pl c r w es.toList D he.ent with ⟨h1, h2⟩ | ⟨x, j, h1, _, h2⟩
  · rw [h1]
    simp [Instr.lookup, run_underlying Try.underlying74, hg, checkPl, h2, zeroCh, Result.andThen]
    try rfl
  · rw [h1]
    simp [Instr.lookup, run_underlying Try.underlying74, hg, checkPl, h2, Result.andThen]
/-- A store at a place that is not there. -/
theorem store_pl {w : World} {b : Nat} {D : List (Ch × Value)} (h : MapIs w b D) (c : Ch) (dv : Value) (hn : getP D c.ar c.seq = none) : ∃ w', (Instr.mapUpdate 74 (.map (some b)) (plV c.ar c.seq) (chV c dv)).run Try.prog w = .ok () w' ∧ MapIs w' b (D ++ [(c, dv)]) ∧ w.grownBy w' (some b) ∧ w'.heap.size = w.heap.size := by
  obtain ⟨es, clock, hb, he⟩ := h
  have hg : (getObj b).run Try.prog w = .ok (.map es clock) w := MapKept.run_getObj_map hb
  rcases find_pl c.ar c.seq w es.toList D he.ent with ⟨h1, h2⟩ | ⟨x, j, h1, _, h2⟩
  · refine ⟨ChangeMaps.setBlock w b (.map (es.push { key := plV c.ar c.seq, val := chV c dv, born := clock }) (clock + 1)), ?_, ⟨_, _, ChangeMaps.heap_setBlock_same hb _, ⟨by simp [he.ent, entE, entV], ?_, ?_⟩⟩, ⟨rfl, rfl, rfl, by simp [ChangeMaps.setBlock], fun i _ hi => ChangeMaps.heap_setBlock_other hb _ (fun e => hi (by rw [e]))⟩, by simp [ChangeMaps.setBlock]⟩
    · simp [Instr.mapUpdate, run_underlying Try.underlying74, hg, checkPl, h2, MapKept.run_setObj_map _ hb, Result.andThen]
      try rfl
    · rw [Array.toList_push, List.map_append, List.nodup_append]
      refine ⟨he.nod, by simp, fun a ha b hb => ?_⟩
      obtain ⟨x, hx, rfl⟩ := List.mem_map.1 ha
      have := he.old x hx
      simp at hb
      omega
    · intro x hx
      rw [Array.toList_push, List.mem_append] at hx
      rcases hx with hx | hx
      · have := he.old x hx; omega
      · simp at hx; rw [hx]; exact Nat.lt_succ_self _
  · rw [hn] at h1; cases h1

theorem nodup_erase {α β : Type} (f : α → β) (l : List α) (j : Nat) (h : (l.map f).Nodup) : ((l.eraseIdx j).map f).Nodup :=
  List.Nodup.sublist ((List.eraseIdx_sublist l j).map f) h
theorem map_erase {α β : Type} (f : α → β) : ∀ (l : List α) (j : Nat), (l.eraseIdx j).map f = (l.map f).eraseIdx j
  | [], j => by simp
  | x :: l, 0 => by simp
  | x :: l, j + 1 => by simp [map_erase f l j]
theorem erase_list (es : Array MapEntry) (j : Nat) (h : j < es.size) : (es.eraseIdxIfInBounds j).toList = es.toList.eraseIdx j := by
  unfold Array.eraseIdxIfInBounds
  rw [dif_pos h]
  simp
/-- A delete. -/
theorem drop_pl {w : World} {b : Nat} {D : List (Ch × Value)} (h : MapIs w b D) (r s : Int) (ty : TypeId) : ∃ w', (Builtin.delete_ #[74, 80] ty #[.map (some b), plV r s]).run Try.prog w = .ok (.tuple #[]) w' ∧ w.grownBy w' (some b) ∧ w'.heap.size = w.heap.size ∧
    ((getP D r s = none ∧ MapIs w' b D) ∨ ∃ x j, getP D r s = some x ∧ D[j]? = some x ∧ MapIs w' b (D.eraseIdx j)) := by
  obtain ⟨es, clock, hb, he⟩ := h
  have hg : (getObj b).run Try.prog w = .ok (.map es clock) w := MapKept.run_getObj_map hb
  rcases find_pl r s w es.toList D he.ent with ⟨h1, h2⟩ | ⟨x, j, h1, h3, h2⟩
  · refine ⟨ChangeMaps.setBlock w b (.map es clock), ?_, ⟨rfl, rfl, rfl, by simp [ChangeMaps.setBlock], fun i _ hi => ChangeMaps.heap_setBlock_other hb _ (fun e => hi (by rw [e]))⟩, by simp [ChangeMaps.setBlock], .inl ⟨h1, ⟨es, clock, ChangeMaps.heap_setBlock_same hb _, he⟩⟩⟩
    simp [Builtin.delete_, run_underlying Try.underlying74, hg, checkPl, h2, MapKept.run_setObj_map _ hb, Result.andThen, ChangeMaps.setBlock]
  · have hjl : j < D.length := (List.getElem?_eq_some_iff.1 h3).1
    have hjs : j < es.size := by
      have := congrArg List.length he.ent
      simp at this
      omega
    have hl := erase_list es j hjs
    refine ⟨ChangeMaps.setBlock w b (.map (es.eraseIdxIfInBounds j) clock), ?_, ⟨rfl, rfl, rfl, by simp [ChangeMaps.setBlock], fun i _ hi => ChangeMaps.heap_setBlock_other hb _ (fun e => hi (by rw [e]))⟩, by simp [ChangeMaps.setBlock], .inr ⟨x, j, h1, h3, ⟨_, clock, ChangeMaps.heap_setBlock_same hb _, ⟨by rw [hl, map_erase, map_erase, he.ent], by rw [hl]; exact nodup_erase _ _ _ he.nod, fun y hy => he.old y ?_⟩⟩⟩⟩
    · simp [Builtin.delete_, run_underlying Try.underlying74, hg, checkPl, h2, MapKept.run_setObj_map _ hb, Result.andThen, ChangeMaps.setBlock]
    · rw [hl] at hy
      exact (List.eraseIdx_sublist _ _).subset hy

/-- Block r goes over the map in block b, which holds D; R is still to come. -/
def IterIs (w : World) (b r : Nat) (D R : List (Ch × Value)) : Prop := ∃ es clock since seen c0, w.heap[r]? = some (.mapIter (some b) since seen c0) ∧ w.heap[b]? = some (.map es clock) ∧ MapE es clock D ∧ (∀ x ∈ es.toList, x.born < since) ∧ since ≤ c0 ∧ since ≤ clock ∧ (leftOf es seen).toList.map entE = R.map entV
theorem IterIs.map {w : World} {b r : Nat} {D R : List (Ch × Value)} (h : IterIs w b r D R) : MapIs w b D := by
  obtain ⟨es, clock, _, _, _, _, h1, h2, _⟩ := h
  exact ⟨es, clock, h1, h2⟩
theorem IterIs.keep {w w' : World} {b r : Nat} {D R : List (Ch × Value)} (h : IterIs w b r D R) (hb : w'.heap[b]? = w.heap[b]?) (hr : w'.heap[r]? = w.heap[r]?) : IterIs w' b r D R := by
  obtain ⟨es, clock, since, seen, c0, h1, h2, h3⟩ := h
  exact ⟨es, clock, since, seen, c0, hr.trans h1, hb.trans h2, h3⟩
theorem IterIs.lt {w : World} {b r : Nat} {D R : List (Ch × Value)} (h : IterIs w b r D R) : b < w.heap.size ∧ r < w.heap.size ∧ b ≠ r := by
  obtain ⟨es, clock, since, seen, c0, h1, h2, _⟩ := h
  exact ⟨(Array.getElem?_eq_some_iff.1 h2).1, (Array.getElem?_eq_some_iff.1 h1).1, fun e => by rw [e, h1] at h2; cases h2⟩
theorem IterIs.below {w w' : World} {b r : Nat} {D R : List (Ch × Value)} (h : IterIs w b r D R) (hb : Below w.heap.size w w') : IterIs w' b r D R := h.keep (hb.block _ h.lt.1) (hb.block _ h.lt.2.1)
theorem leftOf_none (es : Array MapEntry) : (leftOf es #[]).toList = es.toList := by simp [leftOf]
theorem range_pl {w : World} {b : Nat} {D : List (Ch × Value)} (h : MapIs w b D) : ∃ o : Obj, (Instr.range 74 (.map (some b))).run Try.prog w = .ok (.pointer (some ⟨w.heap.size, 0, none⟩)) (w.alloc o) ∧ IterIs (w.alloc o) b w.heap.size D D := by
  obtain ⟨es, clock, hb, he⟩ := h
  have hlt : b < w.heap.size := (Array.getElem?_eq_some_iff.1 hb).1
  exact ⟨_, run_range_map w _ _ _ b es clock Try.underlying74 hb, es, clock, clock, #[], clock, heap_alloc_new w _, (Below.heap_alloc _ _ _ hlt).trans hb, he, he.old, Nat.le_refl _, Nat.le_refl _, by rw [leftOf_none]; exact he.ent⟩
theorem leftOf_push (es : Array MapEntry) (seen : Array Nat) (e : MapEntry) {L1 L2 : List MapEntry} (h : (leftOf es seen).toList = L1 ++ e :: L2) (hn : (es.toList.map (·.born)).Nodup) : (leftOf es (seen.push e.born)).toList = L1 ++ L2 := by
  have e1 : (leftOf es (seen.push e.born)).toList = (leftOf es seen).toList.filter fun x => !(x.born == e.born) := by
    unfold leftOf
    rw [Array.toList_filter, Array.toList_filter, List.filter_filter]
    congr 1
    funext x
    rw [Array.contains_push]
    cases h1 : seen.contains x.born <;> cases h2 : (x.born == e.born) <;> simp_all
  have hn2 : ((L1 ++ e :: L2).map (·.born)).Nodup := by
    rw [← h]
    unfold leftOf
    rw [Array.toList_filter]
    exact List.Nodup.sublist (List.filter_sublist.map _) hn
  rw [List.map_append, List.map_cons, List.nodup_append] at hn2
  obtain ⟨_, h2, h3⟩ := hn2
  rw [List.nodup_cons] at h2
  rw [e1, h, List.filter_append, List.filter_cons]
  have f1 : L1.filter (fun x => !(x.born == e.born)) = L1 := List.filter_eq_self.2 fun x hx => by
    have := h3 x.born (List.mem_map_of_mem hx) e.born (by simp)
    simpa using this
  have f2 : L2.filter (fun x => !(x.born == e.born)) = L2 := List.filter_eq_self.2 fun x hx => by
    have : x.born ≠ e.born := fun e2 => h2.1 (e2 ▸ List.mem_map_of_mem hx)
    simpa using this
  rw [f1, f2]
  simp
/-- A step: nothing is left, or one of those that are left comes. -/
theorem next_pl {w : World} {b r : Nat} {D R : List (Ch × Value)} (h : IterIs w b r D R) (ty : TypeId) :
    (R = [] ∧ (Instr.next (.pointer (some ⟨r, 0, none⟩)) false ty).run Try.prog w = .ok (.tuple #[.bool false]) w) ∨
    ∃ R1 x R2 w', R = R1 ++ x :: R2 ∧ (Instr.next (.pointer (some ⟨r, 0, none⟩)) false ty).run Try.prog w = .ok (.tuple #[.bool true, plV x.1.ar x.1.seq, chV x.1 x.2]) w' ∧ IterIs w' b r D (R1 ++ R2) ∧ w.grownBy w' (some r) ∧ w'.heap.size = w.heap.size ∧ (Instr.entry (.pointer (some ⟨r, 0, none⟩))).run Try.prog w' = .ok (.tuple #[plV x.1.ar x.1.seq, chV x.1 x.2]) w' := by
  have hne := h.lt.2.2
  obtain ⟨es, clock, since, seen, c0, hr, hb, he, hold, hs1, hs2, hl⟩ := h
  rcases run_next_at (P := Try.prog) w ty r b since c0 seen es clock hr hb hold hs1 with ⟨h0, hrun⟩ | ⟨e, hmem, w1, hal, hrun⟩
  · refine .inl ⟨?_, hrun⟩
    have : (leftOf es seen).toList = [] := by
      rw [← List.length_eq_zero_iff]
      simpa using h0
    rw [this] at hl
    simpa using hl.symm
  · obtain ⟨L1, L2, hL⟩ := List.append_of_mem hmem
    rw [hL, List.map_append, List.map_cons] at hl
    obtain ⟨R1, R', rfl, e1, e2⟩ := List.map_eq_append_iff.1 hl.symm
    obtain ⟨x, R2, rfl, e3, e4⟩ := List.map_eq_cons_iff.1 e2
    have e5 : e.key = plV x.1.ar x.1.seq ∧ e.val = chV x.1 x.2 := by
      have := e3.symm
      simp only [entE, entV, Prod.mk.injEq] at this
      exact this
    have hr1 : w1.heap[r]? = some (.mapIter (some b) since seen c0) := by rcases hal with rfl | rfl <;> exact hr
    have hb1 : w1.heap[b]? = some (.map es clock) := by rcases hal with rfl | rfl <;> exact hb
    have hz1 : w1.heap.size = w.heap.size := by rcases hal with rfl | rfl <;> rfl
    have hrlt : r < w1.heap.size := (Array.getElem?_eq_some_iff.1 hr1).1
    have hset : (ChangeMaps.setBlock w1 r (.mapIter (some b) since (seen.push e.born) clock)).heap[r]? = some (.mapIter (some b) since (seen.push e.born) clock) := by
      simp [ChangeMaps.setBlock, hrlt]
    have hoth : ∀ i, i ≠ r → (ChangeMaps.setBlock w1 r (.mapIter (some b) since (seen.push e.born) clock)).heap[i]? = w1.heap[i]? := fun i hi => by
      simp [ChangeMaps.setBlock, Array.getElem?_setIfInBounds, Ne.symm hi]
    have hmes : e ∈ es.toList := by
      have : e ∈ (leftOf es seen).toList := hmem
      unfold leftOf at this
      rw [Array.toList_filter] at this
      exact (List.mem_filter.1 this).1
    refine .inr ⟨R1, x, R2, _, rfl, by rw [hrun, e5.1, e5.2], ⟨es, clock, since, seen.push e.born, clock, hset, (hoth b hne).trans hb1, he, hold, hs2, hs2, ?_⟩, ?_, by simp [ChangeMaps.setBlock, hz1], ?_⟩
    · rw [leftOf_push es seen e hL he.nod, List.map_append, List.map_append, e1, e4]
    · rcases hal with rfl | rfl <;> exact ⟨rfl, rfl, rfl, by simp [ChangeMaps.setBlock, hz1], fun i _ hi => hoth i (fun e1 => hi (by rw [e1]))⟩
    · have := run_entry_at (P := Try.prog) _ r b since seen es clock e hset ((hoth b hne).trans hb1) hmes he.nod
      rw [this, e5.1, e5.2]

end Go.Proofs.Ythndgmnckpimmaa
