/- A map of changes by their stamps, in memory: what a block that is one holds, a look-up in it, a store at a stamp that is not there. -/
import Derived.Test.YtngldpabfpcaiaaGreatOlA
import Derived.Test.YtngldpabfpcaiaaGreatPlainL
import Derived.Laws.StructEq
import Derived.Maps.Own
import Derived.Maps.OwnOps
namespace Go.Proofs.YtngldpabfpcaiaaGreat
open Go.RowKit
set_option linter.unusedVariables false
set_option linter.unusedSimpArgs false

/-- A stamp and a change as values. -/
def stV (c r : Int) : Value := .agg #[.int .i64 c, .int .i64 r]
def chV (c : Ch) (dv : Value) : Value := .agg (chCells c dv).toArray
def zeroV : Value := .agg #[.int .i64 0, .int .i64 0, .int .i64 0, .slice none 0 0, .int .i64 0, .int .i64 0, .int .i64 0, .int .i64 0, .int .i64 0, .int .i64 0, .int .i64 0, .string ⟨#[]⟩, .string ⟨#[]⟩]
/-- The block is a map of these changes, in the order in which they came. -/
def MapIs (w : World) (b : Nat) (D : List (Ch × Value)) : Prop := ∃ es clock, w.heap[b]? = some (.map es clock) ∧ es.toList.map (fun e => (e.key, e.val)) = D.map fun x => (stV x.1.ac x.1.ar, chV x.1 x.2)
def isAtB (c r c2 r2 : Int) : Bool := decide (c2 = c ∧ r2 = r)
def getD (D : List (Ch × Value)) (c r : Int) : Option (Ch × Value) := D.find? fun x => isAt c r x.1

theorem checkSt (em : Bool) (c r : Int) (w : World) : (Instr.checkKey em 10000 36 (stV c r)).run Tryz.prog w = .ok () w := by
  cases em <;> kernel_rfl
theorem zeroCh (w : World) : (zeroValue 38).run Tryz.prog w = .ok zeroV w := by kernel_rfl
theorem equalSt (c r c2 r2 : Int) (w : World) : (Op.equal 36 (stV c r) (stV c2 r2)).run Tryz.prog w = .ok (isAtB c r c2 r2) w := by
  have hS : Tryz.prog.underlying 36 = some (.struct (Tryz.prog.fieldsOf 36)) := by kernel_rfl
  have hp : Tryz.prog.stoodInHeld 36 = false := by kernel_rfl
  show (Op.equalIn 10000 36 (.agg #[.int .i64 c, .int .i64 r]) (.agg #[.int .i64 c2, .int .i64 r2])).run Tryz.prog w = _
  rw [show (10000 : Nat) = 9999 + 1 from rfl, run_equalIn_agg w 9999 36 _ _ hS hp]
  simp only [Program.fieldsOf, Tryz.underlying36]
  go_simp
  unfold isAtB
  by_cases h1 : c = c2 <;> by_cases h2 : r = r2 <;> simp [h1, h2, eq_comm]
theorem sameNow_st (f : Array Field) (k k2 : Value) : Instr.sameNow (.struct f) k k2 = none := by unfold Instr.sameNow; rfl
theorem findAsk (c r : Int) (w : World) : ∀ (es : List MapEntry) (D : List (Ch × Value)) (i : Nat), es.map (fun e => (e.key, e.val)) = D.map (fun x => (stV x.1.ac x.1.ar, chV x.1 x.2)) →
    ((getD D c r = none ∧ (Instr.findAsking 36 (stV c r) es i).run Tryz.prog w = .ok none w) ∨ ∃ x j, getD D c r = some x ∧ (Instr.findAsking 36 (stV c r) es i).run Tryz.prog w = .ok (some (j, chV x.1 x.2)) w)
  | [], D, i, h => by
    have : D = [] := by simpa using h.symm
    subst this
    exact .inl ⟨rfl, rfl⟩
  | e :: es, [], i, h => by simp at h
  | e :: es, y :: D, i, h => by
    simp only [List.map_cons, List.cons.injEq, Prod.mk.injEq] at h
    obtain ⟨⟨hk, hv⟩, ht⟩ := h
    have ih := findAsk c r w es D (i + 1) ht
    unfold Instr.findAsking getD
    rw [List.find?_cons]
    have he := equalSt c r y.1.ac y.1.ar w
    rw [← hk] at he
    have hb : isAtB c r y.1.ac y.1.ar = isAt c r y.1 := rfl
    rw [hb] at he
    cases hx : isAt c r y.1 with
    | true =>
      rw [hx] at he
      refine .inr ⟨y, i, rfl, ?_⟩
      simp only [Sem.run_bind, he, Result.andThen_ok, if_true, hv]
      rfl
    | false =>
      rw [hx] at he
      simp only [Sem.run_bind, he, Result.andThen_ok, Bool.false_eq_true, if_false]
      exact ih
theorem find_st (c r : Int) (w : World) (es : List MapEntry) (D : List (Ch × Value)) (h : es.map (fun e => (e.key, e.val)) = D.map (fun x => (stV x.1.ac x.1.ar, chV x.1 x.2))) :
    (getD D c r = none ∧ (Instr.findKey 36 (stV c r) es).run Tryz.prog w = .ok none w) ∨ ∃ x j, getD D c r = some x ∧ (Instr.findKey 36 (stV c r) es).run Tryz.prog w = .ok (some (j, chV x.1 x.2)) w := by
  have hu := run_underlying (w := w) Tryz.underlying36
  unfold Instr.findKey
  cases es with
  | nil =>
    have : D = [] := by simpa using h.symm
    subst this
    refine .inl ⟨rfl, ?_⟩
    simp only [Sem.run_bind, hu, Result.andThen_ok, Instr.findNow]
    rfl
  | cons e es =>
    have := findAsk c r w (e :: es) D 0 h
    simp only [Sem.run_bind, hu, Result.andThen_ok, Instr.findNow, sameNow_st]
    exact this

/-- A look-up. -/
theorem look_st {w : World} {b : Nat} {D : List (Ch × Value)} (h : MapIs w b D) (c r : Int) : (Instr.lookup 73 (.map (some b)) (stV c r) true).run Tryz.prog w = .ok (match getD D c r with | some x => .tuple #[chV x.1 x.2, .bool true] | none => .tuple #[zeroV, .bool false]) w := by
  obtain ⟨es, clock, hb, he⟩ := h
  have hg : (getObj b).run Tryz.prog w = .ok (.map es clock) w := MapKept.run_getObj_map hb
  rcases find_st c r w es.toList D he with ⟨h1, h2⟩ | ⟨x, j, h1, h2⟩
  · rw [h1]
    simp [Instr.lookup, run_underlying Tryz.underlying73, hg, checkSt, h2, zeroCh, Result.andThen]
    try rfl
  · rw [h1]
    simp [Instr.lookup, run_underlying Tryz.underlying73, hg, checkSt, h2, Result.andThen]
theorem look1_st {w : World} {b : Nat} {D : List (Ch × Value)} (h : MapIs w b D) (c r : Int) : (Instr.lookup 73 (.map (some b)) (stV c r) false).run Tryz.prog w = .ok (match getD D c r with | some x => chV x.1 x.2 | none => zeroV) w := by
  obtain ⟨es, clock, hb, he⟩ := h
  have hg : (getObj b).run Tryz.prog w = .ok (.map es clock) w := MapKept.run_getObj_map hb
  rcases find_st c r w es.toList D he with ⟨h1, h2⟩ | ⟨x, j, h1, h2⟩
  · rw [h1]
    simp [Instr.lookup, run_underlying Tryz.underlying73, hg, checkSt, h2, zeroCh, Result.andThen]
    try rfl
  · rw [h1]
    simp [Instr.lookup, run_underlying Tryz.underlying73, hg, checkSt, h2, Result.andThen]
/-- A store at a stamp that is not there. -/
theorem store_st {w : World} {b : Nat} {D : List (Ch × Value)} (h : MapIs w b D) (c : Ch) (dv : Value) (hn : getD D c.ac c.ar = none) : ∃ w', (Instr.mapUpdate 73 (.map (some b)) (stV c.ac c.ar) (chV c dv)).run Tryz.prog w = .ok () w' ∧ MapIs w' b (D ++ [(c, dv)]) ∧ w.grownBy w' (some b) := by
  obtain ⟨es, clock, hb, he⟩ := h
  have hg : (getObj b).run Tryz.prog w = .ok (.map es clock) w := MapKept.run_getObj_map hb
  rcases find_st c.ac c.ar w es.toList D he with ⟨h1, h2⟩ | ⟨x, j, h1, h2⟩
  · refine ⟨ChangeMaps.setBlock w b (.map (es.push { key := stV c.ac c.ar, val := chV c dv, born := clock }) (clock + 1)), ?_, ⟨_, _, ChangeMaps.heap_setBlock_same hb _, by simp [he]⟩, ⟨rfl, rfl, rfl, by simp [ChangeMaps.setBlock], fun i _ hi => ChangeMaps.heap_setBlock_other hb _ (fun e => hi (by rw [e]))⟩⟩
    simp [Instr.mapUpdate, run_underlying Tryz.underlying73, hg, checkSt, h2, MapKept.run_setObj_map _ hb, Result.andThen]
    try rfl
  · rw [hn] at h1; cases h1

end Go.Proofs.YtngldpabfpcaiaaGreat
