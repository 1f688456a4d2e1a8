/- Structs in memory, written in one step; stamps and places held against one another. -/
import Derived.Test.YtljepindfdhbbaaTrB
import Derived.Deep.MidRow
import Derived.Laws.CopyOwn
namespace Go.Proofs.Ytljepindfdhbbaa
open Go.RowKit
set_option linter.unusedVariables false
set_option linter.unusedSimpArgs false

theorem wp_store_row {P : Program} {op : Oper} {a : Act} {w : World} {K : Act → World → Prop} {Q : Exit → Act → World → Prop} (ty : TypeId) (x y : Operand) (ho : op.op = .store ty x y)
    (b : Nat) (t : TypeId) (c c' : Array Value) (hx : a.eval x = .pointer (some ⟨b, 0, none⟩)) (hy : a.eval y = .agg c') (hr : w.heap[b]? = some (.cells c t))
    (hi : (P.info? ty).map (·.size) = some c'.size) (hs : c.size = c'.size) (h1 : c'.all (·.oneCell') = true)
    (h : K (a.put op.dst undef) (w.setRow b c')) : op.wp P a w K Q := by
  unfold Oper.wp execOp
  simp only [ho, hx, hy, Instr.storeAt, Instr.sureAddr, Sem.run_bind, Sem.run_pure, Result.andThen_ok, run_storeVar_row w b t ty c c' hr hi hs h1]
  exact h
theorem wpList_store_row {P : Program} {ops : Array Oper} {rest : List Oper} {op : Oper} {a : Act} {w : World} {Q : Exit → Act → World → Prop} (hgd : op.guard = none) (ty : TypeId) (x y : Operand) (ho : op.op = .store ty x y)
    (b : Nat) (t : TypeId) (c c' : Array Value) (hx : a.eval x = .pointer (some ⟨b, 0, none⟩)) (hy : a.eval y = .agg c') (hr : w.heap[b]? = some (.cells c t))
    (hi : (P.info? ty).map (·.size) = some c'.size) (hs : c.size = c'.size) (h1 : c'.all (·.oneCell') = true)
    (h : wpList P ops Q rest (a.put op.dst undef) (w.setRow b c')) : wpList P ops Q (op :: rest) a w :=
  wpList_plain hgd fun _ hK => wp_store_row ty x y ho b t c c' hx hy hr hi hs h1 (hK _ _ h)
theorem step_store_row {P : Program} {ops : Array Oper} {o : Oper} {a : Act} {w : World} {K : Act → World → Prop} {Q : Exit → Act → World → Prop} {E : Prop} (hgd : o.guard = none) (ty : TypeId) (x y : Operand) (ho : o.op = .store ty x y)
    (b : Nat) (t : TypeId) (c c' : Array Value) (hx : a.eval x = .pointer (some ⟨b, 0, none⟩)) (hy : a.eval y = .agg c') (hr : w.heap[b]? = some (.cells c t))
    (hi : (P.info? ty).map (·.size) = some c'.size) (hs : c.size = c'.size) (h1 : c'.all (·.oneCell') = true)
    (h : K (a.put o.dst undef) (w.setRow b c')) : if Region.wanted o (yielded ops a.tmps) = true then Oper.wp P o a w K Q else E := by
  have hw : Region.wanted o (yielded ops a.tmps) = true := by simp [Region.wanted, hgd]
  rw [if_pos hw]
  exact wp_store_row ty x y ho b t c c' hx hy hr hi hs h1 h
theorem setRow_same {w : World} {b : Nat} {c c' : Array Value} {t : TypeId} (h : w.heap[b]? = some (.cells c t)) : (w.setRow b c').heap[b]? = some (.cells c' t) := setRow_heap w b c c' t _ h
theorem grown_setRow (W : World) (nb : Nat) (c : Array Value) : W.grownBy (W.setRow nb c) (some nb) := ⟨rfl, rfl, rfl, by simp, fun k hk hne => setRow_other W nb k c (fun e => hne (by rw [e]))⟩
theorem sizeStamp : (Try.prog.info? 27).map (·.size) = some 2 := by kernel_rfl
theorem sizePlaced : (Try.prog.info? 43).map (·.size) = some 6 := by kernel_rfl

theorem sizeMove : (Try.prog.info? 69).map (·.size) = some 13 := by kernel_rfl

/-- Equality of stamps, and of places. -/
theorem eqlSt (c r c2 r2 : Int) (w : World) : (binOp .eql 27 (.agg #[.int .i64 c, .int .i64 r]) (.agg #[.int .i64 c2, .int .i64 r2])).run Try.prog w = .ok (.bool (decide ((c, r) = (c2, r2)))) w := by
  have h := equalSt (c, r) (c2, r2) w
  simp only [binOp]
  have h2 : (Op.equal 27 (.agg #[.int .i64 c, .int .i64 r]) (.agg #[.int .i64 c2, .int .i64 r2])).run Try.prog w = _ := h
  simp only [Sem.run_bind, h2, Result.andThen_ok]
  rw [show decide ((c2, r2) = (c, r)) = decide ((c, r) = (c2, r2)) from decide_eq_decide.2 eq_comm]
  rfl
set_option maxRecDepth 100000 in
theorem equalPlD (p q : Pl) (w : World) : (Op.equal 43 (plV p) (plV q)).run Try.prog w = .ok (decide (p = q)) w := by
  obtain ⟨⟨a1, a2⟩, ⟨a3, a4⟩, ⟨a5, a6⟩⟩ := p
  obtain ⟨⟨b1, b2⟩, ⟨b3, b4⟩, ⟨b5, b6⟩⟩ := q
  have hS : Try.prog.underlying 43 = some (.struct (Try.prog.fieldsOf 43)) := by kernel_rfl
  have hp : Try.prog.stoodInHeld 43 = false := by kernel_rfl
  have hS2 : Try.prog.underlying 27 = some (.struct (Try.prog.fieldsOf 27)) := by kernel_rfl
  have hp2 : Try.prog.stoodInHeld 27 = false := by kernel_rfl
  have heq : ∀ c r c2 r2 : Int, (Op.equalIn 9999 27 (.agg #[.int .i64 c, .int .i64 r]) (.agg #[.int .i64 c2, .int .i64 r2])).run Try.prog w = .ok (decide ((c, r) = (c2, r2))) w := fun c r c2 r2 => by
    rw [show (9999 : Nat) = 9998 + 1 from rfl, run_equalIn_agg w 9998 27 _ _ hS2 hp2]
    simp only [Program.fieldsOf, Try.underlying27]
    go_simp
    by_cases h1 : c = c2 <;> by_cases h2 : r = r2 <;> simp [h1, h2]
  show (Op.equalIn 10000 43 (.agg #[.int .i64 a1, .int .i64 a2, .int .i64 a3, .int .i64 a4, .int .i64 a5, .int .i64 a6]) (.agg #[.int .i64 b1, .int .i64 b2, .int .i64 b3, .int .i64 b4, .int .i64 b5, .int .i64 b6])).run Try.prog w = _
  rw [show (10000 : Nat) = 9999 + 1 from rfl, run_equalIn_agg w 9999 43 _ _ hS hp]
  simp only [Program.fieldsOf, Try.underlying43]
  have hp0 : ∀ x0 x1 x2 x3 x4 x5 : Int, (part 27 #[.int .i64 x0, .int .i64 x1, .int .i64 x2, .int .i64 x3, .int .i64 x4, .int .i64 x5] 0).run Try.prog w = .ok (.agg #[.int .i64 x0, .int .i64 x1]) w := fun x0 x1 x2 x3 x4 x5 => by kernel_rfl
  have hp1 : ∀ x0 x1 x2 x3 x4 x5 : Int, (part 27 #[.int .i64 x0, .int .i64 x1, .int .i64 x2, .int .i64 x3, .int .i64 x4, .int .i64 x5] 2).run Try.prog w = .ok (.agg #[.int .i64 x2, .int .i64 x3]) w := fun x0 x1 x2 x3 x4 x5 => by kernel_rfl
  have hp3 : ∀ x0 x1 x2 x3 x4 x5 : Int, (part 27 #[.int .i64 x0, .int .i64 x1, .int .i64 x2, .int .i64 x3, .int .i64 x4, .int .i64 x5] 4).run Try.prog w = .ok (.agg #[.int .i64 x4, .int .i64 x5]) w := fun x0 x1 x2 x3 x4 x5 => by kernel_rfl
  have hd : decide ((⟨(a1, a2), (a3, a4), (a5, a6)⟩ : Pl) = ⟨(b1, b2), (b3, b4), (b5, b6)⟩) = (decide ((a1, a2) = (b1, b2)) && (decide ((a3, a4) = (b3, b4)) && decide ((a5, a6) = (b5, b6)))) := by
    rw [← Bool.decide_and, ← Bool.decide_and]
    exact decide_eq_decide.2 (by rw [Pl.mk.injEq])
  rw [hd]
  simp only [Op.eqFields]
  rw [if_pos (by decide)]
  simp only [Sem.run_bind, hp0, Result.andThen_ok, heq]
  cases decide ((a1, a2) = (b1, b2)) with
  | false => rfl
  | true =>
    rw [if_neg (by decide), if_pos (by decide)]
    simp only [Sem.run_bind, hp1, Result.andThen_ok, heq]
    cases decide ((a3, a4) = (b3, b4)) with
    | false => rfl
    | true =>
      rw [if_neg (by decide), if_pos (by decide)]
      simp only [Sem.run_bind, hp3, Result.andThen_ok, heq]
      cases decide ((a5, a6) = (b5, b6)) with
      | false => rfl
      | true => rfl
theorem eqlPl (p q : Pl) (w : World) : (binOp .eql 43 (plV p) (plV q)).run Try.prog w = .ok (.bool (decide (p = q))) w := by
  have h : (Op.equalIn 10000 43 (.agg (plCells p).toArray) (.agg (plCells q).toArray)).run Try.prog w = .ok (decide (p = q)) w := equalPlD p q w
  unfold plV
  rw [run_eql_struct, h]
  rfl
/-- What put and count make of the kids. -/
theorem kids_put1 {T : List Pl} (hs : SrtT T) {n : St} {q : Pl} (h : whT T n = some q) : updK (kidsN T) q.pr (kidsN T q.pr + -1) = kidsN (delT T n) := by
  funext m
  rw [kidsN_del hs, h]
  unfold updK
  by_cases e : m = q.pr
  · subst e; simp; omega
  · rw [if_neg e]
    simp only [if_neg (fun e2 : q.pr = m => e e2.symm)]
    omega
theorem kids_put2 {T : List Pl} (p : Pl) : updK (kidsN (delT T p.nd)) p.pr (kidsN (delT T p.nd) p.pr + 1) = kidsN (setT T p) := by
  funext m
  rw [kidsN_perm (set_perm p), kidsN_cons]
  unfold updK
  by_cases e : m = p.pr
  · subst e; simp; omega
  · rw [if_neg e, if_neg (fun e2 : p.pr = m => e e2.symm)]
    omega
theorem delT_length (T : List Pl) (n : St) : (delT T n).length ≤ T.length := List.length_filter_le _ _

end Go.Proofs.Ytljepindfdhbbaa
