/- 'append(out, x...)' of numbers; rows of texts that the call made itself. -/
import Derived.Test.YthndgmnckpimmaaOlB
namespace Go.Proofs.Ythndgmnckpimmaa
open Go.RowKit
set_option linter.unusedVariables false

theorem OwnI.more {B : Nat} {w : World} {v : Value} {D E : List Int} {n : Nat} {cs : List Value} (h : w.ownsRow B 3 1 v n cs) (hn : n = D.length + E.length) (hc : cs = cellsI D ++ cellsI E) : OwnI B w v (D ++ E) := by
  subst hn hc
  unfold OwnI
  have e : cellsI (D ++ E) = cellsI D ++ cellsI E := by simp [cellsI]
  rw [e, List.length_append]
  exact h

/-- 'append(out, b...)', out a row of the call's own, b any slice of numbers. -/
theorem wpList_appI {w : World} {ops : Array Oper} {rest : List Oper} {o : Oper} {a : Act} {Q : Exit → Act → World → Prop} (hgd : o.guard = none) (s x : Operand)
    (ho : o.op = .call { callee := .builtin .append, args := #[s, x], argTypes := #[31, 31] })
    (B : Nat) (v : Value) (D : List Int) (hs : a.eval s = v) (hown : OwnI B w v D) (hB : B ≤ w.heap.size) (vx : Value) (p : List Int) (hx : a.eval x = vx) (hv : IsI w vx p) (hl : D.length + p.length ≤ 17592186044416)
    (h : ∀ v' w', OwnI B w' v' (D ++ p) → w.grownBy w' v.ownBlock → wpList Try.prog ops Q rest (a.put o.dst v') w') : wpList Try.prog ops Q (o :: rest) a w := by
  obtain ⟨i0, hi, hz0, hz1, hz2⟩ := info_parts infoInt
  obtain ⟨a1, c1, rfl, hc1, hl1, r1⟩ := hv
  cases a1 with
  | none =>
    obtain rfl : p = [] := by rcases r1 with h | ⟨b, o, h, _⟩; exact h; cases h
    have hcl : ∀ ty, (Builtin.append_ #[31, 31] ty #[v, .slice none 0 c1]).run Try.prog w = .ok v w := fun ty => by
      rcases hown.2 with ⟨rfl, h0⟩ | ⟨g, cap, cur, rfl, _, _, hnc, _⟩
      · simp [Builtin.append_, run_underlying Try.underlying31, sizeOf, typeInfo, hi, Builtin.lenOf, Builtin.firstCells]
      · simp [Builtin.append_, run_underlying Try.underlying31, sizeOf, typeInfo, hi, Builtin.lenOf, Builtin.firstCells, hnc, storeCells]
    refine wpList_plain hgd fun K hK => ?_
    unfold Oper.wp
    simp only [List.length_nil] at hx
    simp [execOp, ho, resolve, invoke, builtin, hs, hx, hcl, Result.andThen]
    exact hK _ _ (h _ _ (by rw [List.append_nil]; exact hown) (grownBy.same _ _))
  | some ad =>
    refine wpList_append_own _ hgd s x 31 ho B 3 i0 (.int .i64 0) 1 8 Try.underlying31 hi hz0 hz1 hz2 rfl (by decide) _ _ _ hs hown ad p.length c1 (cellsI p) hx (cellsI_length p) ?_ (cellsI_one p) (by unfold maxLen; omega) (by omega) hB ?_
    · intro j u hj
      rcases r1 with rfl | ⟨b, o, e, g⟩
      · simp [cellsI] at hj
      · cases e
        exact g.news j u hj
    · intro v3 w3 hown3 hgrow _
      exact h v3 w3 (OwnI.more hown3 rfl rfl) hgrow

/-- 'append(out, b...)' in a region that draws its order. -/
theorem step_appI {w : World} {ops : Array Oper} {o : Oper} {a : Act} {K : Act → World → Prop} {Q : Exit → Act → World → Prop} {E : Prop} (hgd : o.guard = none) (s x : Operand)
    (ho : o.op = .call { callee := .builtin .append, args := #[s, x], argTypes := #[31, 31] })
    (B : Nat) (v : Value) (D : List Int) (hs : a.eval s = v) (hown : OwnI B w v D) (hB : B ≤ w.heap.size) (ad : Addr) (m c : Nat) (p : List Int) (hx : a.eval x = .slice (some ad) m c) (hv : IsI w (.slice (some ad) m c) p) (hl : D.length + p.length ≤ 17592186044416)
    (h : ∀ v' w', OwnI B w' v' (D ++ p) → w.grownBy w' v.ownBlock → K (a.put o.dst v') w') :
    if Region.wanted o (yielded ops a.tmps) = true then Oper.wp Try.prog o a w K Q else E := by
  obtain ⟨i0, hi, hz0, hz1, hz2⟩ := info_parts infoInt
  have hw : Region.wanted o (yielded ops a.tmps) = true := by simp [Region.wanted, hgd]
  rw [if_pos hw]
  obtain ⟨a1, c1, e, hc1, hl1, r1⟩ := hv
  cases e
  refine wp_append_own _ s x 31 ho B 3 i0 (.int .i64 0) 1 8 Try.underlying31 hi hz0 hz1 hz2 rfl (by decide) _ _ _ hs hown ad p.length c (cellsI p) hx (cellsI_length p) ?_ (cellsI_one p) (by unfold maxLen; omega) (by omega) hB ?_
  · intro j u hj
    rcases r1 with rfl | ⟨b, o, e, g⟩
    · simp [cellsI] at hj
    · cases e
      exact g.news j u hj
  · intro v3 w3 hown3 hgrow _
    exact h v3 w3 (OwnI.more hown3 rfl rfl) hgrow


end Go.Proofs.Ythndgmnckpimmaa
