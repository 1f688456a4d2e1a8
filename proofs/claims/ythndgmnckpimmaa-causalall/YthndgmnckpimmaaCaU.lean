/- A row of changes of the call's own, their clocks, too; a change appended. -/
import Derived.Test.YthndgmnckpimmaaCaK
import Derived.Test.YthndgmnckpimmaaCaM
import Derived.Test.YthndgmnckpimmaaOlC
import Derived.Deep.AppendLies
namespace Go.Proofs.Ythndgmnckpimmaa
open Go.RowKit
set_option linter.unusedVariables false
set_option linter.unusedSimpArgs false

/-- A row of changes and their clocks, all from block N on. -/
structure AccH (N : Nat) (ov : Value) (E : List (Ch × Value)) (U : World) : Prop where
  own : OwnH N U ov E
  dep : ∀ x ∈ E, OwnI N U x.2 x.1.deps ∧ Sized x.1 ∧ x.1.deps.length ≤ 17592186044416
  le : N ≤ U.heap.size
section
variable {N : Nat} {ov v : Value} {E : List (Ch × Value)} {U U' : World}
theorem AccH.keep (h : AccH N ov E U) (hs : U.heap.size ≤ U'.heap.size) (hk : ∀ k, N ≤ k → k < U.heap.size → U'.heap[k]? = U.heap[k]?) : AccH N ov E U' :=
  ⟨ownsRow_keep h.own fun k e => hk k (World.ownsRow.lt h.own k e).1 (World.ownsRow.lt h.own k e).2, fun x hx => ⟨ownsRow_keep (h.dep x hx).1 fun k e => hk k (World.ownsRow.lt (h.dep x hx).1 k e).1 (World.ownsRow.lt (h.dep x hx).1 k e).2, (h.dep x hx).2⟩, Nat.le_trans h.le hs⟩
theorem AccH.below (h : AccH N ov E U) (hb : Below U.heap.size U U') : AccH N ov E U' := h.keep hb.size fun k _ h2 => hb.block k h2
theorem AccH.nil (N : Nat) (U : World) (h : N ≤ U.heap.size) : AccH N (.slice none 0 0) [] U := ⟨OwnH.nil0 _ _, fun x hx => by simp at hx, h⟩
theorem AccH.push (h : AccH N ov E U) {c : Ch} {dv : Value} (hown : OwnH N U' v (E ++ [(c, dv)])) (hg : U.grownBy U' ov.ownBlock) (hd : OwnI N U dv c.deps) (hs : Sized c ∧ c.deps.length ≤ 17592186044416) : AccH N v (E ++ [(c, dv)]) U' := by
  have dk : ∀ (d : Value) (l : List Int), OwnI N U d l → OwnI N U' d l := fun d l q => OwnI.keepF q fun k e => hg.block k (World.ownsRow.lt q k e).2 (fun e2 => ownsRow_apart q h.own (by decide) k e e2.symm)
  refine ⟨hown, fun x hx => ?_, Nat.le_trans h.le hg.size⟩
  rcases List.mem_append.1 hx with hx | hx
  · exact ⟨dk _ _ (h.dep x hx).1, (h.dep x hx).2⟩
  · rw [List.mem_singleton] at hx
    subst hx
    exact ⟨dk _ _ hd, hs⟩
theorem AccH.low (h : AccH N ov E U) {M : Nat} (hM : M ≤ N) : AccH M ov E U := ⟨ownsRow_low h.own hM, fun x hx => ⟨OwnI.low (h.dep x hx).1 hM, (h.dep x hx).2⟩, Nat.le_trans hM h.le⟩
theorem AccH.isH (h : AccH N ov E U) (hl : E.length ≤ 281474976710656) : IsH U ov (E.map Prod.fst) := h.own.isH hl fun x hx => ⟨OwnI.isI (h.dep x hx).1 (h.dep x hx).2.2, (h.dep x hx).2.1⟩
end

theorem wpList_appH {w : World} {ops : Array Oper} {rest : List Oper} {o : Oper} {a : Act} {Q : Exit → Act → World → Prop} (hgd : o.guard = none) (s x : Operand)
    (ho : o.op = .call { callee := .builtin .append, args := #[s, x], argTypes := #[28, 28] })
    (B : Nat) (ov : Value) (E : List (Ch × Value)) (hs : a.eval s = ov) (hown : OwnH B w ov E) (g0 : Nat) (c : Ch) (a0 : Option Addr) (n0 c0 : Nat) (hx : a.eval x = .slice (some ⟨g0, 0, none⟩) 1 1) (hc : w.heap[g0]? = some (.cells (chCells c (.slice a0 n0 c0)).toArray 35))
    (hl : E.length ≤ 4096) (hB : B ≤ w.heap.size)
    (h : ∀ g cap w', OwnH B w' (.slice (some ⟨g, 0, none⟩) (E.length + 1) cap) (E ++ [(c, .slice a0 n0 c0)]) → w.grownBy w' ov.ownBlock → (ov.ownBlock = some g ∨ g = w.heap.size) → g < w'.heap.size → wpList Try.prog ops Q rest (a.put o.dst (.slice (some ⟨g, 0, none⟩) (E.length + 1) cap)) w') :
    wpList Try.prog ops Q (o :: rest) a w := by
  obtain ⟨i0, hi, hz0, hz1, hz2⟩ := info_parts infoChange
  refine wpList_append_lies _ hgd s x 28 ho B 35 i0 (.agg #[.int .i64 0, .int .i64 0, .int .i64 0, .slice none 0 0, .int .i64 0, .int .i64 0, .int .i64 0, .int .i64 0, .int .i64 0, .int .i64 0, .int .i64 0, .string ⟨#[]⟩, .string ⟨#[]⟩]) 13 136 Try.underlying28 hi hz0 hz1 hz2 rfl (by decide) ov E.length (flatH E) hs hown ⟨g0, 0, none⟩ 1 1 (chCells c (.slice a0 n0 c0)) hx rfl ?_ ?_ (by decide) (by unfold maxLen; omega) (by omega) hB _ rfl ?_
  · intro j u hj
    rw [Addr.add_lit, cell_of_row _ g0 _ _ _ _ hc]
    simpa using hj
  · intro u hu
    simp [chCells] at hu
    rcases hu with rfl | rfl | rfl | rfl | rfl | rfl | rfl | rfl | rfl | rfl | rfl | rfl | rfl <;> rfl
  · intro g cap w' h1 h2 h3 h4
    exact h g cap w' (OwnH.snoc h1) h2 h3 h4

end Go.Proofs.Ythndgmnckpimmaa
