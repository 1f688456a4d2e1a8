/- A whole row of what was sent appended, in a region that draws its order; what a call makes of the list. -/
import Derived.Test.YtlcnfoljkcfplaaDsE
import Derived.Test.YtlcnfoljkcfplaaDsH
namespace Go.Proofs.Ytlcnfoljkcfplaa
open Go.RowKit
set_option linter.unusedVariables false
set_option linter.unusedSimpArgs false

theorem step_appSs {w : World} {ops : Array Oper} {o : Oper} {a : Act} {K : Act → World → Prop} {Q : Exit → Act → World → Prop} {X : Prop} (hgd : o.guard = none) (s x : Operand)
    (ho : o.op = .call { callee := .builtin .append, args := #[s, x], argTypes := #[28, 28] })
    (B : Nat) (ov : Value) (E : List (Sn × Value)) (hs : a.eval s = ov) (hown : OwnS B w ov E) (b o0 : Nat) (m c : Nat) (E2 : List (Sn × Value)) (hx : a.eval x = .slice (some ⟨b, o0, none⟩) m c) (hm : E2.length = m)
    (hc : ∀ j u, (flatS E2)[j]? = some u → w.cell? ⟨b, o0 + j, none⟩ = some u) (hv : ∀ x ∈ E2, ∃ a n c, x.2 = .slice a n c) (hl : E.length + E2.length ≤ 8192) (hB : B ≤ w.heap.size)
    (h : ∀ v' w', OwnS B w' v' (E ++ E2) → w.grownBy w' ov.ownBlock → K (a.put o.dst v') w') :
    if Region.wanted o (yielded ops a.tmps) = true then Oper.wp Try.prog o a w K Q else X := by
  obtain ⟨i0, hi, hz0, hz1, hz2⟩ := info_parts infoSn
  subst hm
  have hw : Region.wanted o (yielded ops a.tmps) = true := by simp [Region.wanted, hgd]
  rw [if_pos hw]
  refine wp_append_own _ s x 28 ho B 76 i0 (.agg #[.int .i64 0, .int .i64 0, .slice none 0 0, .bool false]) 4 48 Try.underlying28 hi hz0 hz1 hz2 rfl (by decide) ov E.length (flatS E) hs hown ⟨b, o0, none⟩ E2.length c (flatS E2) hx (flatS_length E2) ?_ ?_ (by unfold maxLen; omega) (by omega) hB ?_
  · intro j u hj
    rw [Addr.add_lit]
    exact hc j u hj
  · intro u hu
    obtain ⟨y, hy, hu⟩ := List.mem_flatMap.1 hu
    obtain ⟨a1, n1, c1, e1⟩ := hv y hy
    rw [e1] at hu
    simp [snCells] at hu
    rcases hu with rfl | rfl | rfl | rfl <;> rfl
  · intro v' w' h1 h2 _
    refine h v' w' ?_ h2
    unfold OwnS
    rw [flatS_app, List.length_append]
    exact h1
/-- A row of what was sent that the call made itself, whose bytes are old ones of G, or own ones. -/
structure PutS (G : Nat → Prop) (N : Nat) (w : World) (v : Value) (E : List (Sn × Value)) (U : World) : Prop where
  own : OwnS N U v E
  dep : ∀ x ∈ E, IsBG G U x.2 x.1.p
  le : N ≤ U.heap.size
  gl : ∀ k, G k → k < N
  bel : Below w.heap.size w U
  wN : w.heap.size ≤ N
section
variable {G : Nat → Prop} {N : Nat} {w : World} {v ov : Value} {E E2 : List (Sn × Value)} {U U' : World}
theorem PutS.below (h : PutS G N w v E U) (hb : Below U.heap.size U U') : PutS G N w v E U' :=
  ⟨h.own.below hb, fun x hx => (h.dep x hx).keep fun k q => hb.block k (Nat.lt_of_lt_of_le (h.gl k q) h.le), Nat.le_trans h.le hb.size, h.gl, h.bel.trans (hb.mono h.bel.size), h.wN⟩
theorem PutS.pushs (h : PutS G N w ov E U) (hown : OwnS N U' v (E ++ E2)) (hg : U.grownBy U' ov.ownBlock) (hd : ∀ x ∈ E2, IsBG G U x.2 x.1.p) : PutS G N w v (E ++ E2) U' := by
  have hrow : ∀ j, ov.ownBlock = some j → N ≤ j := fun j e => (World.ownsRow.lt h.own j e).1
  have hk : ∀ k, G k → U'.heap[k]? = U.heap[k]? := fun k q => hg.block k (Nat.lt_of_lt_of_le (h.gl k q) h.le) (fun e => by have := hrow k e.symm; have := h.gl k q; omega)
  refine ⟨hown, fun x hx => ?_, Nat.le_trans h.le hg.size, h.gl, h.bel.grown hg h.bel.size (fun j e => by have := hrow j e; have := h.wN; omega), h.wN⟩
  rcases List.mem_append.1 hx with hx | hx
  · exact (h.dep x hx).keep hk
  · exact (hd x hx).keep hk
theorem PutS.firm (h : PutS G N w v E U) (hl : E.length ≤ 281474976710656) : SFirm (fun k => G k ∨ (N ≤ k ∧ k < U.heap.size)) U v (E.map Prod.fst) :=
  SFirm.ofOwn h.own hl h.dep (fun k q => .inl q) (fun k h1 h2 => .inr ⟨h1, h2⟩) (fun k q => q.elim (fun q => Nat.lt_of_lt_of_le (h.gl k q) h.le) (fun q => q.2))
end

end Go.Proofs.Ytlcnfoljkcfplaa
