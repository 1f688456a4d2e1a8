/- A list of changes that grows in a box, while other blocks stay. -/
import Derived.Test.YtngldpabfpcaiaaGreatOlX
namespace Go.Proofs.YtngldpabfpcaiaaGreat
open Go.RowKit Go.Shelf
set_option linter.unusedVariables false
set_option linter.unusedSimpArgs false

theorem cells_ne {W : World} {k : Nat} {cs : Array Value} {t : TypeId} {fr : Nat × Nat} (h : W.heap[k]? = some (.cells cs t fr)) {row : Option Nat} (hr : ∀ r, row = some r → ∃ o : Obj, W.heap[r]? = some o ∧ o.isCells = false) : row ≠ some k := fun e => by
  obtain ⟨o, h1, h2⟩ := hr k e
  rw [h] at h1
  cases h1
  cases h2
theorem ownsRow_own {W W' : World} {B : Nat} {e : TypeId} {size : Nat} {v : Value} {n : Nat} {xs : List Value} {row : Option Nat} (h : W.ownsRow B e size v n xs) (hg : W.grownBy W' row) (hr : ∀ r, row = some r → ∃ o : Obj, W.heap[r]? = some o ∧ o.isCells = false) : W'.ownsRow B e size v n xs :=
  ownsRow_keep h fun k ek => by
    obtain ⟨cur, hc⟩ := ownsRow_type h k ek
    exact hg.block k (Array.getElem?_eq_some_iff.1 hc).1 (fun e => cells_ne hc hr e.symm)
theorem row_own {W W' : World} {k : Nat} {cs : Array Value} {t : TypeId} {fr : Nat × Nat} {row : Option Nat} (h : W.heap[k]? = some (.cells cs t fr)) (hg : W.grownBy W' row) (hr : ∀ r, row = some r → ∃ o : Obj, W.heap[r]? = some o ∧ o.isCells = false) : W'.heap[k]? = some (.cells cs t fr) :=
  (hg.block k (Array.getElem?_eq_some_iff.1 h).1 (fun e => cells_ne h hr e.symm)).trans h

/-- The changes E lie in a row from block N on, their clocks, too; the row's value lies in the box b0; since W2 nothing of S has changed, since w nothing that lay there. -/
structure AllB (w W2 : World) (b0 : Nat) (S : Nat → Prop) (ov : Value) (E : List (Ch × Value)) (U : World) : Prop where
  box : Boxed U b0 22 ov
  own : OwnH W2.heap.size U ov E
  dep : ∀ x ∈ E, OwnI W2.heap.size U x.2 x.1.deps ∧ Sized x.1 ∧ x.1.deps.length ≤ 17592186044416
  bel : Below w.heap.size w U
  kp : KeepsH S W2 U
  b1 : w.heap.size ≤ b0
  b2 : b0 < W2.heap.size
  b3 : ¬ S b0
  b4 : w.heap.size ≤ W2.heap.size
section
variable {w W2 : World} {b0 : Nat} {S : Nat → Prop} {ov : Value} {E : List (Ch × Value)} {U U' : World}
theorem AllB.below (h : AllB w W2 b0 S ov E U) (hb : Below U.heap.size U U') : AllB w W2 b0 S ov E U' :=
  ⟨(hb.block b0 h.box.lt).trans h.box, h.own.below hb, fun x hx => ⟨(h.dep x hx).1.below hb, (h.dep x hx).2⟩, h.bel.trans (hb.mono h.bel.size), h.kp.below hb, h.b1, h.b2, h.b3, h.b4⟩
theorem AllB.size (h : AllB w W2 b0 S ov E U) : W2.heap.size ≤ U.heap.size := h.kp.1.1
theorem AllB.grown (h : AllB w W2 b0 S ov E U) {row : Option Nat} (hg : U.grownBy U' row) (hr : ∀ r, row = some r → W2.heap.size ≤ r ∧ ∃ o : Obj, U.heap[r]? = some o ∧ o.isCells = false) : AllB w W2 b0 S ov E U' := by
  have hr2 : ∀ r, row = some r → ∃ o : Obj, U.heap[r]? = some o ∧ o.isCells = false := fun r e => (hr r e).2
  refine ⟨row_own h.box hg hr2, ownsRow_own h.own hg hr2, fun x hx => ⟨ownsRow_own (h.dep x hx).1 hg hr2, (h.dep x hx).2⟩, h.bel.grown hg h.bel.size (fun j e => Nat.le_trans h.b4 (hr j e).1), ⟨h.kp.1.trans (KeepsS.of_grown hg (fun k hk => Nat.lt_of_lt_of_le (h.kp.2 k hk) h.size) (fun r e hS => by have := (hr r e).1; have := h.kp.2 r hS; omega)), h.kp.2⟩, h.b1, h.b2, h.b3, h.b4⟩
/-- Behind an append. -/
theorem AllB.push (h : AllB w W2 b0 S ov E U) {c : Ch} {dv v : Value} (hown : U'.ownsRow W2.heap.size 38 13 v (E.length + 1) (flatH E ++ chCells c dv)) (hg : U.grownBy U' ov.ownBlock) (ho : OwnI W2.heap.size U dv c.deps) (hs : Sized c ∧ c.deps.length ≤ 17592186044416) :
    AllB w W2 b0 S v (E ++ [(c, dv)]) (U'.setCell ⟨b0, 0, none⟩ v) := by
  have hrow : ∀ j, ov.ownBlock = some j → W2.heap.size ≤ j := fun j e => (World.ownsRow.lt h.own j e).1
  have hbx : Boxed U' b0 22 ov := h.box.kept hg (fun e => by have := hrow b0 e.symm; have := h.b2; omega)
  have hvb : ∀ j, v.ownBlock = some j → W2.heap.size ≤ j := fun j e => (World.ownsRow.lt hown j e).1
  have far : ∀ k, k ≠ b0 → (U'.setCell ⟨b0, 0, none⟩ v).heap[k]? = U'.heap[k]? := fun k hk => RowKit.Below.heap_setCell _ _ _ _ hk
  have dkeep : ∀ (d : Value) (l : List Int), OwnI W2.heap.size U d l → OwnI W2.heap.size (U'.setCell ⟨b0, 0, none⟩ v) d l := fun d l hd => OwnI.keepF hd fun k e => by
    have h1 := World.ownsRow.lt hd k e
    rw [far k (by have := h.b2; omega)]
    exact hg.block k h1.2 (fun e2 => ownsRow_apart hd h.own (by decide) k e e2.symm)
  refine ⟨hbx.set v, ?_, ?_, ?_, ⟨?_, h.kp.2⟩, h.b1, h.b2, h.b3, h.b4⟩
  · have h1 : OwnH W2.heap.size U' v (E ++ [(c, dv)]) := OwnH.snoc hown
    exact ownsRow_keep h1 fun k e => far k (by have := hvb k e; have := h.b2; omega)
  · intro x hx
    rcases List.mem_append.1 hx with hx | hx
    · exact ⟨dkeep _ _ (h.dep x hx).1, (h.dep x hx).2⟩
    · rw [List.mem_singleton] at hx
      subst hx
      exact ⟨dkeep _ _ ho, hs⟩
  · exact (h.bel.grown hg h.bel.size (fun j e => by have := hrow j e; have := h.b4; omega)).setCell (p := ⟨b0, 0, none⟩) h.b1 _
  · refine (h.kp.1.trans (KeepsS.of_grown hg (fun k hk => Nat.lt_of_lt_of_le (h.kp.2 k hk) h.size) (fun r e hS => by have := hrow r e; have := h.kp.2 r hS; omega))).trans ⟨by simp [World.setCell], fun k hk => far k (fun e => h.b3 (e ▸ hk))⟩
theorem AllB.isH (h : AllB w W2 b0 S ov E U) (hl : E.length ≤ 281474976710656) : IsH U ov (E.map Prod.fst) := OwnH.isH h.own hl (fun x hx => ⟨(h.dep x hx).1.isI (h.dep x hx).2.2, (h.dep x hx).2.1⟩)
/-- What is no cells and lies from N on stays where new memory is made, .. -/
theorem keepsFrom_below {B : Nat} {A C : World} (hb : Below A.heap.size A C) : KeepsFrom B A C := ⟨hb.size, fun k o _ hk _ => (hb.block k (Array.getElem?_eq_some_iff.1 hk).1).trans hk⟩
theorem keepsFrom_row {B : Nat} {A C : World} {e : TypeId} {size b : Nat} {v : Value} {n : Nat} {xs : List Value} (ho : A.ownsRow b e size v n xs) (hg : A.grownBy C v.ownBlock) : KeepsFrom B A C :=
  (KeepsOthers.of_grownBy hg (fun j o ej hj => by obtain ⟨cur, hc⟩ := ownsRow_type ho j ej; rw [hc] at hj; cases hj; rfl)).from B
theorem keepsFrom_set {B : Nat} (A : World) (p : Addr) (v : Value) : KeepsFrom B A (A.setCell p v) := (KeepsOthers.setCell A p v).from B
end
def KF (B : Nat) (A C : World) : Prop := KeepsFrom B A C
theorem KF.below {B : Nat} {A C C' : World} (h : KF B A C) (hb : Below C.heap.size C C') : KF B A C' := KeepsFrom.trans h (keepsFrom_below hb)
theorem wpListIn_store_new {F : Fence} {n : Nat} {P : Program} {ops : Array Oper} {rest : List Oper} {op : Oper} {a : Act} {w : World} {Q : Exit → Act → World → Prop} (hgd : op.guard = none) (ty : TypeId) (x y : Operand) (ho : op.op = .store ty x y)
    (c c' : Array Value) (hx : a.eval x = .pointer (some ⟨w.heap.size, 0, none⟩)) (hy : a.eval y = .agg c')
    (hi : (P.info? ty).map (·.size) = some c'.size) (hs : c.size = c'.size) (h1 : c'.all (·.oneCell') = true)
    (h : wpListIn F n P ops Q rest (a.put op.dst undef) (w.alloc (.cells c' ty))) : wpListIn F n P ops Q (op :: rest) a (w.alloc (.cells c ty)) := by
  refine wpListIn_plain hgd fun K hK => ?_
  unfold Oper.wpIn
  refine ⟨?_, ?_⟩
  · simp [Oper.about, ho]
  · rw [Oper.semAt_plain F _ _ (by rw [ho]; intro c hc'; cases hc')]
    unfold execOp
    simp only [ho, hx, hy, Sem.run_bind, run_storeAt_new w ty c c' hi hs h1, Result.andThen_ok, Sem.run_pure]
    exact hK _ _ h

end Go.Proofs.YtngldpabfpcaiaaGreat
