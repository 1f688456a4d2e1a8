/- The work of package patch in memory. -/
import Derived.Test.YtccpljllgpabnabPaB
import Derived.Test.YtccpljllgpabnabPlainPf
import Derived.Test.YtccpljllgpabnabVtW
import Derived.Deep.LoopGhost
import Derived.LaidEql
namespace Go.Proofs.Ytccpljllgpabnab
open Go.RowKit
set_option linter.unusedVariables false
set_option linter.unusedSimpArgs false

/-- The work: its map, its topmost node, its hand; its nodes; each one's attributes lie in a block of their own; all of it is newer than a block. -/
structure PwM (B wb bm bh : Nat) (top : Option Nat) (X : Nat → Prop) (g : Gr) (D : List (St × Nat)) (W : World) : Prop where
  wr : W.heap[wb]? = some (.cells #[.map (some bm), ptr top, ptr (some bh)] 54)
  mp : MapIs Prod.fst (fun e => ptr (some e.2)) W bm D
  mem : GMem X W g
  at_ : ∀ b, X b → OwnAt B W (g.av b) (g.o b).at_
  ap : ∀ b c k, X b → X c → (g.av b).ownBlock = some k → (g.av c).ownBlock = some k → b = c
  lo : B ≤ wb ∧ B ≤ bm ∧ ∀ b, X b → B ≤ b
section
variable {B wb bm bh : Nat} {top : Option Nat} {X : Nat → Prop} {g g' : Gr} {D : List (St × Nat)} {W W' : World}
theorem PwM.below (h : PwM B wb bm bh top X g D W) (hb : Below W.heap.size W W') : PwM B wb bm bh top X g D W' := ⟨(hb.block _ (row_lt h.wr)).trans h.wr, h.mp.keep (hb.block _ h.mp.lt), h.mem.keep fun b q => hb.block _ (h.mem.lt q), fun b q => OwnE.below (h.at_ b q) hb, h.ap, h.lo⟩
theorem PwM.drew (h : PwM B wb bm bh top X g D W) : PwM B wb bm bh top X g D W.drew := h.below (Below.refl _ _).drew
theorem PwM.c0 (h : PwM B wb bm bh top X g D W) : W.cell? ⟨wb, 0, none⟩ = some (.map (some bm)) := by rw [cell_of_row W wb 0 _ _ _ h.wr]; rfl
theorem PwM.c1 (h : PwM B wb bm bh top X g D W) : W.cell? ⟨wb, 1, none⟩ = some (ptr top) := by rw [cell_of_row W wb 1 _ _ _ h.wr]; rfl
theorem PwM.c2 (h : PwM B wb bm bh top X g D W) : W.cell? ⟨wb, 2, none⟩ = some (.pointer (some ⟨bh, 0, none⟩)) := by rw [cell_of_row W wb 2 _ _ _ h.wr]; rfl
theorem PwM.le (h : PwM B wb bm bh top X g D W) : B ≤ W.heap.size := Nat.le_trans h.lo.1 (Nat.le_of_lt (row_lt h.wr))
theorem PwM.wX (h : PwM B wb bm bh top X g D W) : ¬ X wb := fun hx => by
  have h1 := h.mem wb hx
  rw [h.wr] at h1
  injection h1 with h1
  injection h1 with h1 h2
  revert h2
  decide
theorem PwM.mX (h : PwM B wb bm bh top X g D W) : ¬ X bm := fun hx => by
  have h1 := h.mem bm hx
  obtain ⟨es, cl, h2, _⟩ := h.mp
  rw [h2] at h1
  cases h1
theorem PwM.wm (h : PwM B wb bm bh top X g D W) : wb ≠ bm := fun e => by
  obtain ⟨es, cl, h2, _⟩ := h.mp
  have h1 := h.wr
  rw [e, h2] at h1
  cases h1
theorem PwM.aT (h : PwM B wb bm bh top X g D W) {b k : Nat} (hb : X b) (hk : (g.av b).ownBlock = some k) : ¬ X k ∧ k ≠ wb ∧ k ≠ bm := by
  obtain ⟨cur, h1⟩ := ownsRow_type (h.at_ b hb) k hk
  refine ⟨fun hx => ?_, fun e => ?_, fun e => ?_⟩
  · have h2 := h.mem k hx
    rw [h1] at h2
    injection h2 with h2
    injection h2 with _ h2
    revert h2
    decide
  · have h2 := h.wr
    rw [← e, h1] at h2
    injection h2 with h2
    injection h2 with _ h2
    revert h2
    decide
  · obtain ⟨es, cl, h2, _⟩ := h.mp
    rw [← e, h1] at h2
    cases h2
/-- Nothing but links is new. -/
theorem PwM.relink (h : PwM B wb bm bh top X g D W) (hg : GMem X W' g') (ht : Touch X W W') (ho : g'.o = g.o) (ha : g'.av = g.av) : PwM B wb bm bh top X g' D W' := by
  refine ⟨(ht.block _ (row_lt h.wr) h.wX).trans h.wr, h.mp.keep (ht.block _ h.mp.lt h.mX), hg, fun b hb => ?_, by rw [ha]; exact h.ap, h.lo⟩
  rw [ho, ha]
  exact OwnE.keep (h.at_ b hb) fun k e => ht.block k (OwnE.lt (h.at_ b hb) k e).2 (h.aT hb e).1
theorem PwM.touch (h : PwM B wb bm bh top X g D W) (ht : Touch X W W') : Below B W W' := ht.below (fun k hk => h.lo.2.2 k hk) h.le
theorem uNodes : Try.prog.underlying 52 = some (.map 23 49) := by kernel_rfl
theorem zNode (w : World) : (zeroValue 49).run Try.prog w = .ok (.pointer none) w := by kernel_rfl
theorem PwM.look (h : PwM B wb bm bh top X g D W) (k : St) : (Instr.lookup 52 (.map (some bm)) (.agg #[.int .i64 k.1, .int .i64 k.2]) false).run Try.prog W = .ok (ptr ((getP Prod.fst D k).map Prod.snd)) W := by
  have := look1_st 52 49 (.pointer none) uNodes zNode h.mp k
  cases e : getP Prod.fst D k with
  | none => rw [e] at this; exact this
  | some x => rw [e] at this; exact this
theorem PwM.lookN (h : PwM B wb bm bh top X g D W) {k : St} (e : getP Prod.fst D k = none) : (Instr.lookup 52 (.map (some bm)) (.agg #[.int .i64 k.1, .int .i64 k.2]) false).run Try.prog W = .ok (.pointer none) W := by
  have := h.look k
  rw [e] at this
  exact this
theorem PwM.lookS (h : PwM B wb bm bh top X g D W) {k : St} {c : Nat} (e : getP Prod.fst D k = some (k, c)) : (Instr.lookup 52 (.map (some bm)) (.agg #[.int .i64 k.1, .int .i64 k.2]) false).run Try.prog W = .ok (.pointer (some ⟨c, 0, none⟩)) W := by
  have := h.look k
  rw [e] at this
  exact this
end
theorem uPtr : Try.prog.underlying 49 = some (.pointer 51) := by kernel_rfl
theorem sizeNode : (Try.prog.info? 51).map (·.size) = some 10 := by kernel_rfl
theorem eqlIn_ptr (d a b : Nat) (w : World) {ca cb : Array Value} {ta tb : TypeId} (ha : w.heap[a]? = some (.cells ca ta (0, 0))) (hb : w.heap[b]? = some (.cells cb tb (0, 0))) : (Op.equalIn (d + 1) 49 (.pointer (some ⟨a, 0, none⟩)) (.pointer (some ⟨b, 0, none⟩))).run Try.prog w = .ok (decide (a = b)) w := by
  have h : (sameAddr ⟨a, 0, none⟩ ⟨b, 0, none⟩).run Try.prog w = .ok (decide (a = b)) w := by
    by_cases e : a = b
    · subst e
      rw [run_sameAddr_same, decide_eq_true rfl]
    · rw [run_sameAddr_other w (fun e2 => e (by cases e2; rfl)) ha hb, decide_eq_false e]
  have hi := sizeNode
  cases hq : Try.prog.info? 51 with
  | none => simp [hq] at hi
  | some i =>
    have hz : i.size = 10 := by simpa [hq] using hi
    simp [Op.equalIn, run_underlying uPtr, Go.sizeOf, typeInfo, hq, hz, h]
theorem eqlIn_nil (d a : Nat) (w : World) : (Op.equalIn (d + 1) 49 (.pointer none) (.pointer (some ⟨a, 0, none⟩))).run Try.prog w = .ok false w := by
  simp [Op.equalIn, run_underlying uPtr]
theorem eqlB (a b : Nat) (w : World) {ca cb : Array Value} {ta tb : TypeId} (ha : w.heap[a]? = some (.cells ca ta (0, 0))) (hb : w.heap[b]? = some (.cells cb tb (0, 0))) : (binOp .eql 49 (.pointer (some ⟨a, 0, none⟩)) (.pointer (some ⟨b, 0, none⟩))).run Try.prog w = .ok (.bool (decide (a = b))) w := by
  have h : (Op.equal 49 (.pointer (some ⟨a, 0, none⟩)) (.pointer (some ⟨b, 0, none⟩))).run Try.prog w = _ := eqlIn_ptr 9999 a b w ha hb
  simp only [binOp]
  simp [h]
theorem neqB (a b : Nat) (w : World) {ca cb : Array Value} {ta tb : TypeId} (ha : w.heap[a]? = some (.cells ca ta (0, 0))) (hb : w.heap[b]? = some (.cells cb tb (0, 0))) : (binOp .neq 49 (.pointer (some ⟨a, 0, none⟩)) (.pointer (some ⟨b, 0, none⟩))).run Try.prog w = .ok (.bool (!decide (a = b))) w := by
  have h : (Op.equal 49 (.pointer (some ⟨a, 0, none⟩)) (.pointer (some ⟨b, 0, none⟩))).run Try.prog w = _ := eqlIn_ptr 9999 a b w ha hb
  simp only [binOp]
  simp [h]
theorem eqlN (a : Nat) (w : World) : (binOp .eql 49 (.pointer none) (.pointer (some ⟨a, 0, none⟩))).run Try.prog w = .ok (.bool false) w := by
  have h : (Op.equal 49 (.pointer none) (.pointer (some ⟨a, 0, none⟩))).run Try.prog w = _ := eqlIn_nil 9999 a w
  simp only [binOp]
  simp [h]
theorem neqN (a : Nat) (w : World) : (binOp .neq 49 (.pointer none) (.pointer (some ⟨a, 0, none⟩))).run Try.prog w = .ok (.bool true) w := by
  have h : (Op.equal 49 (.pointer none) (.pointer (some ⟨a, 0, none⟩))).run Try.prog w = _ := eqlIn_nil 9999 a w
  simp only [binOp]
  simp [h]

end Go.Proofs.Ytccpljllgpabnab
