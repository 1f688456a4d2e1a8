/- Blocks of a set that lie as they lie; rows in them. -/
import Derived.Test.YtngldpabfpcaiaaGreatOlB
import Derived.Test.YtngldpabfpcaiaaGreatSrtB
import Derived.RangeFuncNested
import Derived.RangeFuncBound
import Derived.RangeFuncCalls
import Derived.RangeFuncLeaves
namespace Go.Proofs.YtngldpabfpcaiaaGreat
open Go.RowKit
set_option linter.unusedVariables false

/-- The blocks of S lie as they lay. -/
def KeepsS (S : Nat → Prop) (W W' : World) : Prop := W.heap.size ≤ W'.heap.size ∧ ∀ k, S k → W'.heap[k]? = W.heap[k]?
theorem KeepsS.refl (S : Nat → Prop) (W : World) : KeepsS S W W := ⟨Nat.le_refl _, fun _ _ => rfl⟩
theorem KeepsS.trans {S : Nat → Prop} {A B C : World} (h : KeepsS S A B) (k : KeepsS S B C) : KeepsS S A C := ⟨Nat.le_trans h.1 k.1, fun j h1 => (k.2 j h1).trans (h.2 j h1)⟩
theorem KeepsS.cell {S : Nat → Prop} {A B : World} (h : KeepsS S A B) {p : Addr} (h1 : S p.block) : B.cell? p = A.cell? p := World.cell?_of_block (w := A) (h.2 p.block h1)
theorem KeepsS.of_below {S : Nat → Prop} {B : Nat} {W W' : World} (h : Below B W W') (hB : ∀ k, S k → k < B) : KeepsS S W W' := ⟨h.size, fun k h2 => h.block k (hB k h2)⟩
theorem KeepsS.of_grown {S : Nat → Prop} {W W' : World} {row : Option Nat} (h : W.grownBy W' row) (hh : ∀ k, S k → k < W.heap.size) (hr : ∀ r, row = some r → ¬ S r) : KeepsS S W W' :=
  ⟨h.size, fun k h1 => h.block k (hh k h1) (fun e => hr k e.symm h1)⟩
theorem KeepsS.drewN {S : Nat → Prop} {W W' : World} (h : KeepsS S W W') (n : Nat) : KeepsS S W (W'.drewN n) := ⟨h.1, fun k hk => h.2 k hk⟩
theorem KeepsS.drew {S : Nat → Prop} {W W' : World} (h : KeepsS S W W') : KeepsS S W W'.drew := ⟨h.1, fun k hk => h.2 k hk⟩
theorem KeepsS.mono {S T : Nat → Prop} {W W' : World} (h : KeepsS S W W') (hs : ∀ k, T k → S k) : KeepsS T W W' := ⟨h.1, fun k hk => h.2 k (hs k hk)⟩
theorem keepsSK_b {S : Nat → Prop} {w : World} (hn : ∀ k, S k → k < w.heap.size) (W : World) (l : Nat) (o o' : Obj) (hl : w.heap.size ≤ l) (h : W.heap[l]? = some o) (h1 : o.isCells = false) (h2 : o.isWalk = false) : KeepsS S W (W.putObj l o') :=
  KeepsS.of_below (belowK_b (w := w) (Nat.le_refl _) W l o o' hl h h1 h2) hn
theorem grownBy_drewN (W : World) (n : Nat) (row : Option Nat) : W.grownBy (W.drewN n) row := ⟨rfl, rfl, rfl, Nat.le_refl _, fun _ _ _ => rfl⟩
/-- A row that is owned, in a block that is kept. -/
theorem ownsRow_keep {w w' : World} {B : Nat} {e : TypeId} {size : Nat} {v : Value} {n : Nat} {xs : List Value} (h : w.ownsRow B e size v n xs) (hk : ∀ k, v.ownBlock = some k → w'.heap[k]? = w.heap[k]?) : w'.ownsRow B e size v n xs := by
  refine ⟨h.1, ?_⟩
  rcases h.2 with hn | ⟨g, cap, cur, hv, hg, hc, rest⟩
  · exact .inl hn
  · refine .inr ⟨g, cap, cur, hv, hg, ?_, rest⟩
    rw [hk g (by rw [hv]; rfl)]
    exact hc
theorem ownsRow_low {w : World} {B B' : Nat} {e : TypeId} {size : Nat} {v : Value} {n : Nat} {xs : List Value} (h : w.ownsRow B e size v n xs) (hB : B' ≤ B) : w.ownsRow B' e size v n xs := by
  refine ⟨h.1, ?_⟩
  rcases h.2 with hn | ⟨g, cap, cur, hv, hg, rest⟩
  · exact .inl hn
  · exact .inr ⟨g, cap, cur, hv, by omega, rest⟩
/-- Rows of unlike types lie in unlike blocks. -/
theorem ownsRow_apart {w : World} {B B' : Nat} {e e' : TypeId} {size size' : Nat} {v v' : Value} {n n' : Nat} {xs xs' : List Value} (h : w.ownsRow B e size v n xs) (h' : w.ownsRow B' e' size' v' n' xs') (he : e ≠ e') : ∀ k, v.ownBlock = some k → v'.ownBlock ≠ some k := by
  intro k e1 e2
  rcases h.2 with ⟨rfl, _⟩ | ⟨g, cap, cur, rfl, hg, hc, _⟩
  · cases e1
  · rcases h'.2 with ⟨rfl, _⟩ | ⟨g', cap', cur', rfl, hg', hc', _⟩
    · cases e2
    · have a1 : g = k := by simpa [Value.ownBlock] using e1
      have a2 : g' = k := by simpa [Value.ownBlock] using e2
      subst a1
      subst a2
      rw [hc] at hc'
      simp at hc'
      exact he hc'.2
theorem ownsRow_type {w : World} {B : Nat} {e : TypeId} {size : Nat} {v : Value} {n : Nat} {xs : List Value} (h : w.ownsRow B e size v n xs) : ∀ k, v.ownBlock = some k → ∃ cur, w.heap[k]? = some (.cells cur e (0, 0)) := by
  intro k e1
  rcases h.2 with ⟨rfl, _⟩ | ⟨g, cap, cur, rfl, hg, hc, _⟩
  · cases e1
  · have a1 : g = k := by simpa [Value.ownBlock] using e1
    subst a1
    exact ⟨cur, hc⟩
theorem OwnI.keepF {w w' : World} {B : Nat} {v : Value} {D : List Int} (h : OwnI B w v D) (hk : ∀ k, v.ownBlock = some k → w'.heap[k]? = w.heap[k]?) : OwnI B w' v D := ownsRow_keep h hk
theorem OwnI.low {w : World} {B B' : Nat} {v : Value} {D : List Int} (h : OwnI B w v D) (hB : B' ≤ B) : OwnI B' w v D := ownsRow_low h hB

end Go.Proofs.YtngldpabfpcaiaaGreat
