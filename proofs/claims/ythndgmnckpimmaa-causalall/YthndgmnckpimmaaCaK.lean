/- Blocks of a set that lie as they lie; rows in them. -/
import Derived.Test.YthndgmnckpimmaaOlB
namespace Go.Proofs.Ythndgmnckpimmaa
open Go.RowKit
set_option linter.unusedVariables false

/-- The blocks of S lie as they lay. -/
def KeepsS (S : Nat → Prop) (W W' : World) : Prop := W.heap.size ≤ W'.heap.size ∧ ∀ k, S k → W'.heap[k]? = W.heap[k]?
theorem KeepsS.refl (S : Nat → Prop) (W : World) : KeepsS S W W := ⟨Nat.le_refl _, fun _ _ => rfl⟩
theorem KeepsS.trans {S : Nat → Prop} {A B C : World} (h : KeepsS S A B) (k : KeepsS S B C) : KeepsS S A C := ⟨Nat.le_trans h.1 k.1, fun j h1 => (k.2 j h1).trans (h.2 j h1)⟩
theorem KeepsS.cell {S : Nat → Prop} {A B : World} (h : KeepsS S A B) {p : Addr} (h1 : S p.block) : B.cell? p = A.cell? p := World.cell?_of_block (w := A) (h.2 p.block h1)
theorem KeepsS.of_below {S : Nat → Prop} {B : Nat} {W W' : World} (h : Below B W W') (hB : ∀ k, S k → k < B) : KeepsS S W W' := ⟨h.size, fun k h2 => h.block k (hB k h2)⟩
theorem KeepsS.of_grown {S : Nat → Prop} {W W' : World} {row : Option Nat} (h : W.grownBy W' row) (hh : ∀ k, S k → k < W.heap.size) (hr : ∀ r, row = some r → ¬ S r) : KeepsS S W W' :=
  ⟨h.size, fun k h1 => h.block k (hh k h1) (fun e => hr k e.symm h1)⟩
theorem KeepsS.drewN {S : Nat → Prop} {W W' : World} (h : KeepsS S W W') (n : Nat) : KeepsS S W (W'.drewN n) := ⟨h.1, fun k hk => h.2 k hk⟩
theorem KeepsS.drew {S : Nat → Prop} {W W' : World} (h : KeepsS S W W') : KeepsS S W W'.drew := ⟨h.1, fun k hk => h.2 k hk⟩
theorem KeepsS.mono {S T : Nat → Prop} {W W' : World} (h : KeepsS S W W') (hs : ∀ k, T k → S k) : KeepsS T W W' := ⟨h.1, fun k hk => h.2 k (hs k hk)⟩
theorem grownBy_drewN (W : World) (n : Nat) (row : Option Nat) : W.grownBy (W.drewN n) row := ⟨rfl, rfl, rfl, Nat.le_refl _, fun _ _ _ => rfl⟩
/-- A row that is owned, in a block that is kept. -/
theorem ownsRow_keep {w w' : World} {B : Nat} {e : TypeId} {size : Nat} {v : Value} {n : Nat} {xs : List Value} (h : w.ownsRow B e size v n xs) (hk : ∀ k, v.ownBlock = some k → w'.heap[k]? = w.heap[k]?) : w'.ownsRow B e size v n xs := by
  refine ⟨h.1, ?_⟩
  rcases h.2 with hn | ⟨g, cap, cur, hv, hg, hc, rest⟩
  · exact .inl hn
  · refine .inr ⟨g, cap, cur, hv, hg, ?_, rest⟩
    rw [hk g (by rw [hv]; rfl)]
    exact hc
theorem ownsRow_low {w : World} {B B' : Nat} {e : TypeId} {size : Nat} {v : Value} {n : Nat} {xs : List Value} (h : w.ownsRow B e size v n xs) (hB : B' ≤ B) : w.ownsRow B' e size v n xs := by
  refine ⟨h.1, ?_⟩
  rcases h.2 with hn | ⟨g, cap, cur, hv, hg, rest⟩
  · exact .inl hn
  · exact .inr ⟨g, cap, cur, hv, by omega, rest⟩
/-- Rows of unlike types lie in unlike blocks. -/
theorem ownsRow_apart {w : World} {B B' : Nat} {e e' : TypeId} {size size' : Nat} {v v' : Value} {n n' : Nat} {xs xs' : List Value} (h : w.ownsRow B e size v n xs) (h' : w.ownsRow B' e' size' v' n' xs') (he : e ≠ e') : ∀ k, v.ownBlock = some k → v'.ownBlock ≠ some k := by
  intro k e1 e2
  rcases h.2 with ⟨rfl, _⟩ | ⟨g, cap, cur, rfl, hg, hc, _⟩
  · cases e1
  · rcases h'.2 with ⟨rfl, _⟩ | ⟨g', cap', cur', rfl, hg', hc', _⟩
    · cases e2
    · have a1 : g = k := by simpa [Value.ownBlock] using e1
      have a2 : g' = k := by simpa [Value.ownBlock] using e2
      subst a1
      subst a2
      rw [hc] at hc'
      simp at hc'
      exact he hc'.2
theorem ownsRow_type {w : World} {B : Nat} {e : TypeId} {size : Nat} {v : Value} {n : Nat} {xs : List Value} (h : w.ownsRow B e size v n xs) : ∀ k, v.ownBlock = some k → ∃ cur, w.heap[k]? = some (.cells cur e (0, 0)) := by
  intro k e1
  rcases h.2 with ⟨rfl, _⟩ | ⟨g, cap, cur, rfl, hg, hc, _⟩
  · cases e1
  · have a1 : g = k := by simpa [Value.ownBlock] using e1
    subst a1
    exact ⟨cur, hc⟩
theorem OwnI.keepF {w w' : World} {B : Nat} {v : Value} {D : List Int} (h : OwnI B w v D) (hk : ∀ k, v.ownBlock = some k → w'.heap[k]? = w.heap[k]?) : OwnI B w' v D := ownsRow_keep h hk
theorem OwnI.low {w : World} {B B' : Nat} {v : Value} {D : List Int} (h : OwnI B w v D) (hB : B' ≤ B) : OwnI B' w v D := ownsRow_low h hB

/-- Nothing but blocks of F has changed, and what is new. -/
structure Touch (F : Nat → Prop) (w w' : World) : Prop where
  os : w'.os = w.os
  tape : w'.tape = w.tape
  output : w'.output = w.output
  size : w.heap.size ≤ w'.heap.size
  block : ∀ k, k < w.heap.size → ¬ F k → w'.heap[k]? = w.heap[k]?
theorem Touch.refl (F : Nat → Prop) (w : World) : Touch F w w := ⟨rfl, rfl, rfl, Nat.le_refl _, fun _ _ _ => rfl⟩
theorem Touch.of_below {F : Nat → Prop} {w w' : World} (h : Below w.heap.size w w') : Touch F w w' := ⟨h.os, h.tape, h.output, h.size, fun k hk _ => h.block k hk⟩
theorem Touch.of_grown {F : Nat → Prop} {w w' : World} {row : Option Nat} (h : w.grownBy w' row) (hr : ∀ k, row = some k → k < w.heap.size → F k) : Touch F w w' := ⟨h.os, h.tape, h.output, h.size, fun k hk hF => h.block k hk fun e => hF (hr k e.symm hk)⟩
theorem Touch.trans {F F' : Nat → Prop} {a b c : World} (h : Touch F a b) (k : Touch F' b c) (hF : ∀ j, F' j → F j ∨ a.heap.size ≤ j) : Touch F a c :=
  ⟨k.os.trans h.os, k.tape.trans h.tape, k.output.trans h.output, Nat.le_trans h.size k.size, fun j hj hn => (k.block j (Nat.lt_of_lt_of_le hj h.size) (fun h' => (hF j h').elim hn (fun h2 => by omega))).trans (h.block j hj hn)⟩
theorem Touch.mono {F F' : Nat → Prop} {a b : World} (h : Touch F a b) (hF : ∀ j, F j → F' j) : Touch F' a b := ⟨h.os, h.tape, h.output, h.size, fun j hj hn => h.block j hj fun h' => hn (hF j h')⟩
theorem Touch.below {F : Nat → Prop} {w w' : World} (h : Touch F w w') {B : Nat} (hB : ∀ k, F k → B ≤ k) (hs : B ≤ w.heap.size) : Below B w w' := ⟨h.os, h.tape, h.output, h.size, fun k hk => h.block k (by omega) fun hF => by have := hB k hF; omega⟩
theorem Touch.keeps {F G : Nat → Prop} {w w' : World} (h : Touch F w w') (hG : ∀ k, G k → k < w.heap.size ∧ ¬ F k) : KeepsS G w w' := ⟨h.size, fun k hk => h.block k (hG k hk).1 (hG k hk).2⟩
theorem grownBy_setCell (W : World) (b i : Nat) (v : Value) : W.grownBy (W.setCell ⟨b, i, none⟩ v) (some b) :=
  ⟨rfl, rfl, rfl, by simp [World.setCell], fun k hk hne => by rw [RowKit.Below.heap_setCell _ _ _ _ (fun e => hne (by rw [e]))]⟩

end Go.Proofs.Ythndgmnckpimmaa
