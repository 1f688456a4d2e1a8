/- Lists of numbers in memory: what a slice of them holds, and that it holds it on behind whatever makes new memory alone; such that the call made itself. -/
import Derived.Test.YthhnglpkfcmjiaaRows
import Derived.Test.YthhnglpkfcmjiaaKPlainC
import Derived.WalkKit
import Derived.WalkSpells
import Derived.Deep.QuietTactic
import Derived.BigQuiet
import Derived.RowKit3
import Derived.WalkSmall
import Derived.Maps.AppendAt
import Derived.OwnWalk
namespace Go.Proofs.Ythhnglpkfcmjiaa
open Go.RowKit
set_option linter.unusedVariables false
/-- From block b, offset o on lie these numbers. -/
def IntsAt (w : World) (b o : Nat) (d : List Int) : Prop := ∀ i (h : i < d.length), w.cell? ⟨b, o + i, none⟩ = some (.int .i64 d[i])
theorem IntsAt.lt {w : World} {b o : Nat} {d : List Int} (h : IntsAt w b o d) (hd : d ≠ []) : b < w.heap.size := by
  have h0 := h 0 (by cases d with | nil => exact absurd rfl hd | cons x y => simp)
  rcases Nat.lt_or_ge b w.heap.size with h' | h'
  · exact h'
  · simp [World.cell?, h'] at h0
theorem IntsAt.below {w w' : World} {b o : Nat} {d : List Int} (h : IntsAt w b o d) (hb : Below w.heap.size w w') : IntsAt w' b o d := by
  intro i hi
  have hlt := h.lt (by intro e; subst e; simp at hi)
  exact (hb.cell (p := ⟨b, o + i, none⟩) hlt).trans (h i hi)
theorem IntsAt.take {w : World} {b o : Nat} {d : List Int} (h : IntsAt w b o d) (e : Nat) : IntsAt w b o (d.take e) := by
  intro i hi
  rw [List.length_take] at hi
  rw [List.getElem_take]
  exact h i (by omega)
/-- The value is a slice of these numbers. -/
def IsI (w : World) (v : Value) (d : List Int) : Prop :=
  ∃ (a : Option Addr) (cap : Nat), v = .slice a d.length cap ∧ d.length ≤ cap ∧ d.length ≤ 17592186044416 ∧ (d = [] ∨ ∃ b o, a = some ⟨b, o, none⟩ ∧ IntsAt w b o d)
theorem IsI.below {w w' : World} {v : Value} {d : List Int} (h : IsI w v d) (hb : Below w.heap.size w w') : IsI w' v d := by
  obtain ⟨a, cap, e, hc, hl, h⟩ := h
  refine ⟨a, cap, e, hc, hl, h.imp id fun ⟨b, o, e2, hr⟩ => ⟨b, o, e2, hr.below hb⟩⟩
theorem IsI.form {w : World} {v : Value} {d : List Int} (h : IsI w v d) : ∃ a cap, v = .slice a d.length cap := by obtain ⟨a, cap, e, _⟩ := h; exact ⟨a, cap, e⟩
theorem IsI.non {w : World} (cap : Nat) : IsI w (.slice none 0 cap) [] := ⟨none, cap, rfl, Nat.zero_le _, by simp, .inl rfl⟩
/-- The call's own row of these numbers, in a block from B on. -/
def cellsI (d : List Int) : List Value := d.map fun x => .int .i64 x
def OwnI (B : Nat) (w : World) (v : Value) (D : List Int) : Prop := w.ownsRow B 3 1 v D.length (cellsI D)
theorem OwnI.below {B : Nat} {w w' : World} {v : Value} {D : List Int} (h : OwnI B w v D) (hb : Below w.heap.size w w') : OwnI B w' v D := by
  refine ⟨h.1, ?_⟩
  rcases h.2 with hn | ⟨g, cap, cur, hv, hg, hc, rest⟩
  · exact .inl hn
  · refine .inr ⟨g, cap, cur, hv, hg, ?_, rest⟩
    have hlt : g < w.heap.size := (Array.getElem?_eq_some_iff.1 hc).1
    rw [hb.block g hlt]
    exact hc
theorem OwnI.isI {B : Nat} {w : World} {v : Value} {D : List Int} (h : OwnI B w v D) (hl : D.length ≤ 17592186044416) : IsI w v D := by
  have h0 := h
  rcases h.2 with ⟨rfl, hn⟩ | ⟨g, cap, cur, rfl, hg, hc, hcap, rest⟩
  · have e : D = [] := List.eq_nil_of_length_eq_zero hn
    subst e
    exact IsI.non 0
  · refine ⟨_, cap, rfl, hcap, hl, .inr ⟨g, 0, rfl, fun i hi => ?_⟩⟩
    have := h0.cellAt i (by omega)
    rw [show 0 + i = i by omega, this]
    simp [cellsI, hi]
theorem OwnI.snoc {B : Nat} {w : World} {v : Value} {D : List Int} {x : Int} (h : w.ownsRow B 3 1 v (D.length + 1) (cellsI D ++ [.int .i64 x])) : OwnI B w v (D ++ [x]) := by
  unfold OwnI
  have e : cellsI (D ++ [x]) = cellsI D ++ [.int .i64 x] := by simp [cellsI]
  rw [e]
  simpa using h
theorem OwnI.empty (w : World) (B : Nat) (hB : B ≤ w.heap.size) : OwnI B (w.alloc (.cells #[] 3)) (.slice (some ⟨w.heap.size, 0, none⟩) 0 0) [] :=
  World.ownsRow_made w #[] 0 hB (by unfold maxLen; omega) (by simp)
theorem OwnI.nil0 (w : World) (B : Nat) : OwnI B w (.slice none 0 0) [] := World.ownsRow_nil _ _ _ _
theorem OwnI.block {B : Nat} {w : World} {v : Value} {D : List Int} (h : OwnI B w v D) : ∀ k, v.ownBlock = some k → B ≤ k := fun k e => (World.ownsRow.lt h k e).1
theorem OwnI.form {B : Nat} {w : World} {v : Value} {D : List Int} (h : OwnI B w v D) : ∃ a cap, v = .slice a D.length cap := by
  rcases h.2 with ⟨rfl, hn⟩ | ⟨g, cap, cur, rfl, _⟩
  · exact ⟨none, 0, by rw [hn]⟩
  · exact ⟨_, cap, rfl⟩
theorem infoInt : (Try.prog.info? 3).map (fun i => (i.zero, i.size, i.bytes)) = some (some (.int .i64 0), 1, 8) := by kernel_rfl
end Go.Proofs.Ythhnglpkfcmjiaa
