/- Cells that a region that draws its order reads: they stay, behind whatever calls that only make new memory. -/
import Derived.Test.YtljmlbidbacdjabRows
import Derived.WalkKit
import Derived.RowKit3
namespace Go.Proofs.Ytljmlbidbacdjab
open Go.RowKit

/-- Of one boxed stamp: its two cells, and all below. -/
def Kept1 (w0 : World) (c r : Int) (w : World) : Prop :=
  w.cell? ⟨w0.heap.size, 0, none⟩ = some (.int .i64 c) ∧ w.cell? ⟨w0.heap.size, 1, none⟩ = some (.int .i64 r) ∧ w0.heap.size < w.heap.size ∧ Below w0.heap.size w0 w
theorem Kept1.start (w0 : World) (c r : Int) : Kept1 w0 c r (w0.alloc (.cells #[.int .i64 c, .int .i64 r] 24)).drew :=
  ⟨by simp [go_sem], by simp [go_sem], by simp, ((Below.refl _ _).alloc (Nat.le_refl _) _).drew⟩
/-- .. behind three calls that each box the stamp. -/
theorem Kept1.start4 (w0 : World) (c r : Int) {x y z : Array Value} : Kept1 w0 c r ((((w0.alloc (.cells #[.int .i64 c, .int .i64 r] 24)).alloc (.cells x 24)).alloc (.cells y 24)).alloc (.cells z 24)).drew :=
  ⟨by simp [go_sem], by simp [go_sem], by simp; omega, (((((Below.refl _ _).alloc (Nat.le_refl _) _).alloc (by simp) _).alloc (by simp; omega) _).alloc (by simp; omega) _).drew⟩
theorem Kept1.step {w0 : World} {c r : Int} {W w' : World} (h : Kept1 w0 c r W) (hb : Below W.heap.size W w') : Kept1 w0 c r w' :=
  ⟨(hb.cell (p := ⟨w0.heap.size, 0, none⟩) h.2.2.1).trans h.1, (hb.cell (p := ⟨w0.heap.size, 1, none⟩) h.2.2.1).trans h.2.1, Nat.lt_of_lt_of_le h.2.2.1 hb.size, h.2.2.2.trans (hb.mono (Nat.le_of_lt h.2.2.1))⟩

/-- Of two boxed stamps. -/
def Kept2 (w0 : World) (c r c2 r2 : Int) (w : World) : Prop :=
  (w.cell? ⟨w0.heap.size, 0, none⟩ = some (.int .i64 c) ∧ w.cell? ⟨w0.heap.size, 1, none⟩ = some (.int .i64 r) ∧ w.cell? ⟨w0.heap.size + 1, 0, none⟩ = some (.int .i64 c2) ∧ w.cell? ⟨w0.heap.size + 1, 1, none⟩ = some (.int .i64 r2)) ∧ w0.heap.size + 1 < w.heap.size ∧ Below w0.heap.size w0 w
theorem Kept2.start (w0 : World) (c r c2 r2 : Int) : Kept2 w0 c r c2 r2 ((w0.alloc (.cells #[.int .i64 c, .int .i64 r] 24)).alloc (.cells #[.int .i64 c2, .int .i64 r2] 24)).drew :=
  ⟨⟨by simp [go_sem], by simp [go_sem], by simp [go_sem], by simp [go_sem]⟩, by simp, (((Below.refl _ _).alloc (Nat.le_refl _) _).alloc (by simp) _).drew⟩
theorem Kept2.step {w0 : World} {c r c2 r2 : Int} {W w' : World} (h : Kept2 w0 c r c2 r2 W) (hb : Below W.heap.size W w') : Kept2 w0 c r c2 r2 w' := by
  obtain ⟨⟨h1, h2, h3, h4⟩, hs, hw⟩ := h
  exact ⟨⟨(hb.cell (p := ⟨w0.heap.size, 0, none⟩) (by show w0.heap.size < _; omega)).trans h1, (hb.cell (p := ⟨w0.heap.size, 1, none⟩) (by show w0.heap.size < _; omega)).trans h2,
    (hb.cell (p := ⟨w0.heap.size + 1, 0, none⟩) hs).trans h3, (hb.cell (p := ⟨w0.heap.size + 1, 1, none⟩) hs).trans h4⟩, Nat.lt_of_lt_of_le hs hb.size, hw.trans (hb.mono (by omega))⟩

end Go.Proofs.Ytljmlbidbacdjab
