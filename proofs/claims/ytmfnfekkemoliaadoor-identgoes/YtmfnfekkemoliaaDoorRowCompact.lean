/- What slices.CompactFunc does at a row of stamps: of neighbours that are the same one stays. -/
import Derived.Test.YtmfnfekkemoliaaDoorRowOwn
import Derived.Test.YtmfnfekkemoliaaDoorWalksD
import Derived.WalkLawsBesides
namespace Go.Proofs.YtmfnfekkemoliaaDoor
open Go.RowKit
set_option linter.unusedVariables false

def sameB (x y : Int × Int) : Bool := decide (x = y)

set_option maxHeartbeats 400000 in
/-- The closure that asks whether two stamps are the same, by the order that it has captured. -/
theorem eq_any (P : Nat) (c r c2 r2 : Int) (w : World) (hP : w.cell? ⟨P, 0, none⟩ = some (.func (.func 14) #[] #[])) :
    Calls Tryd.prog 49 #[.agg #[.int .i64 c, .int .i64 r], .agg #[.int .i64 c2, .int .i64 r2], .pointer (some ⟨P, 0, none⟩)] w fun e w' => e = .returned (.bool (sameB (c, r) (c2, r2))) ∧ Below w.heap.size w w' := by
  have hlt : P < w.heap.size := by
    rcases Nat.lt_or_ge P w.heap.size with h' | h'
    · exact h'
    · simp [World.cell?, h'] at hP
  have z1 : P < w.heap.size + 1 := by omega
  have q : (cmpS c r c2 r2 == 0) = sameB (c, r) (c2, r2) := by
    unfold sameB
    rw [Bool.eq_iff_iff]
    simp only [beq_iff_eq, decide_eq_true_eq, Prod.mk.injEq]
    unfold cmpS
    repeat' split
    all_goals omega
  go_enter Tryd.func49, Tryd.ntmps49
  go_wp2_with fail
  refine (compare_any _ _ _ _ _).mono ?_
  rintro e w1 ⟨rfl, hb⟩
  go_wp2
  go_ret
  refine ⟨ret_b ?_, (((Below.refl _ w).alloc (Nat.le_refl _) _).alloc (by simp) _).trans (hb.mono (by simp <;> omega))⟩
  first | exact q | rfl

/-- Of neighbours that are the same one. -/
def cstep (a : List (Int × Int)) (x : Int × Int) : List (Int × Int) := if a.getLast? = some x then a else a ++ [x]
def compL (d : List (Int × Int)) : List (Int × Int) := d.foldl cstep []
theorem compL_next (d : List (Int × Int)) (m : Nat) (h : m < d.length) : compL (d.take (m + 1)) = cstep (compL (d.take m)) d[m] := by
  unfold compL
  rw [List.take_succ_eq_append_getElem h, List.foldl_append]
  rfl
theorem compL_last (d : List (Int × Int)) : ∀ m (h : m < d.length), (compL (d.take (m + 1))).getLast? = some d[m] := by
  intro m h
  rw [compL_next d m h]
  unfold cstep
  split
  · assumption
  · simp
theorem compL_same (d : List (Int × Int)) (m : Nat) (h : m + 1 < d.length) (e : d[m + 1] = d[m]) : compL (d.take (m + 1 + 1)) = compL (d.take (m + 1)) := by
  rw [compL_next d (m + 1) h]
  unfold cstep
  rw [if_pos (by rw [compL_last d m (by omega), e])]
theorem compL_other (d : List (Int × Int)) (m : Nat) (h : m + 1 < d.length) (e : d[m + 1] ≠ d[m]) : compL (d.take (m + 1 + 1)) = compL (d.take (m + 1)) ++ [d[m + 1]] := by
  rw [compL_next d (m + 1) h]
  unfold cstep
  rw [if_neg (by rw [compL_last d m (by omega)]; intro h; exact e (Option.some.inj h).symm)]

/-- A row that may be written, from a block's start on. -/
def RowF (w : World) (g : Nat) (d : List (Int × Int)) : Prop :=
  ∀ i (h : i < d.length), (w.cell? ⟨g, i * 2, none⟩ = some (.int .i64 d[i].1) ∧ w.cell? ⟨g, i * 2 + 1, none⟩ = some (.int .i64 d[i].2)) ∧ w.frozen? ⟨g, i * 2, none⟩ = false ∧ w.frozen? ⟨g, i * 2 + 1, none⟩ = false
theorem RowF.rowAt {w : World} {g : Nat} {d : List (Int × Int)} (h : RowF w g d) : RowAt w g 0 d := fun i hi => by rw [show 0 + i * 2 = i * 2 by omega]; exact (h i hi).1
theorem RowF.lt {w : World} {g : Nat} {d : List (Int × Int)} (h : RowF w g d) (hd : 0 < d.length) : g < w.heap.size := h.rowAt.lt (by intro e; subst e; simp at hd)
theorem RowF.below {w w' : World} {g : Nat} {d : List (Int × Int)} (h : RowF w g d) (hb : Below w.heap.size w w') : RowF w' g d := by
  intro i hi
  have hlt := h.lt (by omega)
  obtain ⟨⟨a, b⟩, c, e⟩ := h i hi
  exact ⟨⟨(hb.cell (p := ⟨g, i * 2, none⟩) hlt).trans a, (hb.cell (p := ⟨g, i * 2 + 1, none⟩) hlt).trans b⟩, (hb.frozen (p := ⟨g, i * 2, none⟩) hlt).trans c, (hb.frozen (p := ⟨g, i * 2 + 1, none⟩) hlt).trans e⟩
theorem RowF.drew {w : World} {g : Nat} {d : List (Int × Int)} (h : RowF w g d) : RowF w.drew g d := h.below ((Below.refl _ _).drew)

theorem RowF.set {w : World} {g k : Nat} {d : List (Int × Int)} (h : RowF w g d) (hk : k < d.length) (a b : Int) :
    RowF ((w.setCell ⟨g, k * 2, none⟩ (.int .i64 a)).setCell ⟨g, k * 2 + 1, none⟩ (.int .i64 b)) g (d.set k (a, b)) := by
  intro i hi
  have hi2 : i < d.length := by simpa using hi
  obtain ⟨⟨h1, h2⟩, h3, h4⟩ := h i hi2
  obtain ⟨⟨k1, k2⟩, k3, k4⟩ := h k hk
  refine ⟨?_, by rw [World.frozen?_setCell, World.frozen?_setCell]; exact h3, by rw [World.frozen?_setCell, World.frozen?_setCell]; exact h4⟩
  by_cases e : i = k
  · subst e
    have e1 : (w.setCell ⟨g, i * 2, none⟩ (.int .i64 a)).cell? ⟨g, i * 2, none⟩ = some (.int .i64 a) := World.cell?_setCell_same' _ _ _ (by rw [k1]; rfl)
    have e2 : (w.setCell ⟨g, i * 2, none⟩ (.int .i64 a)).cell? ⟨g, i * 2 + 1, none⟩ = some (.int .i64 d[i].2) := (World.cell?_setCell_other _ _ _ _ (by simp)).trans h2
    constructor
    · rw [World.cell?_setCell_other _ _ _ _ (by simp), e1]; simp
    · rw [World.cell?_setCell_same' _ _ _ (by rw [e2]; rfl)]; simp
  · constructor
    · rw [World.cell?_setCell_other _ _ _ _ (by simp <;> omega), World.cell?_setCell_other _ _ _ _ (by simp <;> omega), h1]
      simp [Ne.symm e]
    · rw [World.cell?_setCell_other _ _ _ _ (by simp <;> omega), World.cell?_setCell_other _ _ _ _ (by simp <;> omega), h2]
      simp [Ne.symm e]

end Go.Proofs.YtmfnfekkemoliaaDoor
