/- What Tick does, the program's and the document's. -/
import Derived.Test.YtjcpnjobfedejabDoorCkW
import Derived.Laws.CopyOwn
namespace Go.Proofs.YtjcpnjobfedejabDoor
open Go.RowKit
set_option linter.unusedVariables false

/-- What Tick tells: the error, and the list. -/
def tickE (d : List Int) (r : Int) : Int := if checkL d ≠ 0 then checkL d else if r < 0 ∨ 64 ≤ r then 1 else if atL d r = 1099511627776 then 6 else 0
def tickR (d : List Int) (r : Int) : List Int := if tickE d r = 0 then tickL d r.toNat else []
theorem tickE_check {d : List Int} {r : Int} (h : checkL d ≠ 0) : tickE d r = checkL d := by unfold tickE; rw [if_pos h]
theorem tickE_range {d : List Int} {r : Int} (h : checkL d = 0) (h2 : r < 0 ∨ 64 ≤ r) : tickE d r = 1 := by unfold tickE; rw [if_neg (by simp [h]), if_pos h2]
theorem tickE_full {d : List Int} {r : Int} (h : checkL d = 0) (h2 : ¬ (r < 0 ∨ 64 ≤ r)) (h3 : atL d r = 1099511627776) : tickE d r = 6 := by unfold tickE; rw [if_neg (by simp [h]), if_neg h2, if_pos h3]
theorem tickE_ok {d : List Int} {r : Int} (h : checkL d = 0) (h2 : ¬ (r < 0 ∨ 64 ≤ r)) (h3 : ¬ atL d r = 1099511627776) : tickE d r = 0 := by unfold tickE; rw [if_neg (by simp [h]), if_neg h2, if_neg h3]
theorem tickR_no {d : List Int} {r : Int} (h : tickE d r ≠ 0) : tickR d r = [] := by unfold tickR; rw [if_neg h]
theorem tickR_ok {d : List Int} {k : Nat} (h : tickE d (k : Int) = 0) : tickR d (k : Int) = tickL d k := by unfold tickR; rw [if_pos h]; simp
theorem ret_err {a b : Int} (h : a = b) : Ending.returned (.tuple #[.slice none 0 0, .int .i64 a]) = .returned (.tuple #[.slice none 0 0, .int .i64 b]) := by rw [h]

/-- The row of a made list over which another one was copied. -/
theorem spliced (d : List Int) (n : Nat) (hn : d.length ≤ n) : splice (List.replicate n (Value.int .i64 0)) 0 (cellsI d) = (List.range n).map fun i => Value.int .i64 (d.getD i 0) := by
  apply List.ext_getElem
  · rw [length_splice _ _ _ (by simp [cellsI]; omega)]; simp
  · intro i h1 h2
    simp at h2
    simp only [splice, List.take_zero, List.nil_append, Nat.zero_add, List.getElem_map, List.getElem_range]
    by_cases h : i < d.length
    · rw [List.getElem_append_left (by simpa [cellsI] using h)]
      simp [cellsI, h]
    · rw [List.getElem_append_right (by simp [cellsI]; omega)]
      simp [List.getD_eq_getElem?_getD, show d.length ≤ i by omega]
theorem spliced_cell {W : World} {g n : Nat} {d : List Int} {t : TypeId} (hn : d.length ≤ n) (h : W.heap[g]? = some (.cells (splice (List.replicate n (Value.int .i64 0)) 0 (cellsI d)).toArray t (0, 0))) :
    (∀ i, i < n → W.cell? ⟨g, i, none⟩ = some (.int .i64 (d.getD i 0))) ∧ ∀ i, W.frozen? ⟨g, i, none⟩ = false := by
  rw [spliced d n hn] at h
  refine ⟨fun i hi => ?_, fun i => by simp [World.frozen?, h]⟩
  simp [World.cell?, h, hi]
theorem made_row {W : World} {B g n : Nat} {t : TypeId} (h : W.ownsRow B t 1 (.slice (some ⟨g, 0, none⟩) n n) n (madeCells (Value.int .i64 0).cells (n * 1)).toList) : W.heap[g]? = some (.cells (List.replicate n (Value.int .i64 0)).toArray t (0, 0)) := by
  rcases h.2 with ⟨e, _⟩ | ⟨g', cap, cur, e, _, hc, _, _, hs, ht⟩
  · cases e
  · cases e
    have e1 : cur.toList = List.replicate n (Value.int .i64 0) := by
      rw [List.take_of_length_le (by simp; omega)] at ht
      rw [ht]
      have := toList_madeCells_one (Value.int .i64 0) (n * 1)
      simpa [Value.cells] using this
    rw [hc, ← e1]
theorem copied {w w1 : World} {g n c1 : Nat} {d : List Int} {a1 : Option Addr} (hn : d.length ≤ n) (hb : Below g w w1) (hg : w1.heap[g]? = some (.cells (List.replicate n (Value.int .i64 0)).toArray 3 (0, 0)))
    (hr : d = [] ∨ ∃ b o, a1 = some ⟨b, o, none⟩ ∧ IntsAt w1 b o d) :
    ∃ w2, (Builtin.copy_ #[22, 22] 3 #[.slice (some ⟨g, 0, none⟩) n n, .slice a1 d.length c1]).run Tryd.prog w1 = .ok (goInt d.length) w2 ∧ w2.heap[g]? = some (.cells (splice (List.replicate n (Value.int .i64 0)) 0 (cellsI d)).toArray 3 (0, 0)) ∧ Below g w w2 := by
  obtain ⟨i0, hi, hz0, hz1, hz2⟩ := info_parts infoInt
  rcases hr with rfl | ⟨b, o, rfl, g1⟩
  · refine ⟨w1, run_copy_none (P := Tryd.prog) w1 _ _ _ 3 _ _ n n 0 c1 Tryd.underlying22 (by rw [hi]; simp [hz1]) (by simp), ?_, hb⟩
    simpa [splice, cellsI] using hg
  · have hl := cellsI_length d
    have hmin : (cellsI d).length = Nat.min d.length n := by rw [hl]; simp [Nat.min_def]; omega
    refine ⟨_, (by
      have := run_copy_row (P := Tryd.prog) w1 22 22 3 3 g 0 n n ⟨b, o, none⟩ d.length c1 (List.replicate n (Value.int .i64 0)).toArray 3 (cellsI d) Tryd.underlying22 (by rw [hi]; simp [hz1]) hg hmin g1.news (by rw [hl]; simp; omega) (cellsI_one d)
      rw [show (cellsI d).length = d.length by rw [hl]; simp] at this
      exact this), ?_, ?_⟩
    · have := setRow_heap w1 g _ (splice (List.replicate n (Value.int .i64 0)) 0 (cellsI d)).toArray 3 _ hg
      simpa [splice, cellsI] using this
    · exact below_setRow hb (Nat.le_refl _) _
/-- The row with one number more. -/
theorem ticked_is {W : World} {g n k : Nat} {d : List Int} (hk : k < n) (hn : n ≤ 64) (h : ∀ i, i < n → W.cell? ⟨g, i, none⟩ = some (.int .i64 (d.getD i 0))) :
    IsI (W.setCell ⟨g, k, none⟩ (.int .i64 (d.getD k 0 + 1))) (.slice (some ⟨g, 0, none⟩) n n) (tickTo d k n) := by
  have hl := tickTo_length d k n
  refine ⟨some ⟨g, 0, none⟩, n, by rw [hl], by rw [hl]; exact Nat.le_refl _, by rw [hl]; omega, .inr ⟨g, 0, rfl, fun i hi => ?_⟩⟩
  rw [← getD_at hi, tickTo_getD, if_pos (by omega), Nat.zero_add]
  by_cases e : i = k
  · subst e
    rw [if_pos rfl]
    exact World.cell?_setCell_same _ _ _ (h i hk)
  · rw [if_neg e, World.cell?_setCell_other _ _ _ _ (by intro e2; cases e2; exact e rfl)]
    exact h i (by omega)

theorem tickR_len (d : List Int) (r : Int) : (tickR d r).length ≤ 64 := by
  by_cases h : tickE d r = 0
  · have hc : checkL d = 0 := by
      by_cases hc : checkL d = 0
      · exact hc
      · rw [tickE_check hc] at h; exact absurd h hc
    have hr : ¬ (r < 0 ∨ 64 ≤ r) := fun hr => by rw [tickE_range hc hr] at h; cases h
    have hl := ((checkL_ok d).1 hc).1
    unfold tickR
    rw [if_pos h]
    unfold tickL
    have := trim_length (tickTo d r.toNat (max d.length (r.toNat + 1)))
    rw [tickTo_length] at this
    omega
  · rw [tickR_no h]; simp

end Go.Proofs.YtjcpnjobfedejabDoor
