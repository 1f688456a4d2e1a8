/- A range over a map by stamps. -/
import Derived.Test.YtfgkdbidgbpobaaMpS
import Derived.RangeFuncWrites
import Derived.RangeFuncNested
import Derived.RangeFuncBound
import Derived.RangeFuncCalls
import Derived.RangeFuncLeaves
namespace Go.Proofs.Ytfgkdbidgbpobaa
open Go.RowKit
set_option linter.unusedVariables false
set_option linter.unusedSimpArgs false

/-- Block r goes over the map in block b, which holds D; R is still to come. -/
def IterIs {α : Type} (ky : α → St) (vl : α → Value) (w : World) (b r : Nat) (D R : List α) : Prop := ∃ es clock since seen c0, w.heap[r]? = some (.mapIter (some b) since seen c0) ∧ w.heap[b]? = some (.map es clock) ∧ MapE ky vl es clock D ∧ (∀ x ∈ es.toList, x.born < since) ∧ since ≤ c0 ∧ since ≤ clock ∧ (leftOf es seen).toList.map entE = R.map (entV ky vl)
theorem IterIs.map {α : Type} {ky : α → St} {vl : α → Value} {w : World} {b r : Nat} {D R : List α} (h : IterIs ky vl w b r D R) : MapIs ky vl w b D := by
  obtain ⟨es, clock, _, _, _, _, h1, h2, _⟩ := h
  exact ⟨es, clock, h1, h2⟩
theorem IterIs.keep {α : Type} {ky : α → St} {vl : α → Value} {w w' : World} {b r : Nat} {D R : List α} (h : IterIs ky vl w b r D R) (hb : w'.heap[b]? = w.heap[b]?) (hr : w'.heap[r]? = w.heap[r]?) : IterIs ky vl w' b r D R := by
  obtain ⟨es, clock, since, seen, c0, h1, h2, h3⟩ := h
  exact ⟨es, clock, since, seen, c0, hr.trans h1, hb.trans h2, h3⟩
theorem IterIs.lt {α : Type} {ky : α → St} {vl : α → Value} {w : World} {b r : Nat} {D R : List α} (h : IterIs ky vl w b r D R) : b < w.heap.size ∧ r < w.heap.size ∧ b ≠ r := by
  obtain ⟨es, clock, since, seen, c0, h1, h2, _⟩ := h
  exact ⟨(Array.getElem?_eq_some_iff.1 h2).1, (Array.getElem?_eq_some_iff.1 h1).1, fun e => by rw [e, h1] at h2; cases h2⟩
theorem IterIs.below {α : Type} {ky : α → St} {vl : α → Value} {w w' : World} {b r : Nat} {D R : List α} (h : IterIs ky vl w b r D R) (hb : Below w.heap.size w w') : IterIs ky vl w' b r D R := h.keep (hb.block _ h.lt.1) (hb.block _ h.lt.2.1)
theorem leftOf_none (es : Array MapEntry) : (leftOf es #[]).toList = es.toList := by simp [leftOf]
theorem range_st {α : Type} {ky : α → St} {vl : α → Value} (mT vT : TypeId) (hu : Try.prog.underlying mT = some (.map 33 vT)) {w : World} {b : Nat} {D : List α} (h : MapIs ky vl w b D) : ∃ o : Obj, (Instr.range mT (.map (some b))).run Try.prog w = .ok (.pointer (some ⟨w.heap.size, 0, none⟩)) (w.alloc o) ∧ IterIs ky vl (w.alloc o) b w.heap.size D D := by
  obtain ⟨es, clock, hb, he⟩ := h
  have hlt : b < w.heap.size := (Array.getElem?_eq_some_iff.1 hb).1
  exact ⟨_, run_range_map w _ _ _ b es clock hu hb, es, clock, clock, #[], clock, heap_alloc_new w _, (Below.heap_alloc _ _ _ hlt).trans hb, he, he.old, Nat.le_refl _, Nat.le_refl _, by rw [leftOf_none]; exact he.ent⟩
theorem leftOf_push (es : Array MapEntry) (seen : Array Nat) (e : MapEntry) {L1 L2 : List MapEntry} (h : (leftOf es seen).toList = L1 ++ e :: L2) (hn : (es.toList.map (·.born)).Nodup) : (leftOf es (seen.push e.born)).toList = L1 ++ L2 := by
  have e1 : (leftOf es (seen.push e.born)).toList = (leftOf es seen).toList.filter fun x => !(x.born == e.born) := by
    unfold leftOf
    rw [Array.toList_filter, Array.toList_filter, List.filter_filter]
    congr 1
    funext x
    rw [Array.contains_push]
    cases h1 : seen.contains x.born <;> cases h2 : (x.born == e.born) <;> simp_all
  have hn2 : ((L1 ++ e :: L2).map (·.born)).Nodup := by
    rw [← h]
    unfold leftOf
    rw [Array.toList_filter]
    exact List.Nodup.sublist (List.filter_sublist.map _) hn
  rw [List.map_append, List.map_cons, List.nodup_append] at hn2
  obtain ⟨_, h2, h3⟩ := hn2
  rw [List.nodup_cons] at h2
  rw [e1, h, List.filter_append, List.filter_cons]
  have f1 : L1.filter (fun x => !(x.born == e.born)) = L1 := List.filter_eq_self.2 fun x hx => by
    have := h3 x.born (List.mem_map_of_mem hx) e.born (by simp)
    simpa using this
  have f2 : L2.filter (fun x => !(x.born == e.born)) = L2 := List.filter_eq_self.2 fun x hx => by
    have : x.born ≠ e.born := fun e2 => h2.1 (e2 ▸ List.mem_map_of_mem hx)
    simpa using this
  rw [f1, f2]
  simp
/-- A step: nothing is left, or one of those that are left comes. -/
theorem next_st {α : Type} {ky : α → St} {vl : α → Value} {w : World} {b r : Nat} {D R : List α} (h : IterIs ky vl w b r D R) (ty : TypeId) :
    (R = [] ∧ (Instr.next (.pointer (some ⟨r, 0, none⟩)) false ty).run Try.prog w = .ok (.tuple #[.bool false]) w) ∨
    ∃ R1 x R2 w', R = R1 ++ x :: R2 ∧ (Instr.next (.pointer (some ⟨r, 0, none⟩)) false ty).run Try.prog w = .ok (.tuple #[.bool true, stV (ky x), vl x]) w' ∧ IterIs ky vl w' b r D (R1 ++ R2) ∧ w.grownBy w' (some r) ∧ w'.heap.size = w.heap.size ∧ (Instr.entry (.pointer (some ⟨r, 0, none⟩))).run Try.prog w' = .ok (.tuple #[stV (ky x), vl x]) w' := by
  have hne := h.lt.2.2
  obtain ⟨es, clock, since, seen, c0, hr, hb, he, hold, hs1, hs2, hl⟩ := h
  rcases run_next_at (P := Try.prog) w ty r b since c0 seen es clock hr hb hold hs1 with ⟨h0, hrun⟩ | ⟨e, hmem, w1, hal, hrun⟩
  · refine .inl ⟨?_, hrun⟩
    have : (leftOf es seen).toList = [] := by
      rw [← List.length_eq_zero_iff]
      simpa using h0
    rw [this] at hl
    simpa using hl.symm
  · obtain ⟨L1, L2, hL⟩ := List.append_of_mem hmem
    rw [hL, List.map_append, List.map_cons] at hl
    obtain ⟨R1, R', rfl, e1, e2⟩ := List.map_eq_append_iff.1 hl.symm
    obtain ⟨x, R2, rfl, e3, e4⟩ := List.map_eq_cons_iff.1 e2
    have e5 : e.key = stV (ky x) ∧ e.val = vl x := by
      have := e3.symm
      simp only [entE, entV, Prod.mk.injEq] at this
      exact this
    have hr1 : w1.heap[r]? = some (.mapIter (some b) since seen c0) := by rcases hal with rfl | rfl <;> exact hr
    have hb1 : w1.heap[b]? = some (.map es clock) := by rcases hal with rfl | rfl <;> exact hb
    have hz1 : w1.heap.size = w.heap.size := by rcases hal with rfl | rfl <;> rfl
    have hrlt : r < w1.heap.size := (Array.getElem?_eq_some_iff.1 hr1).1
    have hset : (ChangeMaps.setBlock w1 r (.mapIter (some b) since (seen.push e.born) clock)).heap[r]? = some (.mapIter (some b) since (seen.push e.born) clock) := by
      simp [ChangeMaps.setBlock, hrlt]
    have hoth : ∀ i, i ≠ r → (ChangeMaps.setBlock w1 r (.mapIter (some b) since (seen.push e.born) clock)).heap[i]? = w1.heap[i]? := fun i hi => by
      simp [ChangeMaps.setBlock, Array.getElem?_setIfInBounds, Ne.symm hi]
    have hmes : e ∈ es.toList := by
      have : e ∈ (leftOf es seen).toList := hmem
      unfold leftOf at this
      rw [Array.toList_filter] at this
      exact (List.mem_filter.1 this).1
    refine .inr ⟨R1, x, R2, _, rfl, by rw [hrun, e5.1, e5.2], ⟨es, clock, since, seen.push e.born, clock, hset, (hoth b hne).trans hb1, he, hold, hs2, hs2, ?_⟩, ?_, by simp [ChangeMaps.setBlock, hz1], ?_⟩
    · rw [leftOf_push es seen e hL he.nod, List.map_append, List.map_append, e1, e4]
    · rcases hal with rfl | rfl <;> exact ⟨rfl, rfl, rfl, by simp [ChangeMaps.setBlock, hz1], fun i _ hi => hoth i (fun e1 => hi (by rw [e1]))⟩
    · have := run_entry_at (P := Try.prog) _ r b since seen es clock e hset ((hoth b hne).trans hb1) hmes he.nod
      rw [this, e5.1, e5.2]

/-- How many are still to come. -/
def itLeft (w : World) (r : Nat) : Nat := match w.heap[r]? with
  | some (.mapIter (some b) _ seen _) => (match w.heap[b]? with | some (.map es _) => (leftOf es seen).size | _ => 0)
  | _ => 0
theorem IterIs.left {α : Type} {ky : α → St} {vl : α → Value} {w : World} {b r : Nat} {D R : List α} (h : IterIs ky vl w b r D R) : itLeft w r = R.length := by
  obtain ⟨es, clock, since, seen, c0, h1, h2, _, _, _, _, h3⟩ := h
  unfold itLeft
  rw [h1]
  simp only [h2]
  have := congrArg List.length h3
  simpa using this
theorem IterIs.walk {α : Type} {ky : α → St} {vl : α → Value} {w : World} {b r : Nat} {D R : List α} (h : IterIs ky vl w b r D R) : ∃ o : Obj, w.heap[r]? = some o ∧ o.isWalk = true := by
  obtain ⟨es, clock, since, seen, c0, h1, _⟩ := h
  exact ⟨_, h1, rfl⟩

end Go.Proofs.Ytfgkdbidgbpobaa
