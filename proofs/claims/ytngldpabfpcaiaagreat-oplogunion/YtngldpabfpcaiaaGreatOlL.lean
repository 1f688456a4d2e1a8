/- A log in memory: the struct, the map, the rows, which blocks these are. -/
import Derived.Test.YtngldpabfpcaiaaGreatOlK
import Derived.Test.YtngldpabfpcaiaaGreatOlM
import Derived.Test.YtngldpabfpcaiaaGreatPlainN
namespace Go.Proofs.YtngldpabfpcaiaaGreat
open Go.RowKit
set_option linter.unusedVariables false
set_option linter.unusedSimpArgs false

/-- Changes' stamps. -/
def stL (L : List Ch) : List (Int × Int) := L.map fun c => (c.ac, c.ar)
theorem stL_length (L : List Ch) : (stL L).length = L.length := by simp [stL]
theorem stL_append (L M : List Ch) : stL (L ++ M) = stL L ++ stL M := by simp [stL]
/-- A log's cells. -/
def logCells (room : Int) (mb : Nat) (ord : Value) (own : List Value) : Array Value := (Value.int .i64 room :: .map (some mb) :: ord :: own).toArray
structure LogIs (F : Nat → Prop) (w : World) (lb : Nat) (room : Int) (L : List Ch) (mb : Nat) (ord : Value) (own : List Value) (D : List (Ch × Value)) : Prop where
  row : w.heap[lb]? = some (.cells (logCells room mb ord own) 77)
  len : own.length = 64
  hmap : MapIs w mb D
  hord : S.OwnS 0 w ord (stL L)
  hown : ∀ r (h : r < own.length), S.OwnS 0 w own[r] (stL (ofR L (r : Int)))
  hdep : ∀ x ∈ D, OwnI 0 w x.2 x.1.deps ∧ Sized x.1 ∧ x.1.deps.length ≤ 17592186044416
  hmem : ∀ c, c ∈ L ↔ ∃ dv, (c, dv) ∈ D
  fl : F lb
  fm : F mb
  fo : ∀ k, ord.ownBlock = some k → F k
  fr : ∀ r (h : r < own.length) k, own[r].ownBlock = some k → F k
  fd : ∀ x ∈ D, ∀ k, x.2.ownBlock = some k → F k
  dis1 : ∀ r (h : r < own.length) k, ord.ownBlock = some k → own[r].ownBlock ≠ some k
  dis2 : ∀ r (h : r < own.length) r' (h' : r' < own.length), r ≠ r' → ∀ k, own[r].ownBlock = some k → own[r'].ownBlock ≠ some k
  lt : ∀ k, F k → k < w.heap.size
/-- .. whatever lies where. -/
def LogOk (F : Nat → Prop) (w : World) (lb : Nat) (room : Int) (L : List Ch) : Prop := ∃ mb ord own D, LogIs F w lb room L mb ord own D
variable {F : Nat → Prop} {w w' : World} {lb : Nat} {room : Int} {L : List Ch} {mb : Nat} {ord : Value} {own : List Value} {D : List (Ch × Value)}
theorem LogIs.keep (h : LogIs F w lb room L mb ord own D) (hk : KeepsS F w w') : LogIs F w' lb room L mb ord own D where
  row := (hk.2 _ h.fl).trans h.row
  len := h.len
  hmap := by obtain ⟨es, cl, hb, he⟩ := h.hmap; exact ⟨es, cl, (hk.2 _ h.fm).trans hb, he⟩
  hord := ownsRow_keep h.hord fun k e => hk.2 k (h.fo k e)
  hown := fun r hr => ownsRow_keep (h.hown r hr) fun k e => hk.2 k (h.fr r hr k e)
  hdep := fun x hx => ⟨(h.hdep x hx).1.keepF fun k e => hk.2 k (h.fd x hx k e), (h.hdep x hx).2⟩
  hmem := h.hmem
  fl := h.fl
  fm := h.fm
  fo := h.fo
  fr := h.fr
  fd := h.fd
  dis1 := h.dis1
  dis2 := h.dis2
  lt := fun k hF => Nat.lt_of_lt_of_le (h.lt k hF) hk.1
theorem LogIs.below (h : LogIs F w lb room L mb ord own D) (hb : Below w.heap.size w w') : LogIs F w' lb room L mb ord own D := h.keep (KeepsS.of_below hb h.lt)
theorem LogOk.keep (h : LogOk F w lb room L) (hk : KeepsS F w w') : LogOk F w' lb room L := by
  obtain ⟨mb, ord, own, D, h⟩ := h; exact ⟨mb, ord, own, D, h.keep hk⟩
theorem LogOk.below (h : LogOk F w lb room L) (hb : Below w.heap.size w w') : LogOk F w' lb room L := by
  obtain ⟨mb, ord, own, D, h⟩ := h; exact ⟨mb, ord, own, D, h.below hb⟩
theorem LogOk.lt (h : LogOk F w lb room L) : ∀ k, F k → k < w.heap.size := by obtain ⟨_, _, _, _, h⟩ := h; exact h.lt
theorem LogIs.cell0 (h : LogIs F w lb room L mb ord own D) : w.cell? ⟨lb, 0, none⟩ = some (.int .i64 room) := by rw [cell_of_row w lb 0 _ _ _ h.row]; rfl
theorem LogIs.cell1 (h : LogIs F w lb room L mb ord own D) : w.cell? ⟨lb, 1, none⟩ = some (.map (some mb)) := by rw [cell_of_row w lb 1 _ _ _ h.row]; rfl
theorem LogIs.cell2 (h : LogIs F w lb room L mb ord own D) : w.cell? ⟨lb, 2, none⟩ = some ord := by rw [cell_of_row w lb 2 _ _ _ h.row]; rfl
theorem LogIs.cellr (h : LogIs F w lb room L mb ord own D) {r : Nat} (hr : r < own.length) : w.cell? ⟨lb, 3 + r, none⟩ = some own[r] := by
  rw [cell_of_row w lb (3 + r) _ _ _ h.row]
  unfold logCells
  rw [List.getElem?_toArray, show 3 + r = r + 1 + 1 + 1 by omega, List.getElem?_cons_succ, List.getElem?_cons_succ, List.getElem?_cons_succ]
  exact List.getElem?_eq_getElem hr
theorem LogIs.free (h : LogIs F w lb room L mb ord own D) (i : Nat) : w.frozen? ⟨lb, i, none⟩ = false := frozen_of_row w lb i _ _ h.row

set_option maxRecDepth 100000 in
set_option maxHeartbeats 1000000 in
/-- oplog.empty. -/
theorem empty_any (room : Int) (w : World) :
    Calls Tryz.prog 18 #[.int .i64 room] w fun e w' => e = .returned (.pointer (some ⟨w.heap.size + 1, 0, none⟩)) ∧ LogOk (fun k => k = w.heap.size ∨ k = w.heap.size + 1) w' (w.heap.size + 1) room [] ∧ Below w.heap.size w w' := by
  have hmm := @run_makeMap Tryz.prog
  go_enter Tryz.func18, Tryz.ntmps18
  go_wp2
  go_ret
  have hB : Below w.heap.size w ((w.alloc (.map #[] 0)).alloc (.cells ((Tryz.zeroCells77.setIfInBounds 0 (.int .i64 room)).setIfInBounds 1 (.map (some w.heap.size))) 77)) := ((Below.refl _ _).alloc (Nat.le_refl _) _).alloc (by simp) _
  refine ⟨rfl, ⟨w.heap.size, .slice none 0 0, List.replicate 64 (.slice none 0 0), [], ?_⟩, hB⟩
  have e0 : (Tryz.zeroCells77.setIfInBounds 0 (.int .i64 room)).setIfInBounds 1 (.map (some w.heap.size)) = logCells room w.heap.size (.slice none 0 0) (List.replicate 64 (.slice none 0 0)) := by
    kernel_rfl
  have hnb : ∀ (r : Nat) (h : r < (List.replicate 64 (Value.slice none 0 0)).length), (List.replicate 64 (Value.slice none 0 0))[r] = .slice none 0 0 := fun r h => List.getElem_replicate _
  refine ⟨?_, by simp, ⟨#[], 0, ?_, rfl⟩, S.OwnS.nil0 _ _, fun r h => ?_, fun x h => (by simp at h), fun c => (by simp), .inr rfl, .inl rfl, fun k e => (by cases e), fun r h k e => ?_, fun x h => (by simp at h), fun r h k e => (by cases e), fun r h r' h' _ k e => ?_, fun k hk => ?_⟩
  · rw [e0]
    have h0 := heap_alloc_new (w.alloc (.map #[] 0)) (.cells (logCells room w.heap.size (.slice none 0 0) (List.replicate 64 (.slice none 0 0))) 77)
    rw [show (w.alloc (.map #[] 0)).heap.size = w.heap.size + 1 by simp] at h0
    exact h0
  · exact (Below.heap_alloc _ _ _ (by simp)).trans (heap_alloc_new w _)
  · rw [hnb r h]; exact S.OwnS.nil0 _ _
  · rw [hnb r h] at e; cases e
  · rw [hnb r h] at e; cases e
  · rcases hk with rfl | rfl <;> (simp; try omega)

/-- A log or a nil one. -/
def LogV (F : Nat → Prop) (w : World) (v : Value) (room : Int) (L : List Ch) : Prop := (∃ lb, v = .pointer (some ⟨lb, 0, none⟩) ∧ LogOk F w lb room L) ∨ (v = .pointer none ∧ room = 0 ∧ L = [] ∧ ∀ k, F k → k < w.heap.size)
theorem LogV.keep {v : Value} (h : LogV F w v room L) (hk : KeepsS F w w') : LogV F w' v room L := h.imp (fun ⟨lb, e, h⟩ => ⟨lb, e, h.keep hk⟩) (fun ⟨e1, e2, e3, h⟩ => ⟨e1, e2, e3, fun k hF => Nat.lt_of_lt_of_le (h k hF) hk.1⟩)
theorem LogV.below {v : Value} (h : LogV F w v room L) (hb : Below w.heap.size w w') : LogV F w' v room L := h.imp (fun ⟨lb, e, h⟩ => ⟨lb, e, h.below hb⟩) (fun ⟨e1, e2, e3, h⟩ => ⟨e1, e2, e3, fun k hF => Nat.lt_of_lt_of_le (h k hF) hb.size⟩)
theorem LogV.lt {v : Value} (h : LogV F w v room L) : ∀ k, F k → k < w.heap.size := by
  rcases h with ⟨lb, _, h⟩ | ⟨_, _, _, h⟩
  · exact h.lt
  · exact h
theorem LogOk.v (h : LogOk F w lb room L) : LogV F w (.pointer (some ⟨lb, 0, none⟩)) room L := .inl ⟨lb, rfl, h⟩

set_option maxHeartbeats 1000000 in
theorem orEmpty_any (v : Value) (room : Int) (L : List Ch) (F : Nat → Prop) (w : World) (h : LogV F w v room L) :
    Calls Tryz.prog 20 #[v] w fun e w' => ∃ lb F', e = .returned (.pointer (some ⟨lb, 0, none⟩)) ∧ LogOk F' w' lb room L ∧ Below w.heap.size w w' ∧ ∀ k, F' k → F k ∨ w.heap.size ≤ k := by
  rcases h with ⟨lb, rfl, h⟩ | ⟨rfl, rfl, rfl, hF⟩
  · have H : Hid (LogOk F w lb room L) := h
    clear h
    go_enter Tryz.func20, Tryz.ntmps20
    go_wp2
    go_ret
    exact ⟨lb, F, rfl, H.out, Below.refl _ _, fun k hk => .inl hk⟩
  · go_enter Tryz.func20, Tryz.ntmps20
    go_wp2_with fail
    refine (empty_any 0 _).mono ?_
    rintro e w' ⟨rfl, h1, h2⟩
    have H1 : Hid (LogOk (fun k => k = w.heap.size ∨ k = w.heap.size + 1) w' (w.heap.size + 1) 0 []) := h1
    clear h1
    go_wp2
    go_ret
    exact ⟨w.heap.size + 1, _, rfl, H1.out, h2, fun k hk => .inr (by rcases hk with rfl | rfl <;> omega)⟩

set_option maxHeartbeats 1000000 in
theorem len_any (v : Value) (room : Int) (L : List Ch) (F : Nat → Prop) (w : World) (h : LogV F w v room L) :
    Calls Tryz.prog 26 #[v] w fun e w' => e = .returned (.int .i64 (L.length : Int)) ∧ Below w.heap.size w w' := by
  go_enter Tryz.func26, Tryz.ntmps26
  go_wp2_with fail
  refine (orEmpty_any v room L F w h).mono ?_
  rintro e w' ⟨lb, F', rfl, ⟨mb, ord, own, D, h1⟩, h2, _⟩
  obtain ⟨a, c, e1⟩ := h1.hord.form
  have e2 := h1.cell2
  rw [e1, stL_length] at e2
  clear h1 e1
  go_wp2
  go_ret
  exact ⟨rfl, h2⟩

set_option maxHeartbeats 1000000 in
theorem room_any (v : Value) (room : Int) (L : List Ch) (F : Nat → Prop) (w : World) (h : LogV F w v room L) :
    Calls Tryz.prog 27 #[v] w fun e w' => e = .returned (.int .i64 room) ∧ Below w.heap.size w w' := by
  go_enter Tryz.func27, Tryz.ntmps27
  go_wp2_with fail
  refine (orEmpty_any v room L F w h).mono ?_
  rintro e w' ⟨lb, F', rfl, ⟨mb, ord, own, D, h1⟩, h2, _⟩
  have e2 := h1.cell0
  clear h1
  go_wp2
  go_ret
  exact ⟨rfl, h2⟩

/-- What lies in a row of stamps. -/
theorem OwnS_cells {B : Nat} {w : World} {v : Value} {d : List (Int × Int)} (h : S.OwnS B w v d) {i : Nat} (hi : i < d.length) : ∃ g cap, v = .slice (some ⟨g, 0, none⟩) d.length cap ∧ w.cell? ⟨g, i * 2, none⟩ = some (.int .i64 d[i].1) ∧ w.cell? ⟨g, i * 2 + 1, none⟩ = some (.int .i64 d[i].2) := by
  rcases h.2 with ⟨rfl, hn⟩ | ⟨g, cap, cur, rfl, hg, hc, hcap, rest⟩
  · omega
  · have hf : ∀ (d : List (Int × Int)) (i : Nat) (hi : i < d.length), (S.flat d)[i * 2]? = some (.int .i64 d[i].1) ∧ (S.flat d)[i * 2 + 1]? = some (.int .i64 d[i].2) := by
      intro d
      induction d with
      | nil => intro i hi; simp at hi
      | cons x t ih =>
        intro i hi
        have e : S.flat (x :: t) = .int .i64 x.1 :: .int .i64 x.2 :: S.flat t := rfl
        match i with
        | 0 => exact ⟨rfl, rfl⟩
        | i + 1 =>
          have := ih i (by simpa using hi)
          rw [e, show (i + 1) * 2 = i * 2 + 1 + 1 by omega, show i * 2 + 1 + 1 + 1 = (i * 2 + 1) + 1 + 1 by omega]
          simpa using this
    have h1 := World.ownsRow.cellAt h (i * 2) (by omega)
    have h2 := World.ownsRow.cellAt h (i * 2 + 1) (by omega)
    exact ⟨g, cap, rfl, h1.trans (hf d i hi).1, h2.trans (hf d i hi).2⟩

set_option maxHeartbeats 1000000 in
theorem last_any (v : Value) (room : Int) (L : List Ch) (F : Nat → Prop) (w : World) (h : LogV F w v room L) (hl : L.length ≤ 4096) :
    Calls Tryz.prog 28 #[v] w fun e w' => e = .returned (.int .i64 (lastL L)) ∧ Below w.heap.size w w' := by
  go_enter Tryz.func28, Tryz.ntmps28
  go_wp2_with fail
  refine (orEmpty_any v room L F w h).mono ?_
  rintro e w' ⟨lb, F', rfl, ⟨mb, ord, own, D, h1⟩, h2, _⟩
  by_cases h0 : L = []
  · subst h0
    obtain ⟨a, c, e1⟩ := h1.hord.form
    have e2 := h1.cell2
    rw [e1] at e2
    have e3 : (stL []).length = 0 := rfl
    rw [e3] at e2
    clear h1 e1 e3
    go_wp2
    go_ret
    exact ⟨rfl, h2⟩
  · have hpos : 0 < L.length := by cases L with | nil => exact absurd rfl h0 | cons x y => simp
    obtain ⟨g, cap, e1, x1, x2⟩ := OwnS_cells h1.hord (i := L.length - 1) (by rw [stL_length]; omega)
    have e2 := h1.cell2
    rw [e1, stL_length] at e2
    have e3 : (stL L)[L.length - 1]'(by rw [stL_length]; omega) = (lastL L, (L[L.length - 1]'(by omega)).ar) := by
      unfold lastL stL
      rw [List.getLast?_eq_getElem?, List.getElem?_eq_getElem (by omega)]
      simp
    rw [e3] at x1
    clear h1 e1 e3 x2
    obtain ⟨ll, hll⟩ : ∃ ll, ll = lastL L := ⟨_, rfl⟩
    rw [← hll] at x1
    have HL : Hid (ll = lastL L) := hll
    clear hll
    have q0 : ((L.length : Int) == 0) = false := by simp; omega
    have q1 : (0 : Int) ≤ (L.length : Int) - 1 := by omega
    have q2 : ((L.length : Int) - 1).toNat = L.length - 1 := by omega
    have q3 : (L.length : Int) - 1 < (L.length : Int) := by omega
    go_wp2
    go_ret
    exact ⟨by rw [← HL.out]; rfl, h2⟩

/-- What New answers. -/
def NewP (room : Int) (w : World) (e : Ending) (w' : World) : Prop := ((room < 1 ∨ 4096 < room) ∧ e = .returned (.tuple #[.pointer none, .int .i64 1])) ∨ ((1 ≤ room ∧ room ≤ 4096) ∧ ∃ lb F, e = .returned (.tuple #[.pointer (some ⟨lb, 0, none⟩), .int .i64 0]) ∧ LogOk F w' lb room [] ∧ ∀ k, F k → w.heap.size ≤ k)

set_option maxHeartbeats 1000000 in
/-- oplog.New. -/
theorem new_any (room : Int) (w : World) :
    Calls Tryz.prog 6 #[.int .i64 room] w fun e w' => NewP room w e w' ∧ Below w.heap.size w w' := by
  by_cases h0 : room < 1
  · go_enter Tryz.func6, Tryz.ntmps6
    go_wp2
    go_ret2
    exact ⟨.inl ⟨.inl h0, rfl⟩, Below.refl _ _⟩
  · by_cases h1 : 4096 < room
    · go_enter Tryz.func6, Tryz.ntmps6
      go_wp2
      go_ret2
      exact ⟨.inl ⟨.inr h1, rfl⟩, Below.refl _ _⟩
    · go_enter Tryz.func6, Tryz.ntmps6
      go_wp2_with fail
      refine (empty_any room _).mono ?_
      rintro e w' ⟨rfl, h3, h2⟩
      have H1 : Hid (LogOk (fun k => k = w.heap.size ∨ k = w.heap.size + 1) w' (w.heap.size + 1) room []) := h3
      clear h3
      go_wp2
      go_ret2
      exact ⟨.inr ⟨⟨by omega, by omega⟩, w.heap.size + 1, _, rfl, H1.out, fun k hk => by rcases hk with rfl | rfl <;> omega⟩, h2⟩

end Go.Proofs.YtngldpabfpcaiaaGreat
