/- A buffer in memory: the struct, the map, which blocks these are; empty, orEmpty, New, Len, Room. -/
import Derived.Test.YthndgmnckpimmaaCaA
import Derived.Test.YthndgmnckpimmaaCaK
namespace Go.Proofs.Ythndgmnckpimmaa
open Go.RowKit
set_option linter.unusedVariables false
set_option linter.unusedSimpArgs false

/-- No two stand at one place; each is right. -/
structure HoldOk (D : List (Ch × Value)) : Prop where
  apart : D.Pairwise fun x y => ¬ (x.1.ar = y.1.ar ∧ x.1.seq = y.1.seq)
  right : ∀ x ∈ D, checkCh x.1 = 0 ∧ Sized x.1
theorem HoldOk.nil : HoldOk [] := ⟨List.Pairwise.nil, fun x h => by simp at h⟩
/-- A buffer: the struct at bb, the map at mb, which holds D. -/
structure BufIs (F : Nat → Prop) (w : World) (bb : Nat) (room : Int) (mb : Nat) (D : List (Ch × Value)) : Prop where
  row : w.heap[bb]? = some (.cells #[.int .i64 room, .map (some mb)] 76)
  hmap : MapIs w mb D
  hdep : ∀ x ∈ D, OwnI 0 w x.2 x.1.deps
  ok : HoldOk D
  fl : F bb
  fm : F mb
  fd : ∀ x ∈ D, ∀ k, x.2.ownBlock = some k → F k
  lt : ∀ k, F k → k < w.heap.size
variable {F : Nat → Prop} {w w' : World} {bb : Nat} {room : Int} {mb : Nat} {D : List (Ch × Value)}
theorem BufIs.keep (h : BufIs F w bb room mb D) (hk : KeepsS F w w') : BufIs F w' bb room mb D where
  row := (hk.2 _ h.fl).trans h.row
  hmap := h.hmap.keep (hk.2 _ h.fm)
  hdep := fun x hx => (h.hdep x hx).keepF fun k e => hk.2 k (h.fd x hx k e)
  ok := h.ok
  fl := h.fl
  fm := h.fm
  fd := h.fd
  lt := fun k hF => Nat.lt_of_lt_of_le (h.lt k hF) hk.1
theorem BufIs.below (h : BufIs F w bb room mb D) (hb : Below w.heap.size w w') : BufIs F w' bb room mb D := h.keep (KeepsS.of_below hb h.lt)
theorem BufIs.cell0 (h : BufIs F w bb room mb D) : w.cell? ⟨bb, 0, none⟩ = some (.int .i64 room) := by rw [cell_of_row w bb 0 _ _ _ h.row]; rfl
theorem BufIs.cell1 (h : BufIs F w bb room mb D) : w.cell? ⟨bb, 1, none⟩ = some (.map (some mb)) := by rw [cell_of_row w bb 1 _ _ _ h.row]; rfl
/-- A buffer, or a nil one. -/
def BufV (F : Nat → Prop) (w : World) (v : Value) (room : Int) (D : List (Ch × Value)) : Prop := (∃ bb mb, v = .pointer (some ⟨bb, 0, none⟩) ∧ BufIs F w bb room mb D) ∨ (v = .pointer none ∧ room = 0 ∧ D = [] ∧ ∀ k, F k → k < w.heap.size)
theorem BufV.below {v : Value} (h : BufV F w v room D) (hb : Below w.heap.size w w') : BufV F w' v room D := h.imp (fun ⟨bb, mb, e, h⟩ => ⟨bb, mb, e, h.below hb⟩) (fun ⟨e1, e2, e3, h⟩ => ⟨e1, e2, e3, fun k hF => Nat.lt_of_lt_of_le (h k hF) hb.size⟩)
theorem BufIs.v (h : BufIs F w bb room mb D) : BufV F w (.pointer (some ⟨bb, 0, none⟩)) room D := .inl ⟨bb, mb, rfl, h⟩

set_option maxRecDepth 100000 in
set_option maxHeartbeats 1000000 in
theorem empty_any (room : Int) (w : World) :
    Calls Try.prog 24 #[.int .i64 room] w fun e w' => ∃ bb mb, e = .returned (.pointer (some ⟨bb, 0, none⟩)) ∧ BufIs (fun k => k = mb ∨ k = bb) w' bb room mb [] ∧ w.heap.size ≤ bb ∧ w.heap.size ≤ mb ∧ Below w.heap.size w w' := by
  have hmm := @run_makeMap Try.prog
  go_enter Try.func24, Try.ntmps24
  go_wp2
  go_ret
  have hB : Below w.heap.size w ((w.alloc (.map #[] 0)).alloc (.cells #[.int .i64 room, .map (some w.heap.size)] 76)) := ((Below.refl _ _).alloc (Nat.le_refl _) _).alloc (by simp) _
  have h0 := heap_alloc_new (w.alloc (.map #[] 0)) (.cells #[.int .i64 room, .map (some w.heap.size)] 76)
  rw [show (w.alloc (.map #[] 0)).heap.size = w.heap.size + 1 by simp] at h0
  refine ⟨w.heap.size + 1, w.heap.size, rfl, ⟨h0, (MapIs.new w).keep (Below.heap_alloc _ _ _ (by simp)), fun x h => (by simp at h), HoldOk.nil, .inr rfl, .inl rfl, fun x h => (by simp at h), fun k hk => ?_⟩, by omega, by omega, hB⟩
  rcases hk with rfl | rfl <;> (simp; try omega)

set_option maxHeartbeats 1000000 in
theorem orEmpty_any (v : Value) (room : Int) (D : List (Ch × Value)) (F : Nat → Prop) (w : World) (h : BufV F w v room D) :
    Calls Try.prog 34 #[v] w fun e w' => ∃ bb mb F', e = .returned (.pointer (some ⟨bb, 0, none⟩)) ∧ BufIs F' w' bb room mb D ∧ Below w.heap.size w w' ∧ (∀ k, F' k → F k ∨ w.heap.size ≤ k) ∧ (v = .pointer none ∨ v = .pointer (some ⟨bb, 0, none⟩)) := by
  rcases h with ⟨bb, mb, rfl, h⟩ | ⟨rfl, rfl, rfl, hF⟩
  · have H : Hid (BufIs F w bb room mb D) := h
    clear h
    go_enter Try.func34, Try.ntmps34
    go_wp2
    go_ret
    exact ⟨bb, mb, F, rfl, H.out, Below.refl _ _, fun k hk => .inl hk, .inr rfl⟩
  · go_enter Try.func34, Try.ntmps34
    go_wp2_with fail
    refine (empty_any 0 _).mono ?_
    rintro e w' ⟨bb, mb, rfl, h1, h3, h4, h2⟩
    have H1 : Hid (BufIs (fun k => k = mb ∨ k = bb) w' bb 0 mb []) := h1
    clear h1
    go_wp2
    go_ret
    exact ⟨bb, mb, _, rfl, H1.out, h2, fun k hk => .inr (by rcases hk with rfl | rfl <;> omega), by first | exact .inl rfl | exact .inl trivial⟩

theorem len_pl {w : World} {b : Nat} {D : List (Ch × Value)} (h : MapIs w b D) : (Builtin.len_ #[74] 3 #[.map (some b)]).run Try.prog w = .ok (.int .i64 (D.length : Int)) w := by
  obtain ⟨es, cl, hb, hz⟩ := h.size
  simp [Builtin.len_, run_underlying Try.underlying74, run_underlying Try.underlying3, MapKept.run_getObj_map hb, hz, Result.andThen]
  rfl

set_option maxRecDepth 100000 in
set_option maxHeartbeats 1000000 in
theorem len_any (v : Value) (room : Int) (D : List (Ch × Value)) (F : Nat → Prop) (w : World) (h : BufV F w v room D) :
    Calls Try.prog 22 #[v] w fun e w' => e = .returned (.int .i64 (D.length : Int)) ∧ Below w.heap.size w w' := by
  go_enter Try.func22, Try.ntmps22
  go_wp2_with fail
  refine (orEmpty_any v room D F w h).mono ?_
  rintro e w' ⟨bb, mb, F', rfl, h1, h2, _⟩
  have e2 := h1.cell1
  have hln := len_pl h1.hmap
  clear h1
  go_wp2
  go_ret
  exact ⟨rfl, h2⟩

set_option maxHeartbeats 1000000 in
theorem room_any (v : Value) (room : Int) (D : List (Ch × Value)) (F : Nat → Prop) (w : World) (h : BufV F w v room D) :
    Calls Try.prog 42 #[v] w fun e w' => e = .returned (.int .i64 room) ∧ Below w.heap.size w w' := by
  go_enter Try.func42, Try.ntmps42
  go_wp2_with fail
  refine (orEmpty_any v room D F w h).mono ?_
  rintro e w' ⟨bb, mb, F', rfl, h1, h2, _⟩
  have e2 := h1.cell0
  clear h1
  go_wp2
  go_ret
  exact ⟨rfl, h2⟩

/-- What New answers. -/
def NewP (room : Int) (w : World) (e : Ending) (w' : World) : Prop := ((room < 0 ∨ 256 < room) ∧ e = .returned (.tuple #[.pointer none, .int .i64 1])) ∨ ((0 ≤ room ∧ room ≤ 256) ∧ ∃ bb mb, e = .returned (.tuple #[.pointer (some ⟨bb, 0, none⟩), .int .i64 0]) ∧ BufIs (fun k => k = mb ∨ k = bb) w' bb room mb [] ∧ w.heap.size ≤ bb ∧ w.heap.size ≤ mb)

set_option maxHeartbeats 1000000 in
theorem new_any (room : Int) (w : World) :
    Calls Try.prog 6 #[.int .i64 room] w fun e w' => NewP room w e w' ∧ Below w.heap.size w w' := by
  by_cases h0 : room < 0
  · go_enter Try.func6, Try.ntmps6
    go_wp2
    go_ret2
    exact ⟨.inl ⟨.inl h0, rfl⟩, Below.refl _ _⟩
  · by_cases h1 : 256 < room
    · go_enter Try.func6, Try.ntmps6
      go_wp2
      go_ret2
      exact ⟨.inl ⟨.inr h1, rfl⟩, Below.refl _ _⟩
    · go_enter Try.func6, Try.ntmps6
      go_wp2_with fail
      refine (empty_any room _).mono ?_
      rintro e w' ⟨bb, mb, rfl, h3, h4, h5, h2⟩
      have H1 : Hid (BufIs (fun k => k = mb ∨ k = bb) w' bb room mb []) := h3
      clear h3
      go_wp2
      go_ret2
      exact ⟨.inr ⟨⟨by omega, by omega⟩, bb, mb, rfl, H1.out, h4, h5⟩, h2⟩

end Go.Proofs.Ythndgmnckpimmaa
