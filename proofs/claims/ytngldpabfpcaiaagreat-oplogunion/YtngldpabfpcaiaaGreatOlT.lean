/- What writes to a log: what lies elsewhere lies as it lay; a log of which a part is written. -/
import Derived.Test.YtngldpabfpcaiaaGreatOlI
import Derived.Test.YtngldpabfpcaiaaGreatOlC
namespace Go.Proofs.YtngldpabfpcaiaaGreat
open Go.RowKit
set_option linter.unusedVariables false
set_option linter.unusedSimpArgs false

/-- Nothing but blocks of F has changed, and what is new. -/
structure Touch (F : Nat → Prop) (w w' : World) : Prop where
  os : w'.os = w.os
  tape : w'.tape = w.tape
  output : w'.output = w.output
  size : w.heap.size ≤ w'.heap.size
  block : ∀ k, k < w.heap.size → ¬ F k → w'.heap[k]? = w.heap[k]?
theorem Touch.refl (F : Nat → Prop) (w : World) : Touch F w w := ⟨rfl, rfl, rfl, Nat.le_refl _, fun _ _ _ => rfl⟩
theorem Touch.of_below {F : Nat → Prop} {w w' : World} (h : Below w.heap.size w w') : Touch F w w' := ⟨h.os, h.tape, h.output, h.size, fun k hk _ => h.block k hk⟩
theorem Touch.of_grown {F : Nat → Prop} {w w' : World} {row : Option Nat} (h : w.grownBy w' row) (hr : ∀ k, row = some k → k < w.heap.size → F k) : Touch F w w' := ⟨h.os, h.tape, h.output, h.size, fun k hk hF => h.block k hk fun e => hF (hr k e.symm hk)⟩
theorem Touch.trans {F F' : Nat → Prop} {a b c : World} (h : Touch F a b) (k : Touch F' b c) (hF : ∀ j, F' j → F j ∨ a.heap.size ≤ j) : Touch F a c :=
  ⟨k.os.trans h.os, k.tape.trans h.tape, k.output.trans h.output, Nat.le_trans h.size k.size, fun j hj hn => (k.block j (Nat.lt_of_lt_of_le hj h.size) (fun h' => (hF j h').elim hn (fun h2 => by omega))).trans (h.block j hj hn)⟩
theorem Touch.mono {F F' : Nat → Prop} {a b : World} (h : Touch F a b) (hF : ∀ j, F j → F' j) : Touch F' a b := ⟨h.os, h.tape, h.output, h.size, fun j hj hn => h.block j hj fun h' => hn (hF j h')⟩
theorem Touch.below {F : Nat → Prop} {w w' : World} (h : Touch F w w') {B : Nat} (hB : ∀ k, F k → B ≤ k) (hs : B ≤ w.heap.size) : Below B w w' := ⟨h.os, h.tape, h.output, h.size, fun k hk => h.block k (by omega) fun hF => by have := hB k hF; omega⟩
theorem Touch.keeps {F G : Nat → Prop} {w w' : World} (h : Touch F w w') (hG : ∀ k, G k → k < w.heap.size ∧ ¬ F k) : KeepsS G w w' := ⟨h.size, fun k hk => h.block k (hG k hk).1 (hG k hk).2⟩
theorem grownBy_setCell (W : World) (b i : Nat) (v : Value) : W.grownBy (W.setCell ⟨b, i, none⟩ v) (some b) :=
  ⟨rfl, rfl, rfl, by simp [World.setCell], fun k hk hne => by rw [RowKit.Below.heap_setCell _ _ _ _ (fun e => hne (by rw [e]))]⟩

/-- A log, part by part. -/
structure LogR (F : Nat → Prop) (w : World) (lb : Nat) (room : Int) (mb : Nat) (ord : Value) (own : List Value) (D : List (Ch × Value)) (O : List (Int × Int)) (P : Nat → List (Int × Int)) : Prop where
  row : w.heap[lb]? = some (.cells (logCells room mb ord own) 77)
  len : own.length = 64
  hmap : MapIs w mb D
  hord : S.OwnS 0 w ord O
  hown : ∀ r (h : r < own.length), S.OwnS 0 w own[r] (P r)
  hdep : ∀ x ∈ D, OwnI 0 w x.2 x.1.deps ∧ Sized x.1 ∧ x.1.deps.length ≤ 17592186044416
  fl : F lb
  fm : F mb
  fo : ∀ k, ord.ownBlock = some k → F k
  fr : ∀ r (h : r < own.length) k, own[r].ownBlock = some k → F k
  fd : ∀ x ∈ D, ∀ k, x.2.ownBlock = some k → F k
  dis1 : ∀ r (h : r < own.length) k, ord.ownBlock = some k → own[r].ownBlock ≠ some k
  dis2 : ∀ r (h : r < own.length) r' (h' : r' < own.length), r ≠ r' → ∀ k, own[r].ownBlock = some k → own[r'].ownBlock ≠ some k
  lt : ∀ k, F k → k < w.heap.size
section
variable {F : Nat → Prop} {w w' : World} {lb : Nat} {room : Int} {L : List Ch} {mb : Nat} {ord : Value} {own : List Value} {D : List (Ch × Value)} {O : List (Int × Int)} {P : Nat → List (Int × Int)}
theorem LogIs.raw (h : LogIs F w lb room L mb ord own D) : LogR F w lb room mb ord own D (stL L) (fun r => stL (ofR L (r : Int))) :=
  ⟨h.row, h.len, h.hmap, h.hord, h.hown, h.hdep, h.fl, h.fm, h.fo, h.fr, h.fd, h.dis1, h.dis2, h.lt⟩
theorem LogR.is (h : LogR F w lb room mb ord own D (stL L) (fun r => stL (ofR L (r : Int)))) (hm : ∀ c, c ∈ L ↔ ∃ dv, (c, dv) ∈ D) : LogIs F w lb room L mb ord own D :=
  ⟨h.row, h.len, h.hmap, h.hord, h.hown, h.hdep, hm, h.fl, h.fm, h.fo, h.fr, h.fd, h.dis1, h.dis2, h.lt⟩
theorem LogR.keep (h : LogR F w lb room mb ord own D O P) (hk : KeepsS F w w') : LogR F w' lb room mb ord own D O P where
  row := (hk.2 _ h.fl).trans h.row
  len := h.len
  hmap := by obtain ⟨es, cl, hb, he⟩ := h.hmap; exact ⟨es, cl, (hk.2 _ h.fm).trans hb, he⟩
  hord := ownsRow_keep h.hord fun k e => hk.2 k (h.fo k e)
  hown := fun r hr => ownsRow_keep (h.hown r hr) fun k e => hk.2 k (h.fr r hr k e)
  hdep := fun x hx => ⟨(h.hdep x hx).1.keepF fun k e => hk.2 k (h.fd x hx k e), (h.hdep x hx).2⟩
  fl := h.fl
  fm := h.fm
  fo := h.fo
  fr := h.fr
  fd := h.fd
  dis1 := h.dis1
  dis2 := h.dis2
  lt := fun k hF => Nat.lt_of_lt_of_le (h.lt k hF) hk.1
theorem LogR.below (h : LogR F w lb room mb ord own D O P) (hb : Below w.heap.size w w') : LogR F w' lb room mb ord own D O P := h.keep (KeepsS.of_below hb h.lt)
theorem LogR.cell1 (h : LogR F w lb room mb ord own D O P) : w.cell? ⟨lb, 1, none⟩ = some (.map (some mb)) := by rw [cell_of_row w lb 1 _ _ _ h.row]; rfl
theorem LogR.cell2 (h : LogR F w lb room mb ord own D O P) : w.cell? ⟨lb, 2, none⟩ = some ord := by rw [cell_of_row w lb 2 _ _ _ h.row]; rfl
theorem LogR.cellr (h : LogR F w lb room mb ord own D O P) {r : Nat} (hr : r < own.length) : w.cell? ⟨lb, 3 + r, none⟩ = some own[r] := by
  rw [cell_of_row w lb (3 + r) _ _ _ h.row]
  unfold logCells
  rw [List.getElem?_toArray, show 3 + r = r + 1 + 1 + 1 by omega, List.getElem?_cons_succ, List.getElem?_cons_succ, List.getElem?_cons_succ]
  exact List.getElem?_eq_getElem hr
theorem LogR.free (h : LogR F w lb room mb ord own D O P) (i : Nat) : w.frozen? ⟨lb, i, none⟩ = false := frozen_of_row w lb i _ _ h.row
/-- The map's block is none of the others; nor is the struct's. -/
theorem LogR.mapNe (h : LogR F w lb room mb ord own D O P) : mb ≠ lb ∧ ord.ownBlock ≠ some mb ∧ (∀ r (hr : r < own.length), own[r].ownBlock ≠ some mb) ∧ ∀ x ∈ D, x.2.ownBlock ≠ some mb := by
  obtain ⟨es, cl, hb, _⟩ := h.hmap
  refine ⟨fun e => ?_, fun e => ?_, fun r hr e => ?_, fun x hx e => ?_⟩
  · have := h.row
    rw [← e, hb] at this
    cases this
  · obtain ⟨cur, hc⟩ := ownsRow_type h.hord _ e
    rw [hb] at hc; cases hc
  · obtain ⟨cur, hc⟩ := ownsRow_type (h.hown r hr) _ e
    rw [hb] at hc; cases hc
  · obtain ⟨cur, hc⟩ := ownsRow_type (h.hdep x hx).1 _ e
    rw [hb] at hc; cases hc
theorem LogR.rowNe (h : LogR F w lb room mb ord own D O P) : ord.ownBlock ≠ some lb ∧ (∀ r (hr : r < own.length), own[r].ownBlock ≠ some lb) ∧ ∀ x ∈ D, x.2.ownBlock ≠ some lb := by
  have hr0 := h.row
  refine ⟨fun e => ?_, fun r hr e => ?_, fun x hx e => ?_⟩
  · obtain ⟨cur, hc⟩ := ownsRow_type h.hord _ e
    rw [hr0] at hc
    simp at hc
  · obtain ⟨cur, hc⟩ := ownsRow_type (h.hown r hr) _ e
    rw [hr0] at hc
    simp at hc
  · obtain ⟨cur, hc⟩ := ownsRow_type (h.hdep x hx).1 _ e
    rw [hr0] at hc
    simp at hc
/-- A change more in the map. -/
theorem LogR.store (h : LogR F w lb room mb ord own D O P) {c : Ch} {dv : Value} (hm : MapIs w' mb (D ++ [(c, dv)])) (hg : w.grownBy w' (some mb)) (ho : OwnI 0 w dv c.deps) (hs : Sized c ∧ c.deps.length ≤ 17592186044416) :
    LogR (fun k => F k ∨ dv.ownBlock = some k) w' lb room mb ord own (D ++ [(c, dv)]) O P := by
  obtain ⟨n1, n2, n3, n4⟩ := h.mapNe
  have hdl : ∀ k, dv.ownBlock = some k → k < w.heap.size := fun k e => (World.ownsRow.lt ho k e).2
  obtain ⟨es, cl, hb, _⟩ := h.hmap
  have n5 : dv.ownBlock ≠ some mb := fun e => by
    obtain ⟨cur, hc⟩ := ownsRow_type ho _ e
    rw [hb] at hc; cases hc
  refine ⟨(hg.block lb (h.lt _ h.fl) (fun e => n1 (by cases e; rfl))).trans h.row, h.len, hm, ?_, ?_, ?_, .inl h.fl, .inl h.fm, fun k e => .inl (h.fo k e), fun r hr k e => .inl (h.fr r hr k e), ?_, h.dis1, h.dis2, ?_⟩
  · exact ownsRow_keep h.hord fun k e => hg.block k (h.lt k (h.fo k e)) (fun e2 => n2 (by rw [e, e2]))
  · exact fun r hr => ownsRow_keep (h.hown r hr) fun k e => hg.block k (h.lt k (h.fr r hr k e)) (fun e2 => n3 r hr (by rw [e, e2]))
  · intro x hx
    rcases List.mem_append.1 hx with hx | hx
    · exact ⟨(h.hdep x hx).1.keepF fun k e => hg.block k (h.lt k (h.fd x hx k e)) (fun e2 => n4 x hx (by rw [e, e2])), (h.hdep x hx).2⟩
    · rw [List.mem_singleton] at hx
      subst hx
      exact ⟨ho.keepF fun k e => hg.block k (hdl k e) (fun e2 => n5 (by rw [← e2]; exact e)), hs⟩
  · intro x hx k e
    rcases List.mem_append.1 hx with hx | hx
    · exact .inl (h.fd x hx k e)
    · rw [List.mem_singleton] at hx
      subst hx
      exact .inr e
  · intro k hk
    rcases hk with hk | hk
    · exact Nat.lt_of_lt_of_le (h.lt k hk) hg.size
    · exact Nat.lt_of_lt_of_le (hdl k hk) hg.size
theorem own_set_get {own : List Value} {r : Nat} (hr : r < own.length) {u : Value} {j : Nat} (hj : j < (own.set r u).length) : (own.set r u)[j] = if r = j then u else own[j]'(by simpa using hj) := by
  rw [List.getElem_set]
/-- One of the replicas' rows written over, or put in the place of the elder one. -/
theorem LogR.ownSet (h : LogR F w lb room mb ord own D O P) {r : Nat} (hr : r < own.length) {v : Value} {l : List (Int × Int)} (hv : S.OwnS 0 w' v l) (hg : w.grownBy w' own[r].ownBlock) (ha : v.ownBlock = own[r].ownBlock ∨ ∃ k, v.ownBlock = some k ∧ w.heap.size ≤ k) :
    LogR (fun k => F k ∨ v.ownBlock = some k) (w'.setCell ⟨lb, 3 + r, none⟩ v) lb room mb ord (own.set r v) D O (fun j => if r = j then l else P j) := by
  obtain ⟨n1, n2, n3, n4⟩ := h.mapNe
  obtain ⟨m1, m2, m3⟩ := h.rowNe
  have old : ∀ k, F k → own[r].ownBlock ≠ some k → w'.heap[k]? = w.heap[k]? := fun k hk hne => hg.block k (h.lt k hk) (fun e => hne e.symm)
  have hvl : v.ownBlock ≠ some lb := fun e => by
    rcases ha with ha | ⟨k, e2, h2⟩
    · exact m2 r hr (by rw [← ha, e])
    · rw [e2] at e; cases e; exact absurd (h.lt _ h.fl) (by omega)
  have hrow : w'.heap[lb]? = some (.cells (logCells room mb ord own) 77) := (old lb h.fl (m2 r hr)).trans h.row
  have hrow2 : (w'.setCell ⟨lb, 3 + r, none⟩ v).heap[lb]? = some (.cells (logCells room mb ord (own.set r v)) 77) := by
    rw [setCell_eq_setRow w' lb (3 + r) _ _ _ v hrow]
    have := setRow_heap w' lb _ ((logCells room mb ord own).setIfInBounds (3 + r) v) _ _ hrow
    rw [this]
    congr 2
    unfold logCells
    rw [List.setIfInBounds_toArray, show 3 + r = r + 1 + 1 + 1 by omega, List.set_cons_succ, List.set_cons_succ, List.set_cons_succ]
  have off : ∀ k, k ≠ lb → (w'.setCell ⟨lb, 3 + r, none⟩ v).heap[k]? = w'.heap[k]? := fun k hk => RowKit.Below.heap_setCell _ _ _ _ hk
  have hset : ∀ j (hj : j < (own.set r v).length), (own.set r v)[j] = if r = j then v else own[j]'(by simpa using hj) := fun j hj => own_set_get hr hj
  refine ⟨hrow2, by simpa using h.len, ?_, ?_, ?_, ?_, .inl h.fl, .inl h.fm, fun k e => .inl (h.fo k e), ?_, fun x hx k e => .inl (h.fd x hx k e), ?_, ?_, ?_⟩
  · obtain ⟨es, cl, hb, he⟩ := h.hmap
    exact ⟨es, cl, (off mb n1).trans ((old mb h.fm (n3 r hr)).trans hb), he⟩
  · refine ownsRow_keep h.hord fun k e => (off k (fun e2 => m1 (by rw [e, e2]))).trans (old k (h.fo k e) (h.dis1 r hr k e))
  · intro j hj
    have hj' : j < own.length := by simpa using hj
    rw [hset j hj]
    by_cases hrj : r = j
    · rw [if_pos hrj, if_pos hrj]
      exact ownsRow_keep hv fun k e => off k (fun e2 => hvl (by rw [e, e2]))
    · rw [if_neg hrj, if_neg hrj]
      exact ownsRow_keep (h.hown j hj') fun k e => (off k (fun e2 => m2 j hj' (by rw [e, e2]))).trans (old k (h.fr j hj' k e) (fun e2 => h.dis2 r hr j hj' hrj k e2 e))
  · intro x hx
    refine ⟨(h.hdep x hx).1.keepF fun k e => (off k (fun e2 => m3 x hx (by rw [e, e2]))).trans (old k (h.fd x hx k e) (ownsRow_apart (h.hdep x hx).1 (h.hown r hr) (by decide) k e)), (h.hdep x hx).2⟩
  · intro j hj k e
    have hj' : j < own.length := by simpa using hj
    rw [hset j hj] at e
    by_cases hrj : r = j
    · rw [if_pos hrj] at e; exact .inr e
    · rw [if_neg hrj] at e; exact .inl (h.fr j hj' k e)
  · intro j hj k e
    have hj' : j < own.length := by simpa using hj
    rw [hset j hj]
    by_cases hrj : r = j
    · rw [if_pos hrj]
      rcases ha with ha | ⟨k2, e2, h2⟩
      · rw [ha]; exact h.dis1 r hr k e
      · rw [e2]; intro e3; cases e3; exact absurd (h.lt _ (h.fo _ e)) (by omega)
    · rw [if_neg hrj]; exact h.dis1 j hj' k e
  · intro j hj j' hjj' hne k e
    have h1 : j < own.length := by simpa using hj
    have h2 : j' < own.length := by simpa using hjj'
    rw [hset j hj] at e
    rw [hset j' hjj']
    by_cases hrj : r = j
    · rw [if_pos hrj] at e
      rw [if_neg (fun e2 => hne (by rw [← hrj, ← e2]))]
      rcases ha with ha | ⟨k2, e2, h3⟩
      · rw [ha] at e
        exact h.dis2 r hr j' h2 (fun e2 => hne (by rw [← hrj, e2])) k e
      · rw [e2] at e; cases e
        intro e3; exact absurd (h.lt _ (h.fr j' h2 _ e3)) (by omega)
    · rw [if_neg hrj] at e
      by_cases hrj' : r = j'
      · rw [if_pos hrj']
        rcases ha with ha | ⟨k2, e2, h3⟩
        · rw [ha]; exact fun e3 => h.dis2 r hr j h1 hrj k e3 e
        · rw [e2]; intro e3; cases e3; exact absurd (h.lt _ (h.fr j h1 _ e)) (by omega)
      · rw [if_neg hrj']; exact h.dis2 j h1 j' h2 hne k e
  · intro k hk
    have hsz : w'.heap.size ≤ (w'.setCell ⟨lb, 3 + r, none⟩ v).heap.size := by simp [World.setCell]
    rcases hk with hk | hk
    · exact Nat.lt_of_lt_of_le (h.lt k hk) (Nat.le_trans hg.size hsz)
    · exact Nat.lt_of_lt_of_le (World.ownsRow.lt hv k hk).2 hsz
/-- .. and so the row of all. -/
theorem LogR.ordSet (h : LogR F w lb room mb ord own D O P) {v : Value} {l : List (Int × Int)} (hv : S.OwnS 0 w' v l) (hg : w.grownBy w' ord.ownBlock) (ha : v.ownBlock = ord.ownBlock ∨ ∃ k, v.ownBlock = some k ∧ w.heap.size ≤ k) :
    LogR (fun k => F k ∨ v.ownBlock = some k) (w'.setCell ⟨lb, 2, none⟩ v) lb room mb v own D l P := by
  obtain ⟨n1, n2, n3, n4⟩ := h.mapNe
  obtain ⟨m1, m2, m3⟩ := h.rowNe
  have old : ∀ k, F k → ord.ownBlock ≠ some k → w'.heap[k]? = w.heap[k]? := fun k hk hne => hg.block k (h.lt k hk) (fun e => hne e.symm)
  have hvl : v.ownBlock ≠ some lb := fun e => by
    rcases ha with ha | ⟨k, e2, h2⟩
    · exact m1 (by rw [← ha, e])
    · rw [e2] at e; cases e; exact absurd (h.lt _ h.fl) (by omega)
  have hrow : w'.heap[lb]? = some (.cells (logCells room mb ord own) 77) := (old lb h.fl m1).trans h.row
  have hrow2 : (w'.setCell ⟨lb, 2, none⟩ v).heap[lb]? = some (.cells (logCells room mb v own) 77) := by
    rw [setCell_eq_setRow w' lb 2 _ _ _ v hrow]
    have := setRow_heap w' lb _ ((logCells room mb ord own).setIfInBounds 2 v) _ _ hrow
    rw [this]
    rfl
  have off : ∀ k, k ≠ lb → (w'.setCell ⟨lb, 2, none⟩ v).heap[k]? = w'.heap[k]? := fun k hk => RowKit.Below.heap_setCell _ _ _ _ hk
  refine ⟨hrow2, h.len, ?_, ?_, ?_, ?_, .inl h.fl, .inl h.fm, fun k e => .inr e, fun r hr k e => .inl (h.fr r hr k e), fun x hx k e => .inl (h.fd x hx k e), ?_, h.dis2, ?_⟩
  · obtain ⟨es, cl, hb, he⟩ := h.hmap
    exact ⟨es, cl, (off mb n1).trans ((old mb h.fm n2).trans hb), he⟩
  · exact ownsRow_keep hv fun k e => off k (fun e2 => hvl (by rw [e, e2]))
  · intro j hj
    exact ownsRow_keep (h.hown j hj) fun k e => (off k (fun e2 => m2 j hj (by rw [e, e2]))).trans (old k (h.fr j hj k e) (fun e2 => h.dis1 j hj k e2 e))
  · intro x hx
    exact ⟨(h.hdep x hx).1.keepF fun k e => (off k (fun e2 => m3 x hx (by rw [e, e2]))).trans (old k (h.fd x hx k e) (ownsRow_apart (h.hdep x hx).1 h.hord (by decide) k e)), (h.hdep x hx).2⟩
  · intro j hj k e
    rcases ha with ha | ⟨k2, e2, h3⟩
    · rw [ha] at e; exact h.dis1 j hj k e
    · rw [e2] at e; cases e
      intro e3; exact absurd (h.lt _ (h.fr j hj _ e3)) (by omega)
  · intro k hk
    have hsz : w'.heap.size ≤ (w'.setCell ⟨lb, 2, none⟩ v).heap.size := by simp [World.setCell]
    rcases hk with hk | hk
    · exact Nat.lt_of_lt_of_le (h.lt k hk) (Nat.le_trans hg.size hsz)
    · exact Nat.lt_of_lt_of_le (World.ownsRow.lt hv k hk).2 hsz
end

end Go.Proofs.YtngldpabfpcaiaaGreat
