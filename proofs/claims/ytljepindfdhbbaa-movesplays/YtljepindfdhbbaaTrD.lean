/- A tree of moves in memory: the struct, its list, its maps, which blocks these are. -/
import Derived.Test.YtljepindfdhbbaaTrC
import Derived.Test.YtljepindfdhbbaaTk
namespace Go.Proofs.Ytljepindfdhbbaa
open Go.RowKit
set_option linter.unusedVariables false
set_option linter.unusedSimpArgs false

structure TrIs (F : Nat → Prop) (w : World) (tb : Nat) (R : List Rw) (k : Nat) (lv : Value) (sb kb : Nat) : Prop where
  row : w.heap[tb]? = some (.cells #[lv, .int .i64 (k : Int), .map (some sb), .map (some kb)] 66)
  own : OwnR 0 w lv R
  st : SMap w sb (doneT ((mvs R).take k))
  kd : KMap w kb (kidsN (doneT ((mvs R).take k)))
  ls : LsD R k
  small : R.length ≤ 4096
  ne : sb ≠ kb
  ft : F tb
  fs : F sb
  fk : F kb
  fl : ∀ g, lv.ownBlock = some g → F g
  lt : ∀ k, F k → k < w.heap.size
section
variable {F F' : Nat → Prop} {w w' : World} {tb : Nat} {R : List Rw} {k : Nat} {lv : Value} {sb kb : Nat}
theorem TrIs.keep (h : TrIs F w tb R k lv sb kb) (hk : KeepsS F w w') : TrIs F w' tb R k lv sb kb where
  row := (hk.2 _ h.ft).trans h.row
  own := h.own.keep fun g e => hk.2 g (h.fl g e)
  st := h.st.keep (hk.2 _ h.fs)
  kd := h.kd.keep (hk.2 _ h.fk)
  ls := h.ls
  small := h.small
  ne := h.ne
  ft := h.ft
  fs := h.fs
  fk := h.fk
  fl := h.fl
  lt := fun j hj => Nat.lt_of_lt_of_le (h.lt j hj) hk.1
theorem TrIs.below (h : TrIs F w tb R k lv sb kb) (hb : Below w.heap.size w w') : TrIs F w' tb R k lv sb kb := h.keep (KeepsS.of_below hb h.lt)
theorem TrIs.drew (h : TrIs F w tb R k lv sb kb) : TrIs F w.drew tb R k lv sb kb := h.below (Below.refl _ _).drew
theorem TrIs.touch (h : TrIs F w tb R k lv sb kb) {G : Nat → Prop} (ht : Touch G w w') (hG : ∀ k, F k → ¬ G k) : TrIs F w' tb R k lv sb kb := h.keep (ht.keeps fun k hk => ⟨h.lt k hk, hG k hk⟩)
theorem TrIs.t0 (h : TrIs F w tb R k lv sb kb) : w.cell? ⟨tb, 0, none⟩ = some lv := by rw [cell_of_row w tb 0 _ _ _ h.row]; rfl
theorem TrIs.t1 (h : TrIs F w tb R k lv sb kb) : w.cell? ⟨tb, 1, none⟩ = some (.int .i64 (k : Int)) := by rw [cell_of_row w tb 1 _ _ _ h.row]; rfl
theorem TrIs.t2 (h : TrIs F w tb R k lv sb kb) : w.cell? ⟨tb, 2, none⟩ = some (.map (some sb)) := by rw [cell_of_row w tb 2 _ _ _ h.row]; rfl
theorem TrIs.t3 (h : TrIs F w tb R k lv sb kb) : w.cell? ⟨tb, 3, none⟩ = some (.map (some kb)) := by rw [cell_of_row w tb 3 _ _ _ h.row]; rfl
theorem TrIs.tz (h : TrIs F w tb R k lv sb kb) (i : Nat) : w.frozen? ⟨tb, i, none⟩ = false := frozen_of_row w tb i _ _ h.row
theorem TrIs.ts (h : TrIs F w tb R k lv sb kb) : tb ≠ sb := fun e => by
  obtain ⟨D, ⟨es, cl, h1, _⟩, _⟩ := h.st
  have h2 := h.row
  rw [e, h1] at h2
  cases h2
theorem TrIs.tk (h : TrIs F w tb R k lv sb kb) : tb ≠ kb := fun e => by
  obtain ⟨D, ⟨es, cl, h1, _⟩, _⟩ := h.kd
  have h2 := h.row
  rw [e, h1] at h2
  cases h2
theorem TrIs.lt3 (h : TrIs F w tb R k lv sb kb) {g : Nat} (e : lv.ownBlock = some g) : g ≠ tb ∧ g ≠ sb ∧ g ≠ kb := by
  obtain ⟨cur, hc⟩ := ownsRow_type h.own g e
  refine ⟨fun e2 => ?_, fun e2 => ?_, fun e2 => ?_⟩
  · have h2 := h.row
    rw [← e2, hc] at h2
    simp at h2
  · obtain ⟨D, ⟨es, cl, h1, _⟩, _⟩ := h.st
    rw [← e2, hc] at h1
    cases h1
  · obtain ⟨D, ⟨es, cl, h1, _⟩, _⟩ := h.kd
    rw [← e2, hc] at h1
    cases h1
theorem TrIs.at (h : TrIs F w tb R k lv sb kb) {i : Nat} (hi : i < R.length) : ∃ g cap, lv = .slice (some ⟨g, 0, none⟩) R.length cap ∧ R.length ≤ cap ∧ w.rangeAt g (i * 13) (rwCells R[i]) ∧ F g := by
  obtain ⟨g, cap, e, hc, hr, _⟩ := h.own.cells rwCells_len hi
  exact ⟨g, cap, e, hc, hr, h.fl g (by rw [e]; rfl)⟩
theorem TrIs.good (h : TrIs F w tb R k lv sb kb) : GoodT (doneT ((mvs R).take k)) := goodT _
theorem doneT_small {R : List Rw} (h : R.length ≤ 4096) (k : Nat) : (doneT ((mvs R).take k)).length ≤ 4096 := by
  have := doneT_length ((mvs R).take k)
  simp only [List.length_take, List.length_map] at this
  omega
/-- Another number of those that are done, and maps that say so. -/
theorem TrIs.turn (h : TrIs F w tb R k lv sb kb) {j : Nat} (hr : w'.heap[tb]? = some (.cells #[lv, .int .i64 (j : Int), .map (some sb), .map (some kb)] 66)) (hs : SMap w' sb (doneT ((mvs R).take j))) (hk : KMap w' kb (kidsN (doneT ((mvs R).take j)))) (hl : LsD R j) (ht : Touch (fun k => k = tb ∨ k = sb ∨ k = kb) w w') : TrIs F w' tb R j lv sb kb where
  row := hr
  own := h.own.keep fun g e => ht.block g (h.lt g (h.fl g e)) (fun h9 => by have := h.lt3 e; omega)
  st := hs
  kd := hk
  ls := hl
  small := h.small
  ne := h.ne
  ft := h.ft
  fs := h.fs
  fk := h.fk
  fl := h.fl
  lt := fun j hj => Nat.lt_of_lt_of_le (h.lt j hj) ht.size
end
theorem rangeAt_below {w w' : World} {b o : Nat} {cs : List Value} (h : w.rangeAt b o cs) (hb : KeepsS (fun k => k = b) w w') : w'.rangeAt b o cs := fun j v hv => (hb.cell (p := ⟨b, o + j, none⟩) rfl).trans (h j v hv)
theorem rangeAt_keep {w w' : World} {b o : Nat} {cs : List Value} (h : w.rangeAt b o cs) (hb : w'.heap[b]? = w.heap[b]?) : w'.rangeAt b o cs := fun j v hv => (World.cell?_of_block (w := w) hb).trans (h j v hv)

end Go.Proofs.Ytljepindfdhbbaa
