/- Cells of a row that are written over. -/
import Derived.Test.YtljepindfdhbbaaTrE
import Derived.Laws.OwnMore
namespace Go.Proofs.Ytljepindfdhbbaa
open Go.RowKit
set_option linter.unusedVariables false
set_option linter.unusedSimpArgs false

def setL (l : List Value) : Nat → List Value → List Value
  | _, [] => l
  | o, v :: vs => setL (l.set o v) (o + 1) vs
theorem setL_length (vs : List Value) : ∀ (l : List Value) (o : Nat), (setL l o vs).length = l.length := by
  induction vs with
  | nil => intro l o; rfl
  | cons v vs ih => intro l o; unfold setL; rw [ih, List.length_set]
theorem setL_left (vs : List Value) : ∀ (a b : List Value) (o : Nat), o + vs.length ≤ a.length → setL (a ++ b) o vs = setL a o vs ++ b := by
  induction vs with
  | nil => intro a b o h; rfl
  | cons v vs ih =>
    intro a b o h
    unfold setL
    simp only [List.length_cons] at h
    rw [List.set_append_left _ _ (by omega), ih _ _ _ (by rw [List.length_set]; omega)]
theorem setL_right (vs : List Value) : ∀ (a b : List Value) (o : Nat), setL (a ++ b) (a.length + o) vs = a ++ setL b o vs := by
  induction vs with
  | nil => intro a b o; rfl
  | cons v vs ih =>
    intro a b o
    unfold setL
    rw [List.set_append_right _ _ (by omega), show a.length + o - a.length = o by omega, Nat.add_assoc, ih]
theorem flatE_setL {α : Type} {enc : α → List Value} {n : Nat} (hn : ∀ x, (enc x).length = n) (D : List α) : ∀ i (h : i < D.length) (x : α) (j : Nat) (vs : List Value), j + vs.length ≤ n → enc x = setL (enc D[i]) j vs → setL (flatE enc D) (i * n + j) vs = flatE enc (D.set i x) := by
  induction D with
  | nil => intro i h; simp at h
  | cons y t ih =>
    intro i h x j vs hj e
    match i with
    | 0 =>
      rw [List.set_cons_zero, flatE_cons, flatE_cons, Nat.zero_mul, Nat.zero_add, setL_left vs _ _ _ (by rw [hn]; exact hj)]
      rw [e]
      rfl
    | i + 1 =>
      rw [List.set_cons_succ, flatE_cons, flatE_cons, show (i + 1) * n + j = (enc y).length + (i * n + j) by rw [hn, Nat.add_mul]; omega, setL_right, ih i (by simpa using h) x j vs hj (by simpa using e)]
theorem owns_setCells {e : TypeId} {size g n cap base : Nat} (vs : List Value) : ∀ (w : World) (xs : List Value) (o : Nat), w.ownsRow base e size (.slice (some ⟨g, 0, none⟩) n cap) n xs → (w.setCells g o vs).ownsRow base e size (.slice (some ⟨g, 0, none⟩) n cap) n (setL xs o vs) ∧ w.grownBy (w.setCells g o vs) (some g) := by
  induction vs with
  | nil => intro w xs o h; exact ⟨h, ⟨rfl, rfl, rfl, Nat.le_refl _, fun _ _ _ => rfl⟩⟩
  | cons v vs ih =>
    intro w xs o h
    obtain ⟨h1, h2⟩ := World.ownsRow.stored h o v
    obtain ⟨h3, h4⟩ := ih _ _ (o + 1) h1
    exact ⟨h3, ⟨h4.os.trans h2.os, h4.tape.trans h2.tape, h4.output.trans h2.output, Nat.le_trans h2.size h4.size, fun k hk hne => (h4.block k (Nat.lt_of_lt_of_le hk h2.size) hne).trans (h2.block k hk hne)⟩⟩
/-- Cells of one of them are others now. -/
theorem OwnE.over {α : Type} {enc : α → List Value} {n : Nat} {T : TypeId} {B : Nat} {w : World} {g cap : Nat} {D : List α} (hn : ∀ x, (enc x).length = n) (h : OwnE enc n T B w (.slice (some ⟨g, 0, none⟩) D.length cap) D) {i : Nat} (hi : i < D.length) (x : α) (j : Nat) (vs : List Value) (hj : j + vs.length ≤ n) (e : enc x = setL (enc D[i]) j vs) :
    OwnE enc n T B (w.setCells g (i * n + j) vs) (.slice (some ⟨g, 0, none⟩) D.length cap) (D.set i x) ∧ w.grownBy (w.setCells g (i * n + j) vs) (some g) := by
  obtain ⟨h1, h2⟩ := owns_setCells vs w _ (i * n + j) h
  refine ⟨?_, h2⟩
  unfold OwnE
  rw [List.length_set, ← flatE_setL hn D i hi x j vs hj e]
  exact h1
/-- A row of the list is another one, of those that are not done. -/
theorem TrIs.over {F : Nat → Prop} {w : World} {tb : Nat} {R : List Rw} {k : Nat} {g cap : Nat} {sb kb : Nat} (h : TrIs F w tb R k (.slice (some ⟨g, 0, none⟩) R.length cap) sb kb) {i : Nat} (hi : i < R.length) (hk : k ≤ i) (x : Rw) (hx : x.m = R[i].m) (j : Nat) (vs : List Value) (hj : j + vs.length ≤ 13) (e : rwCells x = setL (rwCells R[i]) j vs) :
    TrIs F (w.setCells g (i * 13 + j) vs) tb (R.set i x) k (.slice (some ⟨g, 0, none⟩) R.length cap) sb kb ∧ w.grownBy (w.setCells g (i * 13 + j) vs) (some g) := by
  obtain ⟨h1, h2⟩ := OwnE.over rwCells_len h.own hi x j vs hj e
  refine ⟨?_, h2⟩
  have h3 := h.lt3 (g := g) rfl
  have em : mvs (R.set i x) = mvs R := mvs_set x hi hx
  have hb : ∀ b, b < w.heap.size → b ≠ g → (w.setCells g (i * 13 + j) vs).heap[b]? = w.heap[b]? := fun b hb hne => h2.block b hb (fun e => hne (by cases e; rfl))
  exact {
    row := (hb tb (h.lt _ h.ft) (Ne.symm h3.1)).trans h.row
    own := h1
    st := by rw [em]; exact h.st.keep (hb sb (h.lt _ h.fs) (Ne.symm h3.2.1))
    kd := by rw [em]; exact h.kd.keep (hb kb (h.lt _ h.fk) (Ne.symm h3.2.2))
    ls := ⟨by rw [em]; exact h.ls.srt, by rw [List.length_set]; exact h.ls.le, fun a ha hak => by
      rw [em, List.getElem_set_ne (by omega)]
      exact h.ls.ok a (by simpa using ha) hak, fun y hy => by
      rcases List.mem_or_eq_of_mem_set hy with hy | rfl
      · exact h.ls.nz y hy
      · rw [hx]; exact h.ls.nz _ (List.getElem_mem hi)⟩
    small := by rw [List.length_set]; exact h.small
    ne := h.ne
    ft := h.ft
    fs := h.fs
    fk := h.fk
    fl := h.fl
    lt := fun b hF => Nat.lt_of_lt_of_le (h.lt b hF) h2.size }

end Go.Proofs.Ytljepindfdhbbaa
