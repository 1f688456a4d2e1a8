/- Pieces of rows that are copied; a row that is kept behind an Add; Has. -/
import Derived.Test.YtfgkdbidgbpobaaRdP
namespace Go.Proofs.Ytfgkdbidgbpobaa
open Go.RowKit
set_option linter.unusedVariables false
set_option linter.unusedSimpArgs false

section
variable {α : Type} {enc : α → List Value} {n : Nat}
theorem flat_pre (hn : ∀ x, (enc x).length = n) {R : List α} {f j : Nat} {u : Value} (h : (flatE enc (R.take f))[j]? = some u) : (flatE enc R)[j]? = some u := by
  have e : flatE enc R = flatE enc (R.take f) ++ flatE enc (R.drop f) := by rw [← flatE_append, List.take_append_drop]
  rw [e, List.getElem?_append_left (List.getElem?_eq_some_iff.1 h).1]
  exact h
theorem flat_suf (hn : ∀ x, (enc x).length = n) {R : List α} {f j : Nat} {u : Value} (hf : f ≤ R.length) (h : (flatE enc (R.drop f))[j]? = some u) : (flatE enc R)[f * n + j]? = some u := by
  have e : flatE enc R = flatE enc (R.take f) ++ flatE enc (R.drop f) := by rw [← flatE_append, List.take_append_drop]
  have hl : (flatE enc (R.take f)).length = f * n := by rw [flatE_length hn, List.length_take, Nat.min_eq_left hf]
  rw [e, List.getElem?_append_right (by omega), hl, Nat.add_sub_cancel_left]
  exact h
theorem src2 (hn : ∀ x, (enc x).length = n) {W : World} {b o f cap m : Nat} {D : List α} (h : ∀ j u, (flatE enc D)[j]? = some u → W.cell? ⟨b, o + (f + 1) * n + j, none⟩ = some u) (hb : b < W.heap.size) (hc : m ≤ cap) (hl : D.length = m - (f + 1)) : ∃ A : Addr, (if cap = f + 1 then some (⟨b, o, none⟩ : Addr) else some ⟨b, o + (f + 1) * n, none⟩) = some A ∧ Hid (∀ V : World, Below W.heap.size W V → ∀ j u, (flatE enc D)[j]? = some u → V.cell? (A.add j) = some u) := by
  by_cases h9 : cap = f + 1
  · refine ⟨⟨b, o, none⟩, by simp [h9], fun V _ j u hj => ?_⟩
    have h1 := (List.getElem?_eq_some_iff.1 hj).1
    have h2 : D = [] := List.eq_nil_of_length_eq_zero (by omega)
    rw [h2] at h1
    simp [flatE] at h1
  · refine ⟨⟨b, o + (f + 1) * n, none⟩, by simp [h9], fun V hV j u hj => ?_⟩
    rw [Addr.add_lit]
    exact (hV.cell (p := ⟨b, _, none⟩) hb).trans (h j u hj)
variable {T : TypeId} {B : Nat} {w w' : World} {v : Value} {D : List α}
theorem OwnE.touch (h : OwnE enc n T B w v D) {F : Nat → Prop} (ht : Touch F w w') (hF : ∀ k, F k → k < B) : OwnE enc n T B w' v D := h.keep fun k e => ht.block k (h.lt k e).2 fun hf => by have h1 := hF k hf; have h2 := (h.lt k e).1; omega
end
theorem flat_st (D : List St) : ∀ u ∈ flatE stCells D, u.oneCell' = true := by
  intro u hu
  simp only [flatE, List.mem_flatMap] at hu
  obtain ⟨x, _, hu⟩ := hu
  exact stCells_one x u hu
theorem BuR.newS (W : World) : BuR stCells 2 33 W (.slice (some ⟨W.heap.size, 0, none⟩) 0 0) [] (W.alloc (.cells #[] 33)) :=
  ⟨(Below.refl _ _).alloc (Nat.le_refl _) _, World.ownsRow_made W #[] 0 (Nat.le_refl _) (by unfold maxLen; omega) (by simp), W.heap.size, 0, rfl⟩
theorem hasOk_any (F : Nat → Prop) (rb : Nat) (L : List Sl) (s : St) (w : World) (h : RowOk F w rb L) :
    Calls Try.prog 23 #[.pointer (some ⟨rb, 0, none⟩), .agg #[.int .i64 s.1, .int .i64 s.2]] w fun e w' => e = .returned (.bool (hasL L s)) ∧ Below w.heap.size w w' := by
  obtain ⟨ma, mb, fv, E, h, _⟩ := h
  exact hasIs_any F rb L _ _ ma mb fv E s w h

end Go.Proofs.Ytfgkdbidgbpobaa
