/- slices.Clone of attributes and of nodes. -/
import Derived.Test.YthhnglpkfcmjiaaKVtK
import Derived.Maps.AppendAt
namespace Go.Proofs.Ythhnglpkfcmjiaa
open Go.RowKit
set_option linter.unusedVariables false
set_option linter.unusedSimpArgs false
theorem LsE.flat {α : Type} {enc : α → List Value} {n : Nat} (h0 : 0 < n) (hn : ∀ x, (enc x).length = n) {G : Nat → Prop} {w : World} {ad : Addr} {m cap : Nat} {D : List α} (h : LsE enc n G w (.slice (some ad) m cap) D) : ∀ j u, (flatE enc D)[j]? = some u → w.cell? (ad.add j) = some u ∧ ad.block < w.heap.size := fun j u hj => by
  obtain ⟨a, c, e, _, _, r⟩ := h
  injection e with e1 _ _
  rcases r with rfl | ⟨b, o, e, g, hlt, hr⟩
  · simp [flatE] at hj
  · rw [← e1] at e
    cases e
    have hjl := (List.getElem?_eq_some_iff.1 hj).1
    rw [flatE_length hn] at hjl
    have hq : j / n < D.length := (Nat.div_lt_iff_lt_mul h0).2 hjl
    have hm : j = j / n * n + j % n := (Nat.div_add_mod' j n).symm
    have h3 : j % n < n := Nat.mod_lt _ h0
    have h4 : (enc D[j / n])[j % n]? = some u := by
      obtain ⟨y, hy⟩ : ∃ y, (enc D[j / n])[j % n]? = some y := ⟨_, List.getElem?_eq_getElem (show j % n < (enc D[j / n]).length from (by have h8 := hn D[j / n]; omega))⟩
      have h5 := flatE_get hn D (j / n) hq (j % n) y hy
      rw [← hm, hj] at h5
      rw [hy, h5]
    have h6 := hr (j / n) hq (j % n) u h4
    rw [Addr.add_lit]
    refine ⟨?_, hlt⟩
    have h7 : o + j = o + j / n * n + j % n := by omega
    rw [h7]
    exact h6
end Go.Proofs.Ythhnglpkfcmjiaa
