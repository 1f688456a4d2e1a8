/- slices.Clone of attributes and of nodes. -/
import Derived.Test.YthhnglpkfcmjiabVtK
import Derived.Maps.AppendAt
namespace Go.Proofs.Ythhnglpkfcmjiab
open Go.RowKit
set_option linter.unusedVariables false
set_option linter.unusedSimpArgs false

theorem LsE.flat {α : Type} {enc : α → List Value} {n : Nat} (h0 : 0 < n) (hn : ∀ x, (enc x).length = n) {G : Nat → Prop} {w : World} {ad : Addr} {m cap : Nat} {D : List α} (h : LsE enc n G w (.slice (some ad) m cap) D) : ∀ j u, (flatE enc D)[j]? = some u → w.cell? (ad.add j) = some u ∧ ad.block < w.heap.size := fun j u hj => by
  obtain ⟨a, c, e, _, _, r⟩ := h
  injection e with e1 _ _
  rcases r with rfl | ⟨b, o, e, g, hlt, hr⟩
  · simp [flatE] at hj
  · rw [← e1] at e
    cases e
    have hjl := (List.getElem?_eq_some_iff.1 hj).1
    rw [flatE_length hn] at hjl
    have hq : j / n < D.length := (Nat.div_lt_iff_lt_mul h0).2 hjl
    have hm : j = j / n * n + j % n := (Nat.div_add_mod' j n).symm
    have h3 : j % n < n := Nat.mod_lt _ h0
    have h4 : (enc D[j / n])[j % n]? = some u := by
      obtain ⟨y, hy⟩ : ∃ y, (enc D[j / n])[j % n]? = some y := ⟨_, List.getElem?_eq_getElem (show j % n < (enc D[j / n]).length from (by have h8 := hn D[j / n]; omega))⟩
      have h5 := flatE_get hn D (j / n) hq (j % n) y hy
      rw [← hm, hj] at h5
      rw [hy, h5]
    have h6 := hr (j / n) hq (j % n) u h4
    rw [Addr.add_lit]
    refine ⟨?_, hlt⟩
    have h7 : o + j = o + j / n * n + j % n := by omega
    rw [h7]
    exact h6
theorem VRow.rows {G : Nat → Prop} {w : World} {b : Nat} : ∀ (l : List VT) (o : Nat), VRow G w l b o → ∃ E : List (VT × Value × Value), E.map Prod.fst = l ∧ (∀ i (h : i < E.length) j u, (vnC E[i])[j]? = some u → w.cell? ⟨b, o + i * 6 + j, none⟩ = some u) ∧ ∀ x ∈ E, FdIs G w x.2.1 x.2.2 x.1.at_ x.1.ks
  | [], o, _ => ⟨[], rfl, fun i h => absurd h (by simp), fun x hx => absurd hx (by simp)⟩
  | t :: r, o, h => by
    simp only [VRow] at h
    obtain ⟨av, kv, hc, hf⟩ := VAt_iff.1 h.1
    obtain ⟨E, h1, h2, h3⟩ := VRow.rows r (o + 6) h.2
    refine ⟨(t, av, kv) :: E, by rw [List.map_cons, h1], fun i hi j u hj => ?_, fun x hx => ?_⟩
    · cases i with
      | zero =>
        have h9 := hc j u hj
        rw [Nat.zero_mul, Nat.add_zero]
        exact h9
      | succ i =>
        have h9 := h2 i (by simpa using hi) j u hj
        have e : o + (i + 1) * 6 + j = o + 6 + i * 6 + j := by omega
        rw [e]
        exact h9
    · rcases List.mem_cons.1 hx with rfl | hx
      · exact hf
      · exact h3 x hx
theorem KsIs.rows {G : Nat → Prop} {w : World} {v : Value} {ks : List VT} (h : KsIs G w v ks) : ∃ E : List (VT × Value × Value), E.map Prod.fst = ks ∧ LsE vnC 6 G w v E ∧ ∀ x ∈ E, FdIs G w x.2.1 x.2.2 x.1.at_ x.1.ks := by
  obtain ⟨ad, cap, e, hc, hl, h3⟩ := h
  rcases h3 with rfl | ⟨b, o, rfl, g, hlt, hr⟩
  · exact ⟨[], rfl, (by rw [e]; exact LsE.nil _ _ _), fun x hx => absurd hx (by simp)⟩
  · obtain ⟨E, h1, h2, h4⟩ := VRow.rows ks o hr
    have hEl : E.length = ks.length := (by rw [← h1, List.length_map])
    exact ⟨E, h1, ⟨_, cap, by rw [e, hEl], by omega, by omega, .inr ⟨b, o, rfl, g, hlt, h2⟩⟩, h4⟩
theorem flat_vn {G : Nat → Prop} {w : World} {E : List (VT × Value × Value)} (h : ∀ x ∈ E, FdIs G w x.2.1 x.2.2 x.1.at_ x.1.ks) : ∀ u ∈ flatE vnC E, u.oneCell' = true := by
  intro u hu
  simp only [flatE, List.mem_flatMap] at hu
  obtain ⟨x, hx, hu⟩ := hu
  obtain ⟨a1, c1, e1⟩ := (h x hx).at_.form
  obtain ⟨a2, c2, e2⟩ := (h x hx).ks.form
  simp only [vnC, ndC, List.mem_cons, List.not_mem_nil, or_false] at hu
  rcases hu with rfl | rfl | rfl | rfl | rfl | rfl
  · rfl
  · rfl
  · rfl
  · rfl
  · rw [e1]; rfl
  · rw [e2]; rfl

end Go.Proofs.Ythhnglpkfcmjiab
