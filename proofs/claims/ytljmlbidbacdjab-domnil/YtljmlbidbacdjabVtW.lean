/- slices.Clone of attributes and of nodes. -/
import Derived.Test.YtljmlbidbacdjabVtK
import Derived.Maps.AppendAt
namespace Go.Proofs.Ytljmlbidbacdjab
open Go.RowKit
set_option linter.unusedVariables false
set_option linter.unusedSimpArgs false

theorem LsE.flat {α : Type} {enc : α → List Value} {n : Nat} (h0 : 0 < n) (hn : ∀ x, (enc x).length = n) {G : Nat → Prop} {w : World} {ad : Addr} {m cap : Nat} {D : List α} (h : LsE enc n G w (.slice (some ad) m cap) D) : ∀ j u, (flatE enc D)[j]? = some u → w.cell? (ad.add j) = some u ∧ ad.block < w.heap.size := fun j u hj => by
  obtain ⟨a, c, e, _, _, r⟩ := h
  injection e with e1 _ _
  rcases r with rfl | ⟨b, o, e, g, hlt, hr⟩
  · simp [flatE] at hj
  · rw [← e1] at e
    cases e
    have hjl := (List.getElem?_eq_some_iff.1 hj).1
    rw [flatE_length hn] at hjl
    have hq : j / n < D.length := (Nat.div_lt_iff_lt_mul h0).2 hjl
    have hm : j = j / n * n + j % n := (Nat.div_add_mod' j n).symm
    have h3 : j % n < n := Nat.mod_lt _ h0
    have h4 : (enc D[j / n])[j % n]? = some u := by
      obtain ⟨y, hy⟩ : ∃ y, (enc D[j / n])[j % n]? = some y := ⟨_, List.getElem?_eq_getElem (show j % n < (enc D[j / n]).length from (by have h8 := hn D[j / n]; omega))⟩
      have h5 := flatE_get hn D (j / n) hq (j % n) y hy
      rw [← hm, hj] at h5
      rw [hy, h5]
    have h6 := hr (j / n) hq (j % n) u h4
    rw [Addr.add_lit]
    refine ⟨?_, hlt⟩
    have h7 : o + j = o + j / n * n + j % n := by omega
    rw [h7]
    exact h6
theorem VRow.rows {G : Nat → Prop} {w : World} {b : Nat} : ∀ (l : List VT) (o : Nat), VRow G w l b o → ∃ E : List (VT × Value × Value), E.map Prod.fst = l ∧ (∀ i (h : i < E.length) j u, (vnC E[i])[j]? = some u → w.cell? ⟨b, o + i * 6 + j, none⟩ = some u) ∧ ∀ x ∈ E, FdIs G w x.2.1 x.2.2 x.1.at_ x.1.ks
  | [], o, _ => ⟨[], rfl, fun i h => absurd h (by simp), fun x hx => absurd hx (by simp)⟩
  | t :: r, o, h => by
    simp only [VRow] at h
    obtain ⟨av, kv, hc, hf⟩ := VAt_iff.1 h.1
    obtain ⟨E, h1, h2, h3⟩ := VRow.rows r (o + 6) h.2
    refine ⟨(t, av, kv) :: E, by rw [List.map_cons, h1], fun i hi j u hj => ?_, fun x hx => ?_⟩
    · cases i with
      | zero =>
        have h9 := hc j u hj
        rw [Nat.zero_mul, Nat.add_zero]
        exact h9
      | succ i =>
        have h9 := h2 i (by simpa using hi) j u hj
        have e : o + (i + 1) * 6 + j = o + 6 + i * 6 + j := by omega
        rw [e]
        exact h9
    · rcases List.mem_cons.1 hx with rfl | hx
      · exact hf
      · exact h3 x hx
theorem KsIs.rows {G : Nat → Prop} {w : World} {v : Value} {ks : List VT} (h : KsIs G w v ks) : ∃ E : List (VT × Value × Value), E.map Prod.fst = ks ∧ LsE vnC 6 G w v E ∧ ∀ x ∈ E, FdIs G w x.2.1 x.2.2 x.1.at_ x.1.ks := by
  obtain ⟨ad, cap, e, hc, hl, h3⟩ := h
  rcases h3 with rfl | ⟨b, o, rfl, g, hlt, hr⟩
  · exact ⟨[], rfl, (by rw [e]; exact LsE.nil _ _ _), fun x hx => absurd hx (by simp)⟩
  · obtain ⟨E, h1, h2, h4⟩ := VRow.rows ks o hr
    have hEl : E.length = ks.length := (by rw [← h1, List.length_map])
    exact ⟨E, h1, ⟨_, cap, by rw [e, hEl], by omega, by omega, .inr ⟨b, o, rfl, g, hlt, h2⟩⟩, h4⟩
theorem flat_vn {G : Nat → Prop} {w : World} {E : List (VT × Value × Value)} (h : ∀ x ∈ E, FdIs G w x.2.1 x.2.2 x.1.at_ x.1.ks) : ∀ u ∈ flatE vnC E, u.oneCell' = true := by
  intro u hu
  simp only [flatE, List.mem_flatMap] at hu
  obtain ⟨x, hx, hu⟩ := hu
  obtain ⟨a1, c1, e1⟩ := (h x hx).at_.form
  obtain ⟨a2, c2, e2⟩ := (h x hx).ks.form
  simp only [vnC, ndC, List.mem_cons, List.not_mem_nil, or_false] at hu
  rcases hu with rfl | rfl | rfl | rfl | rfl | rfl
  · rfl
  · rfl
  · rfl
  · rfl
  · rw [e1]; rfl
  · rw [e2]; rfl

set_option maxRecDepth 100000 in
set_option maxHeartbeats 2000000 in
theorem cloneAts (G : Nat → Prop) (v : Value) (D : List At) (w : World) (h : LsE atCells 2 G w v D) (hl : D.length ≤ 4398046511104) (h1 : ∀ u ∈ flatE atCells D, u.oneCell' = true) :
    Calls Try.prog 31 #[v] w fun e w' => ∃ v', e = .returned v' ∧ OwnE atCells 2 63 w.heap.size w' v' D ∧ Below w.heap.size w w' := by
  obtain ⟨ist, hist, hz0st, hz1st, hz2st⟩ := info_parts infoAt
  obtain ⟨a, cap, rfl⟩ := h.form
  cases a with
  | none =>
    obtain rfl : D = [] := (by obtain ⟨a, c, e, _, _, r⟩ := h; rcases r with q | ⟨b, o, q, _⟩; exact q; rw [q] at e; cases e)
    have hq := fun w => Lib.run_eql_slice_nil (P := Try.prog) w 39 _ none 0 cap 0 0 Try.underlying39
    clear h h1
    go_enter Try.func31, Try.ntmps31
    go_wp2
    go_ret
    exact ⟨_, rfl, OwnE.nil0 _ _, Below.refl _ _⟩
  | some ad =>
    have hbe : Below w.heap.size w (w.alloc (.cells #[] 63)) := (Below.refl _ _).alloc (Nat.le_refl _) _
    have HO : Hid ((w.alloc (.cells #[] 63)).ownsRow w.heap.size 63 2 (.slice (some ⟨w.heap.size, 0, none⟩) 0 0) 0 []) := World.ownsRow_made w #[] 0 (Nat.le_refl _) (by unfold maxLen; omega) (by simp)
    have HN : Hid (∀ j u, (flatE atCells D)[j]? = some u → (w.alloc (.cells #[] 63)).cell? (ad.add j) = some u) := fun j u hj => by
      obtain ⟨x1, x2⟩ := LsE.flat (by decide) atCells_len h j u hj
      have e9 : (ad.add j).block = ad.block := (by unfold Addr.add; split <;> rfl)
      exact (hbe.cell (p := ad.add j) (by rw [e9]; exact x2)).trans x1
    have HBe := hide9 hbe
    have H1 := hide9 h1
    have hsz0 : w.heap.size ≤ (w.alloc (.cells #[] 63)).heap.size := hbe.size
    have hq := fun w => Lib.run_eql_slice_nil (P := Try.prog) w 39 _ (some ad) D.length cap 0 0 Try.underlying39
    clear hbe h h1
    go_enter Try.func31, Try.ntmps31
    go_wp2_with (at_builtin; refine wpList_append_own_at _ rfl _ _ 39 rfl w.heap.size 63 ist (.agg #[.string ⟨#[]⟩, .string ⟨#[]⟩]) 2 32 Try.underlying39 hist hz0st hz1st hz2st rfl (by decide) _ _ _ rfl HO.out ad D.length cap (flatE atCells D) rfl (flatE_length atCells_len D) HN.out H1.out (by unfold maxLen; omega) (by omega) hsz0 ?_; intro v3 w3 hown3 hgrow3 hnil3 hat3; have HR3 : Hid (OwnE atCells 2 63 w.heap.size w3 v3 D ∧ Below w.heap.size w w3) := ⟨by (have h9 := hown3; rw [Nat.zero_add, List.nil_append] at h9; exact h9), HBe.out.grown hgrow3 HBe.out.size (fun k e => by cases e; exact Nat.le_refl _)⟩; clear hown3 hgrow3 hnil3 hat3)
    go_ret
    exact ⟨_, rfl, HR3.out.1, HR3.out.2⟩

end Go.Proofs.Ytljmlbidbacdjab
