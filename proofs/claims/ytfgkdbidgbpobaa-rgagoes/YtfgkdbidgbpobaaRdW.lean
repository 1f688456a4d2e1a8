/- slices.Clone of stamps, maps.Clone of the map after. -/
import Derived.Test.YtfgkdbidgbpobaaRdQ
import Derived.Shelf.SlMaps.Clone
namespace Go.Proofs.Ytfgkdbidgbpobaa
open Go.RowKit
set_option linter.unusedVariables false
set_option linter.unusedSimpArgs false

set_option maxRecDepth 100000 in
set_option maxHeartbeats 2000000 in
theorem cloneSt (v : Value) (R : List St) (w : World) (h : OwnSt 0 w v R) (hl : R.length ≤ 4096) :
    Calls Try.prog 21 #[v] w fun e w' => ∃ v', e = .returned v' ∧ OwnSt w.heap.size w' v' R ∧ Below w.heap.size w w' := by
  obtain ⟨ist, hist, hz0st, hz1st, hz2st⟩ := info_parts infoStamp
  obtain ⟨hx, h2⟩ := h
  rcases h2 with ⟨rfl, hn⟩ | ⟨g, cap, cur, rfl, hg, hc, hcap, hm, hsz, htk⟩
  · have e : R = [] := List.eq_nil_of_length_eq_zero hn
    subst e
    have hq := fun w => Lib.run_eql_slice_nil (P := Try.prog) w 38 _ none 0 0 0 0 Try.underlying38
    clear hx hn
    go_enter Try.func21, Try.ntmps21
    go_wp2
    go_ret
    exact ⟨_, rfl, OwnE.nil0 _ _, Below.refl _ _⟩
  · have hbe : Below w.heap.size w (w.alloc (.cells #[] 33)) := (Below.refl _ _).alloc (Nat.le_refl _) _
    have HO : Hid ((w.alloc (.cells #[] 33)).ownsRow w.heap.size 33 2 (.slice (some ⟨w.heap.size, 0, none⟩) 0 0) 0 []) := World.ownsRow_made w #[] 0 (Nat.le_refl _) (by unfold maxLen; omega) (by simp)
    have HN : Hid (∀ j u, (flatE stCells R)[j]? = some u → (w.alloc (.cells #[] 33)).cell? ((⟨g, 0, none⟩ : Addr).add j) = some u) := fun j u hj => by
      rw [Addr.add_lit, Nat.zero_add]
      refine (hbe.cell (p := ⟨g, j, none⟩) (row_lt hc)).trans ?_
      rw [cell_of_row w g j _ _ _ hc]
      rw [← htk] at hj
      have hj2 : j < R.length * 2 := by have := (List.getElem?_eq_some_iff.1 hj).1; rw [List.length_take] at this; omega
      rw [List.getElem?_take_of_lt hj2] at hj
      simpa using hj
    have HBe : Hid (Below w.heap.size w (w.alloc (.cells #[] 33))) := hbe
    have hsz0 : w.heap.size ≤ (w.alloc (.cells #[] 33)).heap.size := hbe.size
    have hq := fun w => Lib.run_eql_slice_nil (P := Try.prog) w 38 _ (some ⟨g, 0, none⟩) R.length cap 0 0 Try.underlying38
    clear hbe hx hc hsz htk
    go_enter Try.func21, Try.ntmps21
    go_wp2_with (at_builtin; refine wpList_append_own_at _ rfl _ _ 38 rfl w.heap.size 33 ist (.agg #[.int .i64 0, .int .i64 0]) 2 16 Try.underlying38 hist hz0st hz1st hz2st rfl (by decide) _ _ _ rfl HO.out ⟨g, 0, none⟩ R.length cap (flatE stCells R) rfl (flatE_length stCells_len R) HN.out (flat_st _) (by unfold maxLen; omega) (by omega) hsz0 ?_; intro v3 w3 hown3 hgrow3 hnil3 hat3; have HR3 : Hid (OwnSt w.heap.size w3 v3 R ∧ Below w.heap.size w w3) := ⟨by (have h9 := hown3; rw [Nat.zero_add, List.nil_append] at h9; exact h9), HBe.out.grown hgrow3 HBe.out.size (fun k e => by cases e; exact Nat.le_refl _)⟩; clear hown3 hgrow3 hnil3 hat3)
    go_ret
    exact ⟨_, rfl, HR3.out.1, HR3.out.2⟩

set_option maxRecDepth 100000 in
set_option maxHeartbeats 2000000 in
theorem cloneA (b : Nat) (es : Array MapEntry) (clock : Nat) (w : World) (hb : w.heap[b]? = some (.map es clock)) :
    Calls Try.prog 20 #[.map (some b)] w fun e w' => e = .returned (.map (some w.heap.size)) ∧ w' = w.alloc (.map es clock) := by
  have hq := fun w => run_eql_map_nil_sl (P := Try.prog) w 53 _ _ (some b) uAfter
  go_enter Try.func20, Try.ntmps20
  go_wp2
  rw [run_callFunc_extern Try.func33 (by kernel_rfl) (by kernel_rfl) (by kernel_rfl) (e := Extern.MapsClone.clone) (by kernel_rfl), run_maps_clone_sl w 53 hb]
  simp only [Result.andThen]
  rw [Oper.upon_value]
  go_wp2
  rw [run_typeAssert_map_sl _ 53 _ _ _ _ uAfter]
  simp only [Result.andThen]
  rw [Oper.upon_value]
  go_wp2
  go_ret
  exact ⟨rfl, rfl⟩
theorem AMap.cut {w : World} {b : Nat} {A : List Sl} (h : AMap w b A) : ∃ es cl, w.heap[b]? = some (.map es cl) ∧ ∀ (w' : World) (b' : Nat), w'.heap[b']? = some (.map es cl) → AMap w' b' A := by
  obtain ⟨D, ⟨es, cl, h1, h2⟩, h3⟩ := h
  exact ⟨es, cl, h1, fun w' b' h4 => ⟨D, ⟨es, cl, h4, h2⟩, h3⟩⟩

end Go.Proofs.Ytfgkdbidgbpobaa
