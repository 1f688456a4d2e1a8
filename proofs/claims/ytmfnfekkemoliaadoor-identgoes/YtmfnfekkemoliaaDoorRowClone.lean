/- What slices.Clone does at lists of stamps: the same stamps in a row of the call's own. -/
import Derived.Test.YtmfnfekkemoliaaDoorRowOwn
import Derived.Lib.ItoaMem
import Derived.WalkLawsBesides
namespace Go.Proofs.YtmfnfekkemoliaaDoor
open Go.RowKit
set_option linter.unusedVariables false

theorem RowAt.news {w : World} {b o : Nat} {d : List (Int × Int)} (h : RowAt w b o d) : ∀ j u, (flat d)[j]? = some u → w.cell? ((⟨b, o, none⟩ : Addr).add j) = some u := by
  intro j u hj
  have hlt : j < d.length * 2 := by
    have := (List.getElem?_eq_some_iff.1 hj).1
    rw [flat_length] at this
    exact this
  have hf := flat_get d (j / 2) (by omega)
  have hr := h (j / 2) (by omega)
  by_cases he : j % 2 = 0
  · have e : j = j / 2 * 2 := by omega
    rw [e] at hj ⊢
    rw [hf.1] at hj
    cases hj
    rw [Lib.add_plain]
    exact hr.1
  · have e : j = j / 2 * 2 + 1 := by omega
    rw [e] at hj ⊢
    rw [hf.2] at hj
    cases hj
    rw [Lib.add_plain]
    exact hr.2

set_option maxHeartbeats 1000000 in
set_option maxRecDepth 100000 in
theorem clone_nil (w : World) (cap : Nat) : Calls Tryd.prog 46 #[.slice none 0 cap] w fun e w' => e = .returned (.slice none 0 0) ∧ w' = w := by
  have en := fun w => Lib.run_eql_slice_nil (P := Tryd.prog) w 38 23 none 0 cap 0 0 Tryd.underlying38
  go_enter Tryd.func46, Tryd.ntmps46
  go_wp2
  go_ret
  exact ⟨rfl, rfl⟩

set_option maxHeartbeats 1000000 in
set_option maxRecDepth 100000 in
theorem clone_some (ad : Addr) (cap : Nat) (d : List (Int × Int)) (w : World) (hr : ∀ j u, (flat d)[j]? = some u → (w.alloc (.cells #[] 23)).cell? (ad.add j) = some u) (hl : d.length ≤ 8796093022208) :
    Calls Tryd.prog 46 #[.slice (some ad) d.length cap] w fun e w' => ∃ v', e = .returned v' ∧ OwnS w.heap.size w' v' d ∧ Below w.heap.size w w' := by
  obtain ⟨i0, hi, hz0, hz1, hz2⟩ := info_parts infoStamp
  have HN : Hid (∀ j u, (flat d)[j]? = some u → (w.alloc (.cells #[] 23)).cell? (ad.add j) = some u) := hr
  have HO : Hid (OwnS w.heap.size (w.alloc (.cells #[] 23)) (.slice (some ⟨w.heap.size, 0, none⟩) 0 0) []) := OwnS.empty w _ (Nat.le_refl _)
  clear hr
  have en := fun w => Lib.run_eql_slice_nil (P := Tryd.prog) w 38 23 (some ad) d.length cap 0 0 Tryd.underlying38
  go_enter Tryd.func46, Tryd.ntmps46
  go_wp2_with (at_builtin; refine wpList_append_own _ rfl _ _ 38 rfl w.heap.size 23 i0 (.agg #[.int .i64 0, .int .i64 0]) 2 16 Tryd.underlying38 hi hz0 hz1 hz2 rfl (by decide) _ _ _ rfl HO.out ad d.length cap (flat d) rfl (flat_length d) HN.out (flat_one d) (by unfold maxLen; simp; omega) (by simp; omega) (by simp) ?_; intro v' w3 hown' hgrow3 hnil3)
  go_ret
  refine ⟨_, rfl, ?_, ?_⟩
  · unfold OwnS
    simpa [flat] using hown'
  · exact ((Below.refl _ _).alloc (Nat.le_refl _) _).grown hgrow3 (by simp) (fun j e => HO.out.block j e)

theorem clone_any (v : Value) (d : List (Int × Int)) (w : World) (h : IsS w v d) :
    Calls Tryd.prog 46 #[v] w fun e w' => ∃ v', e = .returned v' ∧ OwnS w.heap.size w' v' d ∧ Below w.heap.size w w' := by
  obtain ⟨a, cap, rfl, hc, hl, h⟩ := h
  match a with
  | none =>
    have e : d = [] := h.resolve_right (fun ⟨_, _, e, _⟩ => by cases e)
    subst e
    exact (clone_nil w cap).mono fun e w' ⟨he, hw⟩ => ⟨_, he, by rw [hw]; exact OwnS.nil0 _ _, by rw [hw]; exact Below.refl _ _⟩
  | some ad =>
    refine clone_some ad cap d w (fun j u hj => ?_) hl
    rcases h with rfl | ⟨b, o, e, hr⟩
    · simp [flat] at hj
    · cases e
      exact (hr.below ((Below.refl _ _).alloc (Nat.le_refl _) _)).news j u hj

end Go.Proofs.YtmfnfekkemoliaaDoor
