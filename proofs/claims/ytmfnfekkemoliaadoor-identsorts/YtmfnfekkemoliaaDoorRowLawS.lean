/- The walk of IdentSorts: for every list of stamps it returns true. -/
import Derived.Test.YtmfnfekkemoliaaDoorRowSrt
import Derived.Test.YtmfnfekkemoliaaDoorWalksC
namespace Go.Proofs.YtmfnfekkemoliaaDoor
open Go.RowKit
set_option linter.unusedVariables false

set_option maxHeartbeats 2000000 in
set_option maxRecDepth 100000 in
theorem identSorts_some (ad : Addr) (cap : Nat) (d : List (Int × Int)) (w : World) (h : IsS w (.slice (some ad) d.length cap) d) :
    Calls Tryd.prog 7 #[.slice (some ad) d.length cap] w fun e w' => e = .returned (.bool true) ∧ Below w.heap.size w w' := by
  obtain ⟨i0, hi, hz0, hz1, hz2⟩ := info_parts infoStamp
  have hl : d.length ≤ 8796093022208 := by obtain ⟨_, _, _, _, hl, _⟩ := h; exact hl
  have hb1 : Below w.heap.size w (w.alloc (.cells #[] 23)) := (Below.refl _ _).alloc (Nat.le_refl _) _
  have HV : Hid (IsS w (.slice (some ad) d.length cap) d) := h
  have HN : Hid (∀ j u, (flat d)[j]? = some u → (w.alloc (.cells #[] 23)).cell? (ad.add j) = some u) := by
    intro j u hj
    obtain ⟨a, c2, e, _, _, hr⟩ := h.below hb1
    cases e
    rcases hr with rfl | ⟨b, o, e, hr⟩
    · simp [flat] at hj
    · cases e
      exact hr.news j u hj
  have HO0 : Hid (OwnS w.heap.size (w.alloc (.cells #[] 23)) (.slice (some ⟨w.heap.size, 0, none⟩) 0 0) []) := OwnS.empty w _ (Nat.le_refl _)
  clear h
  go_enter Tryd.func7, Tryd.ntmps7
  go_wp2_with (at_builtin; refine wpList_append_own _ rfl _ _ 38 rfl w.heap.size 23 i0 (.agg #[.int .i64 0, .int .i64 0]) 2 16 Tryd.underlying38 hi hz0 hz1 hz2 rfl (by decide) _ _ _ rfl HO0.out ad d.length cap (flat d) rfl (flat_length d) HN.out (flat_one d) (by unfold maxLen; simp; omega) (by simp; omega) (by simp) ?_; intro v3 w3 hown' hgrow3 hnil3)
  have bel3 : Below w.heap.size w w3 := hb1.grown hgrow3 (by simp) (fun j e => HO0.out.block j e)
  have ho3 : OwnS w.heap.size w3 v3 d := by unfold OwnS; simpa [flat] using hown'
  have HG : Hid (IsS w3 v3 d) := ho3.isS hl
  clear hown' hgrow3 hnil3 ho3 HN HO0
  go_wp2_with fail
  refine (sort_any _ d _ HG.out).mono ?_
  rintro e w4 ⟨v4, rfl, ho, hb4⟩
  have bel4 : Below w.heap.size w w4 := bel3.trans (hb4.mono (by have := bel3.size; omega))
  have hlen := sortL_length d d.length (Nat.le_refl _)
  rw [List.take_length] at hlen
  have HG4 : Hid (IsS w4 v3 d) := HG.out.below hb4
  have HO : Hid (IsS w4 v4 (sortL d)) := ho.isS (by omega)
  obtain ⟨a4, c4, e4⟩ := HO.out.form
  subst e4
  have HL : Hid (IsS w4 (.slice (some ad) d.length cap) d) := HV.out.below bel4
  clear ho hb4
  go_wp2_with fail
  refine (refSort_any _ d _ HL.out).mono ?_
  rintro e w5 ⟨v5, rfl, h5, hb5⟩
  have HS5 : Hid (IsS w5 v5 (sortL d)) := h5
  have HO5 : Hid (IsS w5 (.slice a4 (sortL d).length c4) (sortL d)) := HO.out.below hb5
  have HG5 : Hid (IsS w5 v3 d) := HG4.out.below hb5
  have HL5 : Hid (IsS w5 (.slice (some ad) d.length cap) d) := HL.out.below hb5
  have bel5 : Below w.heap.size w w5 := bel4.trans (hb5.mono bel4.size)
  clear h5 hb5 HO HG4 HL HG
  go_wp2_with fail
  refine (same_any _ _ _ _ _ HO5.out HS5.out).mono ?_
  rintro e w6 ⟨rfl, hb6⟩
  have bel6 : Below w.heap.size w w6 := bel5.trans (hb6.mono bel5.size)
  have HG6 : Hid (IsS w6 v3 d) := HG5.out.below hb6
  have HL6 : Hid (IsS w6 (.slice (some ad) d.length cap) d) := HL5.out.below hb6
  clear hb6 HG5 HL5 HS5 HO5
  have ds : decide (sortL d = sortL d) = true := by simp
  rw [ds]
  go_wp2_with fail
  refine (same_any _ _ _ _ _ HG6.out HL6.out).mono ?_
  rintro e w7 ⟨rfl, hb7⟩
  have bel7 : Below w.heap.size w w7 := bel6.trans (hb7.mono bel6.size)
  have dd : decide (d = d) = true := by simp
  rw [dd]
  clear hb7
  go_wp2_with fail
  refine (awake_any _).mono ?_
  rintro e w8 ⟨rfl, hb8⟩
  go_wp2
  go_ret
  exact ⟨rfl, bel7.trans (hb8.mono bel7.size)⟩

set_option maxHeartbeats 2000000 in
set_option maxRecDepth 100000 in
theorem identSorts_none (cap : Nat) (w : World) :
    Calls Tryd.prog 7 #[.slice none 0 cap] w fun e w' => e = .returned (.bool true) ∧ Below w.heap.size w w' := by
  obtain ⟨i0, hi, hz0, hz1, hz2⟩ := info_parts infoStamp
  obtain ⟨d, hd0⟩ : ∃ d : List (Int × Int), d = [] := ⟨_, rfl⟩
  have hl : d.length ≤ 8796093022208 := by subst hd0; simp
  have bel3 : Below w.heap.size w (w.alloc (.cells #[] 23)) := (Below.refl _ _).alloc (Nat.le_refl _) _
  have HV : Hid (IsS w (.slice none 0 cap) d) := by subst hd0; exact ⟨none, cap, rfl, Nat.zero_le _, by simp, .inl rfl⟩
  have HG : Hid (IsS (w.alloc (.cells #[] 23)) (.slice (some ⟨w.heap.size, 0, none⟩) 0 0) d) := by subst hd0; exact isS_empty _ _
  have hcl : ∀ ty, (Builtin.append_ #[38, 38] ty #[.slice (some ⟨w.heap.size, 0, none⟩) 0 0, .slice none 0 cap]).run Tryd.prog (w.alloc (.cells #[] 23)) = .ok (.slice (some ⟨w.heap.size, 0, none⟩) 0 0) (w.alloc (.cells #[] 23)) := fun ty => by
    simp [Builtin.append_, run_underlying Tryd.underlying38, sizeOf, typeInfo, hi, Builtin.lenOf, Builtin.firstCells, storeCells]
  go_enter Tryd.func7, Tryd.ntmps7
  go_wp2_with (simp only [hcl])
  clear hcl hd0
  generalize w.alloc (.cells #[] 23) = w3 at HG bel3 ⊢
  refine (sort_any _ d _ HG.out).mono ?_
  rintro e w4 ⟨v4, rfl, ho, hb4⟩
  have bel4 : Below w.heap.size w w4 := bel3.trans (hb4.mono (by have := bel3.size; omega))
  have hlen := sortL_length d d.length (Nat.le_refl _)
  rw [List.take_length] at hlen
  have HG4 : Hid (IsS w4 (.slice (some ⟨w.heap.size, 0, none⟩) 0 0) d) := HG.out.below hb4
  have HO : Hid (IsS w4 v4 (sortL d)) := ho.isS (by omega)
  obtain ⟨a4, c4, e4⟩ := HO.out.form
  subst e4
  have HL : Hid (IsS w4 (.slice none 0 cap) d) := HV.out.below bel4
  clear ho hb4
  go_wp2_with fail
  refine (refSort_any _ d _ HL.out).mono ?_
  rintro e w5 ⟨v5, rfl, h5, hb5⟩
  have HS5 : Hid (IsS w5 v5 (sortL d)) := h5
  have HO5 : Hid (IsS w5 (.slice a4 (sortL d).length c4) (sortL d)) := HO.out.below hb5
  have HG5 : Hid (IsS w5 (.slice (some ⟨w.heap.size, 0, none⟩) 0 0) d) := HG4.out.below hb5
  have HL5 : Hid (IsS w5 (.slice none 0 cap) d) := HL.out.below hb5
  have bel5 : Below w.heap.size w w5 := bel4.trans (hb5.mono bel4.size)
  clear h5 hb5 HO HG4 HL HG
  go_wp2_with fail
  refine (same_any _ _ _ _ _ HO5.out HS5.out).mono ?_
  rintro e w6 ⟨rfl, hb6⟩
  have bel6 : Below w.heap.size w w6 := bel5.trans (hb6.mono bel5.size)
  have HG6 : Hid (IsS w6 (.slice (some ⟨w.heap.size, 0, none⟩) 0 0) d) := HG5.out.below hb6
  have HL6 : Hid (IsS w6 (.slice none 0 cap) d) := HL5.out.below hb6
  clear hb6 HG5 HL5 HS5 HO5
  have ds : decide (sortL d = sortL d) = true := by simp
  rw [ds]
  go_wp2_with fail
  refine (same_any _ _ _ _ _ HG6.out HL6.out).mono ?_
  rintro e w7 ⟨rfl, hb7⟩
  have bel7 : Below w.heap.size w w7 := bel6.trans (hb7.mono bel6.size)
  have dd : decide (d = d) = true := by simp
  rw [dd]
  clear hb7
  go_wp2_with fail
  refine (awake_any _).mono ?_
  rintro e w8 ⟨rfl, hb8⟩
  go_wp2
  go_ret
  exact ⟨rfl, bel7.trans (hb8.mono bel7.size)⟩

theorem identSorts_walk (v : Value) (d : List (Int × Int)) (w : World) (h : IsS w v d) :
    Calls Tryd.prog 7 #[v] w fun e w' => e = .returned (.bool true) ∧ Below w.heap.size w w' := by
  obtain ⟨a, cap, rfl, hc, hl, hr⟩ := h
  match a with
  | none =>
    have e : d = [] := hr.resolve_right (fun ⟨_, _, e, _⟩ => by cases e)
    subst e
    exact identSorts_none cap w
  | some ad => exact identSorts_some ad cap d w ⟨_, cap, rfl, hc, hl, hr⟩

end Go.Proofs.YtmfnfekkemoliaaDoor
