/- What the errors of two clocks are, and what Merge does, the program's and the document's. -/
import Derived.Test.YtngldpabfpcaiaaGreatCkU
namespace Go.Proofs.YtngldpabfpcaiaaGreat
open Go.RowKit
set_option linter.unusedVariables false

theorem twoL_first {a b : List Int} (h : checkL a ≠ 0) : twoL a b = checkL a := by unfold twoL; rw [if_neg h]
theorem twoL_second {a b : List Int} (h : checkL a = 0) : twoL a b = checkL b := by unfold twoL; rw [if_pos h]

set_option maxHeartbeats 1000000 in
/-- The document's Two. -/
theorem two_any (v1 v2 : Value) (d1 d2 : List Int) (w : World) (h1 : IsI w v1 d1) (h2 : IsI w v2 d2) :
    Calls Tryz.prog 34 #[v1, v2] w fun e w' => e = .returned (.int .i64 (twoL d1 d2)) ∧ w' = w := by
  have H1 : Hid (IsI w v1 d1) := h1
  have H2 : Hid (IsI w v2 d2) := h2
  clear h1 h2
  by_cases h : checkL d1 = 0
  · have HE : Hid (twoL d1 d2 = checkL d2) := twoL_second h
    go_enter Tryz.func34, Tryz.ntmps34
    go_wp2_with (go_at_call 55; refine (refCheck_any _ _ _ (by first | exact H1.out | exact H2.out)).mono ?_; rintro e w' ⟨rfl, rfl⟩)
    go_ret
    exact ⟨ret_i HE.out.symm, rfl⟩
  · have HE : Hid (twoL d1 d2 = checkL d1) := twoL_first h
    have q : (checkL d1 != 0) = true := by simp [h]
    clear h
    go_enter Tryz.func34, Tryz.ntmps34
    go_wp2_with (go_at_call 55; refine (refCheck_any _ _ _ (by first | exact H1.out | exact H2.out)).mono ?_; rintro e w' ⟨rfl, rfl⟩)
    go_ret
    exact ⟨ret_i HE.out.symm, rfl⟩

theorem ownI_mono {w : World} {B B' : Nat} {v : Value} {D : List Int} (h : OwnI B w v D) (hB : B' ≤ B) : OwnI B' w v D := by
  refine ⟨h.1, ?_⟩
  rcases h.2 with hn | ⟨g, cap, cur, hv, hg, rest⟩
  · exact .inl hn
  · exact .inr ⟨g, cap, cur, hv, by omega, rest⟩

def mergeR (a b : List Int) : List Int := if twoL a b = 0 then mergeL a b else []
theorem mergeR_ok {a b : List Int} (h : twoL a b = 0) : mergeR a b = mergeL a b := by unfold mergeR; rw [if_pos h]
theorem mergeR_no {a b : List Int} (h : twoL a b ≠ 0) : mergeR a b = [] := by unfold mergeR; rw [if_neg h]

set_option maxHeartbeats 2000000 in
set_option maxRecDepth 100000 in
/-- The document's Merge, of right clocks. -/
theorem refMerge_ok (v1 v2 : Value) (d1 d2 : List Int) (w : World) (h1 : IsI w v1 d1) (h2 : IsI w v2 d2) (hok : twoL d1 d2 = 0) :
    Calls Tryz.prog 14 #[v1, v2] w fun e w' => ∃ v', e = .returned (.tuple #[v', .int .i64 0]) ∧ OwnI w.heap.size w' v' (mergeL d1 d2) ∧ Below w.heap.size w w' := by
  obtain ⟨i0, hi, hz0, hz1, hz2⟩ := info_parts infoInt
  obtain ⟨hk1, hk2⟩ := (twoL_ok d1 d2).1 hok
  have l1 := hk1.1
  have l2 := hk2.1
  clear hk1 hk2
  obtain ⟨a1, c1, e1⟩ := h1.form
  obtain ⟨a2, c2, e2⟩ := h2.form
  subst e1 e2
  have H1 : Hid (IsI w (.slice a1 d1.length c1) d1) := h1
  have H2 : Hid (IsI w (.slice a2 d2.length c2) d2) := h2
  clear h1 h2
  have HO0 : Hid (OwnI w.heap.size (w.alloc (.cells #[] 3)) (.slice (some ⟨w.heap.size, 0, none⟩) 0 0) (maxTo d1 d2 0)) := OwnI.empty w _ (Nat.le_refl _)
  have HB0 : Hid (Below w.heap.size w (w.alloc (.cells #[] 3))) := (Below.refl _ _).alloc (Nat.le_refl _) _
  go_enter Tryz.func14, Tryz.ntmps14
  go_wp2_with (go_at_call 34; refine (two_any _ _ _ _ _ H1.out H2.out).mono ?_; rintro e w' ⟨rfl, hw⟩; replace hw := hw.symm; subst hw)
  go_loopw [6, 7] (fun out i wr => ∃ k : Nat, k ≤ 64 ∧ i = .int .i64 (k : Int) ∧ Hid (OwnI w.heap.size wr out (maxTo d1 d2 k)) ∧ Hid (Below w.heap.size w wr)) (fun _ i _ => 64 - (intOf i).toNat)
  case atStart => exact ⟨0, Nat.zero_le _, rfl, HO0, HB0⟩
  case round =>
    obtain ⟨k, hk, rfl, HO, HB⟩ := hrel
    have hsz := HB.out.size
    obtain ⟨ao, co, e0⟩ := HO.out.form
    subst e0
    have hml : (maxTo d1 d2 k).length = k := maxTo_length d1 d2 k
    rw [hml] at HO ⊢
    have HO1 : Hid (w.heap.size = w.heap.size) := rfl
    have HOx : OwnI w.heap.size wr (.slice ao k co) (maxTo d1 d2 k) := HO.out
    clear HO
    have HO : Hid (wr.ownsRow w.heap.size 3 1 (.slice ao k co) (maxTo d1 d2 k).length (cellsI (maxTo d1 d2 k))) := HOx
    have hbl : Hid (∀ j, (Value.slice ao k co).ownBlock = some j → w.heap.size ≤ j) := fun j e => OwnI.block HOx j e
    clear HOx HO1
    by_cases hlt : k < 64
    · have k1 : (k : Int) < (64 : Int) := by omega
      have k0 : (0 : Int) ≤ (k : Int) := by omega
      by_cases hm : atL d1 (k : Int) < atL d2 (k : Int)
      · have HV : Hid (maxTo d1 d2 k ++ [atL d2 (k : Int)] = maxTo d1 d2 (k + 1)) := by show _ = _; rw [atL_nat] at hm ⊢; rw [atL_nat] at hm; rw [maxTo_succ]; congr 2; omega
        go_wp2_with (first
          | (go_at_call 35; refine (refAt_any _ _ _ _ (by first | exact H1.out.below HB.out | exact H2.out.below HB.out)).mono ?_; rintro e w' ⟨rfl, hw⟩; replace hw := hw.symm; subst hw)
          | (at_builtin; refine wpList_append_own _ rfl _ _ 23 rfl w.heap.size 3 i0 (.int .i64 0) 1 8 Tryz.underlying23 hi hz0 hz1 hz2 rfl (by decide) _ _ _ rfl (World.ownsRow.alloc HO.out _) ⟨wr.heap.size, 0, none⟩ 1 1 [.int .i64 (atL d2 (k : Int))] rfl rfl (cell_one_new _ _ _) (fun x hx => by simp at hx; subst hx; rfl) (by unfold maxLen; omega) (by omega) (by simp; omega) ?_; intro v' w3 hown' hgrow3 hnil3))
        go_roundw
        case rel =>
          have h5 : OwnI w.heap.size _ _ (maxTo d1 d2 k ++ [atL d2 (k : Int)]) := OwnI.snoc hown'
          rw [HV.out] at h5
          exact ⟨k + 1, by omega, by go_num, h5, (HB.out.alloc (by omega) _).grown hgrow3 (by simp; omega) hbl.out⟩
        case measure => simp [intOf]; omega
      · have HV : Hid (maxTo d1 d2 k ++ [atL d1 (k : Int)] = maxTo d1 d2 (k + 1)) := by show _ = _; rw [atL_nat] at hm ⊢; rw [atL_nat] at hm; rw [maxTo_succ]; congr 2; omega
        go_wp2_with (first
          | (go_at_call 35; refine (refAt_any _ _ _ _ (by first | exact H1.out.below HB.out | exact H2.out.below HB.out)).mono ?_; rintro e w' ⟨rfl, hw⟩; replace hw := hw.symm; subst hw)
          | (at_builtin; refine wpList_append_own _ rfl _ _ 23 rfl w.heap.size 3 i0 (.int .i64 0) 1 8 Tryz.underlying23 hi hz0 hz1 hz2 rfl (by decide) _ _ _ rfl (World.ownsRow.alloc HO.out _) ⟨wr.heap.size, 0, none⟩ 1 1 [.int .i64 (atL d1 (k : Int))] rfl rfl (cell_one_new _ _ _) (fun x hx => by simp at hx; subst hx; rfl) (by unfold maxLen; omega) (by omega) (by simp; omega) ?_; intro v' w3 hown' hgrow3 hnil3))
        go_roundw
        case rel =>
          have h5 : OwnI w.heap.size _ _ (maxTo d1 d2 k ++ [atL d1 (k : Int)]) := OwnI.snoc hown'
          rw [HV.out] at h5
          exact ⟨k + 1, by omega, by go_num, h5, (HB.out.alloc (by omega) _).grown hgrow3 (by simp; omega) hbl.out⟩
        case measure => simp [intOf]; omega
    · obtain rfl : k = 64 := by omega
      have HE : Hid (trimL (maxTo d1 d2 64) = mergeL d1 d2) := by show _ = _; exact mergeL_64 l1 l2
      have HI : Hid (IsI wr (.slice ao 64 co) (maxTo d1 d2 64)) := OwnI.isI HO.out (by rw [hml]; omega)
      go_wp2_with fail
      refine (refTrim_any _ _ _ HI.out).mono ?_
      rintro e w4 ⟨v4, rfl, ho4, hb4⟩
      rw [HE.out] at ho4
      go_wp2
      go_ret2
      exact ⟨_, rfl, ownI_mono ho4 hsz, HB.out.trans (hb4.mono hsz)⟩

set_option maxHeartbeats 1000000 in
/-- The document's Merge: what is told of wrong ones. -/
theorem refMerge_no (v1 v2 : Value) (d1 d2 : List Int) (w : World) (h1 : IsI w v1 d1) (h2 : IsI w v2 d2) (hok : twoL d1 d2 ≠ 0) :
    Calls Tryz.prog 14 #[v1, v2] w fun e w' => e = .returned (.tuple #[.slice none 0 0, .int .i64 (twoL d1 d2)]) ∧ Below w.heap.size w w' := by
  have H1 : Hid (IsI w v1 d1) := h1
  have H2 : Hid (IsI w v2 d2) := h2
  have q : (twoL d1 d2 != 0) = true := by simp [hok]
  clear h1 h2 hok
  go_enter Tryz.func14, Tryz.ntmps14
  go_wp2_with (go_at_call 34; refine (two_any _ _ _ _ _ H1.out H2.out).mono ?_; rintro e w' ⟨rfl, hw⟩; replace hw := hw.symm; subst hw)
  go_ret2
  exact ⟨rfl, Below.refl _ _⟩

/-- The document's Merge. -/
theorem refMerge_any (v1 v2 : Value) (d1 d2 : List Int) (w : World) (h1 : IsI w v1 d1) (h2 : IsI w v2 d2) :
    Calls Tryz.prog 14 #[v1, v2] w fun e w' => ∃ v', e = .returned (.tuple #[v', .int .i64 (twoL d1 d2)]) ∧ OwnI w.heap.size w' v' (mergeR d1 d2) ∧ Below w.heap.size w w' := by
  by_cases hok : twoL d1 d2 = 0
  · refine (refMerge_ok v1 v2 d1 d2 w h1 h2 hok).mono ?_
    rintro e w' ⟨v', rfl, ho, hb⟩
    exact ⟨v', by rw [hok], by rw [mergeR_ok hok]; exact ho, hb⟩
  · refine (refMerge_no v1 v2 d1 d2 w h1 h2 hok).mono ?_
    rintro e w' ⟨rfl, hb⟩
    exact ⟨_, rfl, by rw [mergeR_no hok]; exact OwnI.nil0 _ _, hb⟩

end Go.Proofs.YtngldpabfpcaiaaGreat
