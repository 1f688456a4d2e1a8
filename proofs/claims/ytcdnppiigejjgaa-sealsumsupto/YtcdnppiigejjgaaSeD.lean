/- What Seal does, and the document's Seal. -/
import Derived.Test.YtcdnppiigejjgaaSeC
namespace Go.Proofs.Ytcdnppiigejjgaa
open Go.RowKit
set_option linter.unusedVariables false

/-- What Seal tells of a kind and a load: the frame, the error. -/
def sealL (kind : Int) (load : List UInt8) : List UInt8 × Int :=
  if 1 ≤ kind ∧ kind ≤ 15 then (if load.length ≤ 65536 then (frameL kind.toNat load, 0) else ([], 3)) else ([], 1)
theorem headL_length (k : Nat) (load : List UInt8) : (headL k load).length = load.length + 5 := by simp [headL, fourL]
theorem frameL_length (k : Nat) (load : List UInt8) : (frameL k load).length = load.length + 9 := by simp [frameL, headL_length, fourL]
theorem IsBB.one {w : World} {v : Value} {p : List UInt8} (h : IsB w v p) (ty : TypeId) : IsBB (w.alloc (.cells #[v] ty)) (.slice (some ⟨w.heap.size, 0, none⟩) 1 1) [p] := by
  refine ⟨_, 1, rfl, Nat.le_refl _, by simp, .inr ⟨w.heap.size, 0, rfl, fun i hi => ?_⟩⟩
  obtain rfl : i = 0 := by simpa using hi
  refine ⟨v, ?_, h.below ((Below.refl _ _).alloc (Nat.le_refl _) _)⟩
  exact cell_one_new w v ty 0 v rfl

theorem OwnB.form3 {B : Nat} {w : World} {v : Value} {D : List UInt8} (h : OwnB B w v D) : ∃ a n cap, v = .slice a n cap := by
  obtain ⟨a, cap, e⟩ := h.form
  exact ⟨a, _, cap, e⟩

set_option maxRecDepth 100000 in
set_option maxHeartbeats 2000000 in
/-- seal.Seal. -/
theorem seal_any (kind : Int) (v : Value) (p : List UInt8) (w : World) (h : IsB w v p) :
    Calls Try.prog 12 #[.int .i64 kind, v] w fun e w' => ∃ v', e = .returned (.tuple #[v', .int .i64 (sealL kind p).2]) ∧ OwnB w.heap.size w' v' (sealL kind p).1 ∧ Below w.heap.size w w' := by
  obtain ⟨i0, hi, hz0, hz1, hz2⟩ := info_parts infoByte
  have H : Hid (IsB w v p) := h
  obtain ⟨a1, c1, rfl, hc1, hl1, r1⟩ := h
  clear r1
  by_cases hk : 1 ≤ kind ∧ kind ≤ 15
  · have HK : Hid (1 ≤ kind ∧ kind ≤ 15) := hk
    by_cases hl : p.length ≤ 65536
    · have HS : Hid (sealL kind p = (frameL kind.toNat p, 0)) := by show _ = _; unfold sealL; rw [if_pos hk, if_pos hl]
      obtain ⟨k, rfl⟩ := Int.eq_ofNat_of_zero_le (show 0 ≤ kind by omega)
      rw [Int.toNat_natCast] at HS
      generalize sealL (k : Int) p = S at *
      have hk1 : 1 ≤ k := by omega
      have hk2 : k ≤ 15 := by omega
      clear hk
      go_enter Try.func12, Try.ntmps12
      go_wp2_with (first
        | (go_at_call 19; refine (isKind_yes _ _ HK.out).mono ?_; rintro e w' ⟨rfl, hw⟩; replace hw := hw.symm; subst hw)
        | (at_make; refine wpList_make_own _ rfl _ _ 23 rfl w.heap.size 5 i0 (.int .u8 0) 1 Try.underlying23 hi hz0 hz1 .i64 .i64 _ (9 + p.length) rfl rfl (by omega) (by rw [hz2]; omega) (by unfold maxLen; omega) (Nat.le_refl _) ?_; intro w1 ho1 hg1; have HO1 : Hid (OwnB w.heap.size w1 (.slice (some ⟨w.heap.size, 0, none⟩) 0 (9 + p.length)) []) := ho1; have HB1 : Hid (Below w.heap.size w w1) := (Below.refl _ _).grown hg1 (Nat.le_refl _) (fun j e => by cases e); have hs1 := HB1.out.size; clear ho1 hg1)
        | (at_builtin; refine wpList_append_own _ rfl _ _ 23 rfl w.heap.size 5 i0 (.int .u8 0) 1 1 Try.underlying23 hi hz0 hz1 hz2 rfl (by decide) _ _ _ rfl (World.ownsRow.alloc HO1.out _) ⟨w1.heap.size, 0, none⟩ 1 1 [_] rfl rfl (cell_one_new _ _ _) (fun x hx => by simp at hx; subst hx; rfl) (by unfold maxLen; simp) (by simp) (by simp; omega) ?_; intro v2 w2 ho2 hg2 _; have HO2 : Hid (OwnB w.heap.size w2 v2 [UInt8.ofNat k]) := OwnB.more (D := []) (E := [UInt8.ofNat k]) ho2 rfl (by simp [cellsB]; omega); have HB2 : Hid (Below w.heap.size w w2) := (HB1.out.alloc (by omega) _).grown hg2 (by simp; omega) (fun j e => (World.ownsRow.lt HO1.out j e).1); have hs2 := HB2.out.size; clear ho2 hg2))
      refine (appendWord_any w.heap.size _ _ p.length _ (by omega) HO2.out hs2 (by simp)).mono ?_
      rintro e w3 ⟨v3, rfl, ho3, hb3⟩
      have HO3 : Hid (OwnB w.heap.size w3 v3 ([UInt8.ofNat k] ++ fourL p.length)) := ho3
      have HB3 : Hid (Below w.heap.size w w3) := HB2.out.trans hb3
      have hs3 := HB3.out.size
      clear ho3 hb3
      go_wp2_with (at_builtin; refine wpList_appB rfl _ _ rfl w.heap.size _ _ rfl HO3.out hs3 _ p rfl (H.out.below HB3.out) (by simp [fourL]; omega) ?_; intro v4 w4 ho4 hg4; obtain ⟨a4, n4, c4, rfl⟩ := ho4.form3; have HO4 : Hid (OwnB w.heap.size w4 (.slice a4 n4 c4) (headL k p)) := ho4; have HB4 : Hid (Below w.heap.size w w4) := HB3.out.grown hg4 hs3 HO3.out.block; have hs4 := HB4.out.size; clear ho4 hg4)
      generalize hv4 : Value.slice a4 n4 c4 = v4 at *
      have HI4 : Hid (IsBB (w4.alloc (.cells #[v4] 23)) (.slice (some ⟨w4.heap.size, 0, none⟩) 1 1) [headL k p]) := IsBB.one (HO4.out.isB (by rw [headL_length]; omega)) _
      refine (sum_any _ [headL k p] _ HI4.out).mono ?_
      rintro e w' ⟨rfl, rfl⟩
      rw [List.flatten_cons, List.flatten_nil, List.append_nil]
      have HB5 : Hid (Below w4.heap.size w4 (w4.alloc (.cells #[v4] 23))) := (Below.refl _ _).alloc (Nat.le_refl _) _
      have HB6 : Hid (Below w.heap.size w (w4.alloc (.cells #[v4] 23))) := HB4.out.alloc (by omega) _
      have HO6 : Hid (OwnB w.heap.size (w4.alloc (.cells #[v4] 23)) v4 (headL k p)) := HO4.out.below HB5.out
      have HFR : Hid (frameL k p = headL k p ++ fourL (sumL (headL k p))) := rfl
      have hsum := sumL_lt (headL k p)
      generalize sumL (headL k p) = sm at *
      go_wp2_with fail
      refine (appendWord_any w.heap.size _ _ sm _ hsum HO6.out HB6.out.size (by rw [headL_length]; omega)).mono ?_
      rintro e w7 ⟨v7, rfl, ho7, hb7⟩
      have HO7 : Hid (OwnB w.heap.size w7 v7 (frameL k p)) := by show OwnB _ _ _ _; rw [HFR.out]; exact ho7
      have HB7 : Hid (Below w.heap.size w w7) := HB6.out.trans hb7
      clear ho7 hb7
      go_wp2
      go_ret2
      exact ⟨v7, by rw [HS.out]; rfl, by rw [HS.out]; exact HO7.out, HB7.out⟩
    · have HS : Hid (sealL kind p = ([], 3)) := by show _ = _; unfold sealL; rw [if_pos hk, if_neg hl]
      clear hk
      go_enter Try.func12, Try.ntmps12
      go_wp2_with (go_at_call 19; refine (isKind_yes _ _ HK.out).mono ?_; rintro e w' ⟨rfl, hw⟩; replace hw := hw.symm; subst hw)
      go_ret2
      exact ⟨_, by rw [HS.out]; rfl, by rw [HS.out]; exact OwnB.nil0 _ _, Below.refl _ _⟩
  · have HK : Hid (¬ (1 ≤ kind ∧ kind ≤ 15)) := hk
    have HS : Hid (sealL kind p = ([], 1)) := by show _ = _; unfold sealL; rw [if_neg hk]
    clear hk
    go_enter Try.func12, Try.ntmps12
    go_wp2_with (go_at_call 19; refine (isKind_no _ _ HK.out).mono ?_; rintro e w' ⟨rfl, hw⟩; replace hw := hw.symm; subst hw)
    go_ret2
    exact ⟨_, by rw [HS.out]; rfl, by rw [HS.out]; exact OwnB.nil0 _ _, Below.refl _ _⟩

set_option maxRecDepth 100000 in
set_option maxHeartbeats 2000000 in
/-- The document's Seal. -/
theorem refSeal_any (kind : Int) (v : Value) (p : List UInt8) (w : World) (h : IsB w v p) :
    Calls Try.prog 13 #[.int .i64 kind, v] w fun e w' => ∃ v', e = .returned (.tuple #[v', .int .i64 (sealL kind p).2]) ∧ OwnB w.heap.size w' v' (sealL kind p).1 ∧ Below w.heap.size w w' := by
  have H : Hid (IsB w v p) := h
  obtain ⟨a1, c1, rfl, hc1, hl1, r1⟩ := h
  clear r1
  by_cases hk : 1 ≤ kind ∧ kind ≤ 15
  · have hk1 : ¬ kind < 1 := by omega
    have hk2 : ¬ 15 < kind := by omega
    by_cases hl : p.length ≤ 65536
    · have HS : Hid (sealL kind p = (frameL kind.toNat p, 0)) := by show _ = _; unfold sealL; rw [if_pos hk, if_pos hl]
      obtain ⟨k, rfl⟩ := Int.eq_ofNat_of_zero_le (show 0 ≤ kind by omega)
      rw [Int.toNat_natCast] at HS
      generalize sealL (k : Int) p = S at *
      have hk3 : k ≤ 15 := by omega
      clear hk
      have HO1 : Hid (OwnB w.heap.size (w.alloc (.cells #[.int .u8 (k : Int)] 5)) (.slice (some ⟨w.heap.size, 0, none⟩) 1 1) [UInt8.ofNat k]) := OwnB.made w [UInt8.ofNat k] #[.int .u8 (k : Int)] (by simp [cellsB]; omega) (by simp) (Nat.le_refl _)
      have HB1 : Hid (Below w.heap.size w (w.alloc (.cells #[.int .u8 (k : Int)] 5))) := (Below.refl _ _).alloc (Nat.le_refl _) _
      go_enter Try.func13, Try.ntmps13
      go_wp2_with fail
      refine (refFour_any p.length _ (by omega)).mono ?_
      rintro e w2 ⟨v2, rfl, ho2, hb2⟩
      have HB2 : Hid (Below w.heap.size w w2) := HB1.out.trans (hb2.mono HB1.out.size)
      have HO2 : Hid (OwnB w.heap.size w2 (.slice (some ⟨w.heap.size, 0, none⟩) 1 1) [UInt8.ofNat k]) := HO1.out.below hb2
      have HI2 : Hid (IsB w2 v2 (fourL p.length)) := ho2.isB (by rw [fourL_length]; omega)
      have hs2 := HB2.out.size
      clear ho2 hb2
      go_wp2_with (first
        | (at_builtin; refine wpList_appB rfl _ _ rfl w.heap.size _ _ rfl HO2.out hs2 _ (fourL p.length) rfl HI2.out (by simp [fourL]) ?_; intro v3 w3 ho3 hg3; have HO3 : Hid (OwnB w.heap.size w3 v3 ([UInt8.ofNat k] ++ fourL p.length)) := ho3; have HB3 : Hid (Below w.heap.size w w3) := HB2.out.grown hg3 hs2 HO2.out.block; have hs3 := HB3.out.size; clear ho3 hg3)
        | (at_builtin; refine wpList_appB rfl _ _ rfl w.heap.size _ _ rfl HO3.out hs3 _ p rfl (H.out.below HB3.out) (by simp [fourL]; omega) ?_; intro v4 w4 ho4 hg4; have HO4 : Hid (OwnB w.heap.size w4 v4 (headL k p)) := ho4; have HB4 : Hid (Below w.heap.size w w4) := HB3.out.grown hg4 hs3 HO3.out.block; have hs4 := HB4.out.size; clear ho4 hg4))
      have HLH : Hid ((headL k p).length = p.length + 5) := headL_length k p
      refine (refSum_any _ (headL k p) _ (HO4.out.isB (by rw [HLH.out]; omega))).mono ?_
      rintro e w' ⟨rfl, rfl⟩
      have HFR : Hid (frameL k p = headL k p ++ fourL (sumL (headL k p))) := rfl
      have hsum := sumL_lt (headL k p)
      generalize sumL (headL k p) = sm at *
      go_wp2_with fail
      refine (refFour_any sm _ hsum).mono ?_
      rintro e w5 ⟨v5, rfl, ho5, hb5⟩
      have HB5 : Hid (Below w.heap.size w w5) := HB4.out.trans (hb5.mono HB4.out.size)
      have HO5 : Hid (OwnB w.heap.size w5 v4 (headL k p)) := HO4.out.below hb5
      have HI5 : Hid (IsB w5 v5 (fourL sm)) := ho5.isB (by rw [fourL_length]; omega)
      have hs5 := HB5.out.size
      clear ho5 hb5
      go_wp2_with (at_builtin; refine wpList_appB rfl _ _ rfl w.heap.size _ _ rfl HO5.out hs5 _ (fourL sm) rfl HI5.out (by rw [HLH.out, fourL_length]; omega) ?_; intro v6 w6 ho6 hg6; have HO6 : Hid (OwnB w.heap.size w6 v6 (frameL k p)) := (by show OwnB _ _ _ _; rw [HFR.out]; exact ho6); have HB6 : Hid (Below w.heap.size w w6) := HB5.out.grown hg6 hs5 HO5.out.block; clear ho6 hg6)
      go_ret2
      exact ⟨v6, by rw [HS.out]; rfl, by rw [HS.out]; exact HO6.out, HB6.out⟩
    · have HS : Hid (sealL kind p = ([], 3)) := by show _ = _; unfold sealL; rw [if_pos hk, if_neg hl]
      clear hk
      go_enter Try.func13, Try.ntmps13
      go_wp2
      go_ret2
      exact ⟨_, by rw [HS.out]; rfl, by rw [HS.out]; exact OwnB.nil0 _ _, Below.refl _ _⟩
  · have HS : Hid (sealL kind p = ([], 1)) := by show _ = _; unfold sealL; rw [if_neg hk]
    by_cases hk1 : kind < 1
    all_goals (
      have hk2 : kind < 1 ∨ 15 < kind := by omega
      go_enter Try.func13, Try.ntmps13
      go_wp2
      go_ret2
      exact ⟨_, by rw [HS.out]; rfl, by rw [HS.out]; exact OwnB.nil0 _ _, Below.refl _ _⟩)

end Go.Proofs.Ytcdnppiigejjgaa
