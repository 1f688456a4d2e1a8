/- The document's Ahead; Is says what a rising part is; the walk of LisLongest. -/
import Derived.Test.YtjnccmkhhnaaiaaLiW
namespace Go.Proofs.Ytjnccmkhhnaaiaa
open Go.RowKit
set_option linter.unusedVariables false

theorem RisF.ok {d : List Int} : ∀ (p : List Int) (l : Option Nat), RisF d l p → ∀ k, k < p.length → 0 ≤ atD p k ∧ atD p k < d.length ∧ (0 < k → atD p (k - 1) < atD p k ∧ atD d (atD p (k - 1)).toNat < atD d (atD p k).toNat)
  | q :: t, l, ⟨i, e, hi, hn, ha, hr⟩, 0, _ => by simp [atD, e]; omega
  | q :: t, l, ⟨i, e, hi, hn, ha, hr⟩, k + 1, hk => by
    have hk' : k < t.length := by simpa using hk
    have h := RisF.ok t (some i) hr k hk'
    have e1 : atD (q :: t) (k + 1) = atD t k := by simp [atD]
    rw [e1]
    refine ⟨h.1, h.2.1, fun _ => ?_⟩
    rw [Nat.add_sub_cancel]
    cases k with
    | zero =>
      cases t with
      | nil => simp at hk'
      | cons r s =>
        obtain ⟨j, e2, hj, hn2, ha2, _⟩ := hr
        have h0 : atD (q :: r :: s) 0 = (i : Int) := by simp [atD, e]
        have h1 : atD (r :: s) 0 = (j : Int) := by simp [atD, e2]
        rw [h0, h1]
        have hn3 : i + 1 ≤ j := hn2
        have ha3 : atD d i < atD d j := ha2
        exact ⟨by omega, by simpa using ha3⟩
    | succ k =>
      have e3 : atD (q :: t) (k + 1) = atD t k := by simp [atD]
      rw [e3]
      exact h.2.2 (by omega)
theorem isB_of_ris {d p : List Int} (h : RisF d none p) : isB d p = true := by
  refine isB_yes (Nat.le_refl _) fun k hk => ?_
  obtain ⟨h0, h1, h2⟩ := RisF.ok p none h k hk
  unfold okB
  simp only [Bool.and_eq_true, Bool.or_eq_true, decide_eq_true_eq]
  refine ⟨⟨h0, h1⟩, ?_⟩
  rcases Nat.eq_zero_or_pos k with h3 | h3
  · exact .inl h3
  · exact .inr (h2 h3)
theorem ris_of_isB {d p : List Int} (h : isB d p = true) : ∀ (n k : Nat), p.length - k ≤ n → RisF d (if k = 0 then none else some (atD p (k - 1)).toNat) (p.drop k)
  | 0, k, hn => by rw [List.drop_eq_nil_of_le (by omega)]; trivial
  | n + 1, k, hn => by
    by_cases hk : k < p.length
    · rw [List.drop_eq_getElem_cons hk]
      have ho := isB_at h hk
      have hin := okB_in ho
      have ih := ris_of_isB h n (k + 1) (by omega)
      rw [if_neg (by omega), Nat.add_sub_cancel] at ih
      refine ⟨(atD p k).toNat, by rw [atD_eq hk]; omega, by omega, ?_, ?_, ih⟩
      · by_cases h0 : k = 0
        · rw [if_pos h0]; exact Nat.zero_le _
        · rw [if_neg h0]
          have hp := okB_in (isB_at h (k := k - 1) (by omega))
          unfold okB at ho
          simp only [Bool.and_eq_true, Bool.or_eq_true, decide_eq_true_eq] at ho
          have h3 := (ho.2.resolve_left h0).1
          show (atD p (k - 1)).toNat + 1 ≤ (atD p k).toNat
          omega
      · by_cases h0 : k = 0
        · rw [if_pos h0]; trivial
        · rw [if_neg h0]
          unfold okB at ho
          simp only [Bool.and_eq_true, Bool.or_eq_true, decide_eq_true_eq] at ho
          exact (ho.2.resolve_left h0).2
    · rw [List.drop_eq_nil_of_le (by omega)]; trivial
theorem risF_of_isB {d p : List Int} (h : isB d p = true) : RisF d none p := by
  have := ris_of_isB h p.length 0 (by omega)
  simpa using this

set_option maxHeartbeats 1000000 in
/-- The document's Ahead. -/
theorem refAhead_any (v1 v2 : Value) (a b : List Int) (w : World) (h1 : IsI w v1 a) (h2 : IsI w v2 b) :
    Calls Try.prog 19 #[v1, v2] w fun e w' => e = .returned (.bool (ahdB a b)) ∧ Below w.heap.size w w' := by
  obtain ⟨a1, c1, rfl, hc1, hl1, r1⟩ := h1
  obtain ⟨a2, c2, rfl, hc2, hl2, r2⟩ := h2
  have R1 := hide9 r1
  have R2 := hide9 r2
  clear r1 r2
  go_enter Try.func19, Try.ntmps19
  go_wp2
  go_loopw [5] (fun i wr => ∃ k : Nat, k ≤ a.length ∧ k ≤ b.length ∧ i = .int .i64 (k : Int) ∧ Hid (ahdB a b = ahdB (a.drop k) (b.drop k)) ∧ Hid (Below w.heap.size w wr)) (fun i _ => a.length - (intOf i).toNat)
  case atStart => exact ⟨0, Nat.zero_le _, Nat.zero_le _, rfl, by (show _ = _; rfl), Below.refl _ _⟩
  case round =>
    obtain ⟨k, hk, hkb, rfl, HT, HB⟩ := hrel
    by_cases hla : k < a.length
    · have k1 : (k : Int) < (a.length : Int) := by omega
      have k0 : (0 : Int) ≤ (k : Int) := by omega
      by_cases hlb : k < b.length
      · have k2 : (k : Int) < (b.length : Int) := by omega
        obtain ⟨b1, o1, rfl, g1⟩ := R1.out.resolve_left (by intro e; subst e; simp at hla)
        obtain ⟨b2, o2, rfl, g2⟩ := R2.out.resolve_left (by intro e; subst e; simp at hlb)
        have x1 := (g1.below HB.out) k hla
        have x2 := (g2.below HB.out) k hlb
        have HT2 : Hid (ahdB a b = if a[k] = b[k] then ahdB (a.drop (k + 1)) (b.drop (k + 1)) else decide (a[k] < b[k])) := by
          show _ = _
          rw [HT.out, List.drop_eq_getElem_cons hla, List.drop_eq_getElem_cons hlb]
          rfl
        clear g1 g2 HT
        by_cases hx : a[k] = b[k]
        · have HM : Hid (ahdB a b = ahdB (a.drop (k + 1)) (b.drop (k + 1))) := by show _ = _; rw [HT2.out, if_pos hx]
          rw [← hx] at x2
          have q2 : (a[k] != a[k]) = false := by simp
          clear hx HT2
          go_wp2
          go_quiet (fail)
          go_wp2
          go_roundw
          case rel => exact ⟨k + 1, by omega, by omega, by go_num, HM, below_drewN HB.out _⟩
          case measure => simp [intOf]; omega
        · have HM : Hid (ahdB a b = decide (a[k] < b[k])) := by show _ = _; rw [HT2.out, if_neg hx]
          have q2 : (a[k] != b[k]) = true := by simp [hx]
          have y1 : ∀ n, (wr.drewN n).cell? ⟨b1, o1 + k, none⟩ = some (.int .i64 a[k]) := fun n => x1
          have y2 : ∀ n, (wr.drewN n).cell? ⟨b2, o2 + k, none⟩ = some (.int .i64 b[k]) := fun n => x2
          clear hx HT2
          go_wp2
          go_quiet (fail)
          go_wp2
          go_quiet (fail)
          go_wp2
          go_ret
          exact ⟨ret_b HM.out.symm, below_drewN (below_drewN HB.out _) _⟩
      · have HE : Hid (ahdB a b = false) := by
          show _ = _
          rw [HT.out, List.drop_eq_nil_of_le (by omega : b.length ≤ k)]
          cases a.drop k <;> rfl
        have k2 : ¬ (k : Int) < (b.length : Int) := by omega
        clear HT
        go_wp2
        go_ret
        exact ⟨ret_b HE.out.symm, HB.out⟩
    · have HE : Hid (ahdB a b = false) := by
        show _ = _
        rw [HT.out, List.drop_eq_nil_of_le (by omega : a.length ≤ k)]
        rfl
      have k2 : ¬ (k : Int) < (a.length : Int) := by omega
      clear HT
      go_wp2
      go_ret
      exact ⟨ret_b HE.out.symm, HB.out⟩

set_option maxHeartbeats 1000000 in
theorem lisLongest_walk (v1 : Value) (d : List Int) (v2 : Value) (p : List Int) (w : World) (h1 : IsI w v1 d) (h2 : IsI w v2 p) :
    Calls Try.prog 5 #[v1, v2] w fun e w' => e = .returned (.bool true) ∧ Below w.heap.size w w' := by
  have H1 := hide9 h1
  have H2 := hide9 h2
  obtain ⟨a1, c1, e1, _, hl1, _⟩ := h1
  obtain ⟨a2, c2, e2⟩ := h2.form
  subst e1 e2
  clear h2
  go_enter Try.func5, Try.ntmps5
  go_wp2_with fail
  refine (rising_any _ d _ H1.out).mono ?_
  rintro e w1 ⟨v3, rfl, ho, hb1⟩
  have hrl := ris_len d
  have B1 := hide9 hb1
  have H3 := hide9 (H1.out.below hb1)
  have H4 := hide9 (H2.out.below hb1)
  have H5 := hide9 (ho.isI (by omega))
  obtain ⟨a3, c3, e3⟩ := ho.form
  subst e3
  have ti := hide9 (isB_of_ris (ris_ris d).1)
  have tl := hide9 (ris_ris d).2
  clear hb1 ho
  go_wp2_with fail
  refine (refIs_any _ _ d (risL d) _ H3.out H5.out).mono ?_
  rintro e w2 ⟨rfl, hb2⟩
  rw [ti.out]
  have B2 := hide9 (B1.out.trans (hb2.mono B1.out.size))
  have H6 := hide9 (H3.out.below hb2)
  have H7 := hide9 (H4.out.below hb2)
  have H8 := hide9 (H5.out.below hb2)
  clear hb2 ti H3 H4 H5 B1
  go_wp2_with fail
  refine (refIs_any _ _ d p _ H6.out H7.out).mono ?_
  rintro e w3 ⟨rfl, hb3⟩
  have B3 := hide9 (B2.out.trans (hb3.mono B2.out.size))
  have H9 := hide9 (H7.out.below hb3)
  have Ha := hide9 (H8.out.below hb3)
  clear hb3 H6 H7 H8 B2
  cases hp : isB d p
  · clear hp
    go_wp2_with fail
    refine (awake_any _).mono ?_
    rintro e w4 ⟨rfl, hb4⟩
    have B4 := hide9 (B3.out.trans (hb4.mono B3.out.size))
    clear hb4
    go_wp2
    go_ret
    exact ⟨rfl, B4.out⟩
  · have HL := hide9 (risF_of_isB hp).long
    have HF := hide9 (risF_of_isB hp)
    clear hp
    by_cases he : p.length = (risL d).length
    · have q1 : ((p.length : Int) == ((risL d).length : Int)) = true := by simp [he]
      have hah := hide9 (ris_first HF.out (by rw [← tl.out, he]))
      clear he
      go_wp2_with fail
      refine (refAhead_any _ _ p (risL d) _ H9.out Ha.out).mono ?_
      rintro e w4 ⟨rfl, hb4⟩
      rw [hah.out]
      have B4 := hide9 (B3.out.trans (hb4.mono B3.out.size))
      clear hb4
      go_wp2_with fail
      refine (awake_any _).mono ?_
      rintro e w5 ⟨rfl, hb5⟩
      have B5 := hide9 (B4.out.trans (hb5.mono B4.out.size))
      clear hb5
      go_wp2
      go_ret
      exact ⟨rfl, B5.out⟩
    · have q1 : ((p.length : Int) == ((risL d).length : Int)) = false := by simp; omega
      have q2 : (p.length : Int) < ((risL d).length : Int) := by have := HL.out; have := tl.out; omega
      clear he
      go_wp2_with fail
      refine (awake_any _).mono ?_
      rintro e w4 ⟨rfl, hb4⟩
      have B4 := hide9 (B3.out.trans (hb4.mono B3.out.size))
      clear hb4
      go_wp2
      go_ret
      exact ⟨rfl, B4.out⟩

end Go.Proofs.Ytjnccmkhhnaaiaa
