/- What ranks tells, and the walk of LisOrder. -/
import Derived.Test.YtjnccmkhhnaaiaaLiW
import Derived.Test.YtjnccmkhhnaaiaaPlainLm
namespace Go.Proofs.Ytjnccmkhhnaaiaa
open Go.RowKit
set_option linter.unusedVariables false

/-- Do none of the first j places have place k's number? -/
def fstT (d : List Int) (k : Nat) : Nat → Bool
  | 0 => true
  | j + 1 => fstT d k j && decide (atD d j ≠ atD d k)
theorem fstT_eq (d : List Int) (k : Nat) : ∀ j, fstT d k j = (List.range j).all fun i => decide (atD d i ≠ atD d k)
  | 0 => rfl
  | j + 1 => by rw [fstT, fstT_eq d k j, List.range_succ, List.all_append]; simp
theorem fstT_whole (d : List Int) (k : Nat) : fstT d k k = fstB d k := fstT_eq d k k
theorem fstT_no {d : List Int} {k : Nat} : ∀ {m j : Nat}, j ≤ m → fstT d k j = false → fstT d k m = false
  | 0, j, h, e => by obtain rfl : j = 0 := by omega
                     exact e
  | m + 1, j, h, e => by
    rcases Nat.lt_or_ge m j with h1 | h1
    · obtain rfl : j = m + 1 := by omega
      exact e
    · rw [fstT, fstT_no h1 e]; rfl
/-- The row while place i's rank is being counted. -/
def midP (d : List Int) (i : Nat) (c : Int) : List Int := (rkL d).take i ++ c :: List.replicate (d.length - (i + 1)) 0
theorem rkL_length (d : List Int) : (rkL d).length = d.length := by simp [rkL]
theorem midP_len {d : List Int} {i : Nat} (h : i < d.length) (c : Int) : (midP d i c).length = d.length := by simp [midP, rkL_length]; omega
theorem midP_at {d : List Int} {i : Nat} (h : i < d.length) (c : Int) : atD (midP d i c) i = c := by
  unfold midP atD
  rw [List.getD_eq_getElem?_getD, List.getElem?_append_right (by simp [rkL_length]; omega)]
  simp [rkL_length, Nat.min_eq_left (Nat.le_of_lt h)]
theorem midP_set {d : List Int} {i : Nat} (h : i < d.length) (c b : Int) : (midP d i c).set i b = midP d i b := by
  unfold midP
  rw [List.set_append_right _ _ (by simp [rkL_length]; omega)]
  simp [rkL_length, Nat.min_eq_left (Nat.le_of_lt h)]
theorem midP_start {d : List Int} {i : Nat} (h : i < d.length) : (rkL d).take i ++ List.replicate (d.length - i) 0 = midP d i 0 := by
  unfold midP
  rw [show d.length - i = (d.length - (i + 1)) + 1 by omega, List.replicate_succ]
theorem midP_done {d : List Int} {i : Nat} (h : i < d.length) : midP d i (rk d (atD d i) d.length) = (rkL d).take (i + 1) ++ List.replicate (d.length - (i + 1)) 0 := by
  unfold midP
  rw [← rkL_at h, List.take_succ_eq_append_getElem (by rw [rkL_length]; exact h), atD_eq (d := rkL d) (by rw [rkL_length]; exact h)]
  simp

/-- make([]int, m). -/
theorem mkIntsM (m : Nat) (hm : m ≤ 17592186044416) (w : World) : ∃ w1, (Instr.makeSlice 22 (.int .i64 (m : Int)) (.int .i64 (m : Int))).run Try.prog w = .ok (.slice (some ⟨w.heap.size, 0, none⟩) m m) w1 ∧ RowF w1 w.heap.size (List.replicate m 0) ∧ Below w.heap.size w w1 := mkInts m hm w

set_option maxHeartbeats 4000000 in
theorem ranks_any (v1 : Value) (d : List Int) (w : World) (h1 : IsI w v1 d) :
    Calls Try.prog 20 #[v1] w fun e w' => ∃ g, e = .returned (.slice (some ⟨g, 0, none⟩) d.length d.length) ∧ RowF w' g (rkL d) ∧ Below w.heap.size w w' := by
  obtain ⟨a1, c1, rfl, hc1, hl1, r1⟩ := h1
  have R1 := hide9 r1
  clear r1
  obtain ⟨W1, hmk, hr1, hb1⟩ := mkInts d.length hl1 w
  have HR := hide9 hr1
  have HB := hide9 hb1
  clear hr1 hb1
  go_enter Try.func20, Try.ntmps20
  go_wp2
  clear hmk
  go_loopw [4] (fun iv wr => ∃ i : Nat, i ≤ d.length ∧ iv = .int .i64 (i : Int) ∧ Hid (RowF wr w.heap.size ((rkL d).take i ++ List.replicate (d.length - i) 0)) ∧ Hid (Below w.heap.size w wr)) (fun iv _ => d.length - (intOf iv).toNat)
  case atStart => exact ⟨0, Nat.zero_le _, rfl, by (show RowF _ _ _; simpa using HR.out), HB⟩
  case round =>
    clear HR HB
    obtain ⟨i, hi, rfl, HR, HB⟩ := hrel
    by_cases hlt : i < d.length
    · have i1 : (i : Int) < (d.length : Int) := by omega
      have i0 : (0 : Int) ≤ (i : Int) := by omega
      obtain ⟨b1, o1, rfl, g⟩ := R1.out.resolve_left (by intro e; subst e; simp at hlt)
      have G := hide9 g
      clear g
      rw [midP_start hlt] at HR
      obtain ⟨x, ex⟩ : ∃ x, x = atD d i := ⟨_, rfl⟩
      have HX := hide9 ex
      clear ex
      go_wp2
      go_loopw [5] (fun kv wr => ∃ k : Nat, k ≤ d.length ∧ kv = .int .i64 (k : Int) ∧ Hid (RowF wr w.heap.size (midP d i (rk d x k))) ∧ Hid (Below w.heap.size w wr)) (fun kv _ => d.length - (intOf kv).toNat)
      case atStart => exact ⟨0, Nat.zero_le _, rfl, HR, HB⟩
      case round =>
        clear HR HB
        obtain ⟨k, hk, rfl, HR, HB⟩ := hrel
        by_cases hltk : k < d.length
        · have k1 : (k : Int) < (d.length : Int) := by omega
          have k0 : (0 : Int) ≤ (k : Int) := by omega
          have xi := (G.out.below HB.out) i hlt
          have xk := (G.out.below HB.out) k hltk
          rw [atD_eq hlt, ← HX.out] at xi
          rw [atD_eq hltk] at xk
          obtain ⟨y, ey⟩ : ∃ y, y = atD d k := ⟨_, rfl⟩
          rw [← ey] at xk
          have HY := hide9 ey
          clear ey
          go_wp2
          go_quiet (fail)
          obtain ⟨Wq, eW⟩ : ∃ X, X = wr.drewN nq := ⟨_, rfl⟩
          have hbq : Below wr.heap.size wr Wq := (by rw [eW]; exact below_drewN (Below.refl _ _) _)
          have HR2 := hide9 (HR.out.below hbq)
          have HB2 := hide9 (HB.out.trans (hbq.mono HB.out.size))
          clear HR HB hbq xi xk
          rw [← eW]
          clear eW
          go_wp2
          go_loopw [6, 7] (fun fv jv wr => ∃ j : Nat, j ≤ k ∧ jv = .int .i64 (j : Int) ∧ fv = .bool (decide (y < x) && fstT d k j) ∧ Hid (RowF wr w.heap.size (midP d i (rk d x k))) ∧ Hid (Below w.heap.size w wr)) (fun _ jv _ => k - (intOf jv).toNat)
          case atStart => exact ⟨0, Nat.zero_le _, rfl, by simp [fstT], HR2, HB2⟩
          case round =>
            clear HR2 HB2
            obtain ⟨j, hj, rfl, rfl, HR, HB⟩ := hrel
            have HRk : Hid (rk d x (k + 1) = if (decide (y < x) && fstT d k k) = true then rk d x k + 1 else rk d x k) := by
              show _ = _
              rw [fstT_whole, HY.out]
              simp only [rk, Bool.and_eq_true, decide_eq_true_eq]
            obtain ⟨f, ef⟩ : ∃ f, f = (decide (y < x) && fstT d k j) := ⟨_, rfl⟩
            have HF := hide9 ef
            rw [← ef]
            clear ef
            have hrb := rk_bound d x k
            have hcell := HR.out.at (i := i) (by rw [midP_len hlt]; exact hlt)
            rw [midP_at hlt] at hcell
            obtain ⟨y1, y2⟩ := hcell
            obtain ⟨c, ec⟩ : ∃ c, c = rk d x k := ⟨_, rfl⟩
            rw [← ec] at y1 HR HRk hrb
            have HC := hide9 ec
            clear ec
            have n9 : IntKind.i64.wrap (c + 1) = c + 1 := by rw [IntKind.wrap_i64]; omega
            by_cases hjk : j < k
            · have j1 : (j : Int) < (k : Int) := by omega
              have j0 : (0 : Int) ≤ (j : Int) := by omega
              have j2 : (j : Int) < (d.length : Int) := by omega
              cases hf : f
              · have HN : Hid (rk d x (k + 1) = c) := by
                  show _ = _
                  rw [HRk.out, if_neg]
                  intro h
                  rw [Bool.and_eq_true] at h
                  have h1 := HF.out
                  rw [hf, h.1, Bool.true_and] at h1
                  rw [fstT_no hj h1.symm] at h
                  exact absurd h.2 (by simp)
                clear hf y1 y2
                rw [← HN.out] at HR
                go_wp2
                go_roundw
                case rel => exact ⟨k + 1, by omega, by go_num, HR, HB⟩
                case measure => simp [intOf]; omega
              · have xj := (G.out.below HB.out) j (by omega)
                have xk := (G.out.below HB.out) k hltk
                rw [atD_eq (by omega)] at xj
                rw [atD_eq hltk, ← HY.out] at xk
                have HN : Hid ((decide (y < x) && fstT d k (j + 1)) = (atD d j != y)) := by
                  show _ = _
                  have h1 := HF.out
                  rw [hf] at h1
                  have h2 := h1.symm
                  rw [Bool.and_eq_true] at h2
                  rw [fstT, h2.1, h2.2, HY.out]
                  by_cases h : atD d j = atD d k <;> simp [h]
                obtain ⟨z, ez⟩ : ∃ z, z = atD d j := ⟨_, rfl⟩
                rw [← ez] at xj HN
                rw [HC.out] at HR
                clear hf ez y1 y2
                go_wp2
                go_quiet (fail)
                go_wp2
                go_roundw
                case rel => exact ⟨j + 1, by omega, by go_num, by rw [HN.out], HR.out.below (below_drewN (Below.refl _ _) _), below_drewN HB.out _⟩
                case measure => simp [intOf]; omega
            · obtain rfl : j = k := by omega
              have j1 : ¬ (j : Int) < (j : Int) := by omega
              rw [← HF.out] at HRk
              cases hf : f
              · have HN : Hid (rk d x (j + 1) = c) := by show _ = _; rw [HRk.out, hf]; rfl
                clear hf y1 y2
                rw [← HN.out] at HR
                go_wp2
                go_roundw
                case rel => exact ⟨j + 1, by omega, by go_num, HR, HB⟩
                case measure => simp [intOf]; omega
              · have HN : Hid (rk d x (j + 1) = c + 1) := by show _ = _; rw [HRk.out, hf]; rfl
                have HR3 := hide9 (HR.out.set i (c + 1))
                rw [midP_set hlt, ← HN.out] at HR3
                have HB3 := hide9 (HB.out.setCell (p := ⟨w.heap.size, i, none⟩) (Nat.le_refl _) (.int .i64 (c + 1)))
                rw [HN.out] at HR3
                clear hf
                go_wp2
                go_roundw
                case rel => exact ⟨j + 1, by omega, by go_num, by (show RowF _ _ _; rw [HN.out]; exact HR3.out), HB3⟩
                case measure => simp [intOf]; omega
        · obtain rfl : k = d.length := by omega
          have k1 : ¬ (d.length : Int) < (d.length : Int) := by omega
          rw [HX.out, midP_done hlt] at HR
          go_wp2
          go_roundw
          case rel => exact ⟨i + 1, by omega, by go_num, HR, HB⟩
          case measure => simp [intOf]; omega
    · obtain rfl : i = d.length := by omega
      have k1 : ¬ (d.length : Int) < (d.length : Int) := by omega
      have HE : Hid (RowF wr w.heap.size (rkL d)) := by show RowF _ _ _; have := HR.out; rw [← rkL_length, List.take_length] at this; simpa using this
      go_wp2
      go_ret
      exact ⟨_, rfl, HE.out, HB.out⟩

set_option maxHeartbeats 2000000 in
theorem lisOrder_walk (v1 : Value) (d0 : List Int) (w : World) (h1 : IsI w v1 d0) :
    Calls Try.prog 8 #[v1] w fun e w' => e = .returned (.bool true) ∧ Below w.heap.size w w' := by
  have H0 := hide9 h1
  obtain ⟨a1, c1, rfl, hc1, hl1, r1⟩ := h1
  by_cases hl : 60 < d0.length
  · obtain ⟨b, o, rfl, g⟩ := r1.resolve_left (by intro e; subst e; simp at hl)
    have hlen : (d0.take 60).length = 60 := by simp; omega
    have H1 : Hid (IsI w (.slice (some ⟨b, o, none⟩) 60 c1) (d0.take 60)) := ⟨_, c1, by rw [hlen], by omega, by omega, .inr ⟨b, o, rfl, g.take 60⟩⟩
    have k1 : (60 : Int) < (d0.length : Int) := by omega
    have k2 : (60 : Int) ≤ (c1 : Int) := by omega
    have k3 : 60 ≤ c1 := by omega
    obtain ⟨d, ed⟩ : ∃ d, d = d0.take 60 := ⟨_, rfl⟩
    rw [← ed] at H1 hlen
    clear g r1 ed H0
    go_enter Try.func8, Try.ntmps8
    go_wp2_with fail
    refine (rising_any _ d _ H1.out).mono ?_
    rintro e w1 ⟨v3, rfl, ho, hb⟩
    have hrl := ris_len d
    have V1 := hide9 (ho.isI (by omega))
    have L1 := hide9 (H1.out.below hb)
    have B1 := hide9 hb
    clear ho hb
    go_wp2_with fail
    refine (ranks_any _ d _ L1.out).mono ?_
    rintro e w2 ⟨g, rfl, hr, hb⟩
    have V2 := hide9 (V1.out.below hb)
    have K1 : Hid (IsI w2 (.slice (some ⟨g, 0, none⟩) d.length d.length) (rkL d)) := by have := hr.isI (cap := d.length) (by rw [rkL_length]; exact Nat.le_refl _) (by rw [rkL_length]; omega); rw [rkL_length] at this; exact this
    have B2 := hide9 (B1.out.trans (hb.mono B1.out.size))
    clear hr hb V1 L1 B1
    rw [hlen] at K1
    go_wp2_with fail
    refine (rising_any _ (rkL d) _ K1.out).mono ?_
    rintro e w3 ⟨v4, rfl, ho, hb⟩
    rw [← ris_ranks d] at ho
    have V3 := hide9 (ho.isI (by omega))
    have V4 := hide9 (V2.out.below hb)
    have B3 := hide9 (B2.out.trans (hb.mono B2.out.size))
    clear ho hb V2 K1 B2
    go_wp2_with fail
    refine (sameI_any _ _ (risL d) (risL d) _ V4.out V3.out).mono ?_
    rintro e w4 ⟨rfl, hb⟩
    rw [decide_eq_true rfl]
    have B4 := hide9 (B3.out.trans (hb.mono B3.out.size))
    clear hb V3 V4 B3
    go_wp2_with fail
    refine (awake_any _).mono ?_
    rintro e w5 ⟨rfl, hb⟩
    have B5 := hide9 (B4.out.trans (hb.mono B4.out.size))
    clear hb
    go_wp2
    go_ret
    exact ⟨rfl, B5.out⟩
  · have k1 : ¬ (60 : Int) < (d0.length : Int) := by omega
    obtain ⟨d, ed⟩ : ∃ d, d = d0 := ⟨_, rfl⟩
    rw [← ed] at H0 hl1 hl hc1 k1 ⊢
    have H1 := H0
    clear r1 ed H0
    go_enter Try.func8, Try.ntmps8
    go_wp2_with fail
    refine (rising_any _ d _ H1.out).mono ?_
    rintro e w1 ⟨v3, rfl, ho, hb⟩
    have hrl := ris_len d
    have V1 := hide9 (ho.isI (by omega))
    have L1 := hide9 (H1.out.below hb)
    have B1 := hide9 hb
    clear ho hb
    go_wp2_with fail
    refine (ranks_any _ d _ L1.out).mono ?_
    rintro e w2 ⟨g, rfl, hr, hb⟩
    have V2 := hide9 (V1.out.below hb)
    have K1 : Hid (IsI w2 (.slice (some ⟨g, 0, none⟩) d.length d.length) (rkL d)) := by have := hr.isI (cap := d.length) (by rw [rkL_length]; exact Nat.le_refl _) (by rw [rkL_length]; omega); rw [rkL_length] at this; exact this
    have B2 := hide9 (B1.out.trans (hb.mono B1.out.size))
    clear hr hb V1 L1 B1
    go_wp2_with fail
    refine (rising_any _ (rkL d) _ K1.out).mono ?_
    rintro e w3 ⟨v4, rfl, ho, hb⟩
    rw [← ris_ranks d] at ho
    have V3 := hide9 (ho.isI (by omega))
    have V4 := hide9 (V2.out.below hb)
    have B3 := hide9 (B2.out.trans (hb.mono B2.out.size))
    clear ho hb V2 K1 B2
    go_wp2_with fail
    refine (sameI_any _ _ (risL d) (risL d) _ V4.out V3.out).mono ?_
    rintro e w4 ⟨rfl, hb⟩
    rw [decide_eq_true rfl]
    have B4 := hide9 (B3.out.trans (hb.mono B3.out.size))
    clear hb V3 V4 B3
    go_wp2_with fail
    refine (awake_any _).mono ?_
    rintro e w5 ⟨rfl, hb⟩
    have B5 := hide9 (B4.out.trans (hb.mono B4.out.size))
    clear hb
    go_wp2
    go_ret
    exact ⟨rfl, B5.out⟩

end Go.Proofs.Ytjnccmkhhnaaiaa
