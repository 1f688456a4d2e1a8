/- What Is does, the program's and the document's, at any lists. -/
import Derived.Test.YtjnccmkhhnaaiaaLiR
namespace Go.Proofs.Ytjnccmkhhnaaiaa
open Go.RowKit
set_option linter.unusedVariables false

/-- Is the place k of p in d, and above the one ahead, with its number? -/
def okB (d p : List Int) (k : Nat) : Bool :=
  (decide (0 ≤ atD p k) && decide (atD p k < d.length)) && (decide (k = 0) || (decide (atD p (k - 1) < atD p k) && decide (atD d (atD p (k - 1)).toNat < atD d (atD p k).toNat)))
def isB (d p : List Int) : Bool := (List.range p.length).all (okB d p)
theorem isB_yes {d p : List Int} {k : Nat} (hk : p.length ≤ k) (h : ∀ j, j < k → okB d p j = true) : isB d p = true := by
  unfold isB; rw [List.all_eq_true]; intro j hj; exact h j (by have := List.mem_range.1 hj; omega)
theorem isB_no {d p : List Int} {k : Nat} (hk : k < p.length) (h : okB d p k = false) : isB d p = false := by
  unfold isB; rw [List.all_eq_false]; exact ⟨k, List.mem_range.2 hk, by simp [h]⟩
theorem isB_at {d p : List Int} (h : isB d p = true) {k : Nat} (hk : k < p.length) : okB d p k = true := by
  unfold isB at h; rw [List.all_eq_true] at h; exact h k (List.mem_range.2 hk)
theorem okB_in {d p : List Int} {k : Nat} (h : okB d p k = true) : 0 ≤ atD p k ∧ atD p k < d.length := by
  unfold okB at h; simp only [Bool.and_eq_true, decide_eq_true_eq] at h; exact h.1
theorem okB_neg {d p : List Int} {k : Nat} (h : atD p k < 0 ∨ (d.length : Int) ≤ atD p k) : okB d p k = false := by
  unfold okB; simp; omega
theorem okB_zero {d p : List Int} (h0 : 0 ≤ atD p 0) (h1 : atD p 0 < d.length) : okB d p 0 = true := by
  unfold okB; simp [h0, h1]
theorem okB_pos {d p : List Int} {k : Nat} (h0 : 0 ≤ atD p (k + 1)) (h1 : atD p (k + 1) < d.length) : okB d p (k + 1) = (decide (atD p k < atD p (k + 1)) && decide (atD d (atD p k).toNat < atD d (atD p (k + 1)).toNat)) := by
  unfold okB; simp [h0, h1]

-- WALKS
set_option maxHeartbeats 4000000 in
/-- lis.Is. -/
theorem is_any (v1 v2 : Value) (d p : List Int) (w : World) (h1 : IsI w v1 d) (h2 : IsI w v2 p) :
    Calls Try.prog 9 #[v1, v2] w fun e w' => e = .returned (.bool (isB d p)) ∧ Below w.heap.size w w' := by
  obtain ⟨a1, c1, rfl, hc1, hl1, r1⟩ := h1
  obtain ⟨a2, c2, rfl, hc2, hl2, r2⟩ := h2
  have R1 : Hid (d = [] ∨ ∃ b o, a1 = some ⟨b, o, none⟩ ∧ IntsAt w b o d) := r1
  have R2 : Hid (p = [] ∨ ∃ b o, a2 = some ⟨b, o, none⟩ ∧ IntsAt w b o p) := r2
  clear r1 r2
  go_enter Try.func9, Try.ntmps9
  go_wp2
  go_loopw [9] (fun i wr => ∃ k : Nat, k ≤ p.length ∧ i = .int .i64 (k : Int) ∧ Hid (∀ j, j < k → okB d p j = true) ∧ Hid (Below w.heap.size w wr)) (fun i _ => p.length - (intOf i).toNat)
  case atStart => exact ⟨0, Nat.zero_le _, rfl, fun j h => absurd h (Nat.not_lt_zero _), Below.refl _ _⟩
  case round =>
    obtain ⟨k, hk, rfl, HA, HB⟩ := hrel
    by_cases hlt : k < p.length
    · obtain ⟨b2, o2, rfl, g2⟩ := R2.out.resolve_left (by intro e; subst e; simp at hlt)
      have hb2 := (g2.below HB.out).lt (by intro e; subst e; simp at hlt)
      have x2 := (g2.below HB.out) k hlt
      have k1 : (k : Int) < (p.length : Int) := by omega
      have k0 : (0 : Int) ≤ (k : Int) := by omega
      rw [atD_eq hlt] at x2
      by_cases hn : atD p k < 0
      · have HE : Hid (isB d p = false) := isB_no hlt (okB_neg (.inl hn))
        clear g2
        go_wp2
        go_ret
        exact ⟨ret_b HE.out.symm, HB.out⟩
      · by_cases hm : (d.length : Int) ≤ atD p k
        · have HE : Hid (isB d p = false) := isB_no hlt (okB_neg (.inr hm))
          clear g2
          go_wp2
          go_ret
          exact ⟨ret_b HE.out.symm, HB.out⟩
        · obtain ⟨r, er⟩ : ∃ r : Nat, atD p k = (r : Int) := ⟨(atD p k).toNat, by omega⟩
          rw [er] at x2
          have hr : r < d.length := by omega
          have hr0 : (0 : Int) ≤ (r : Int) := by omega
          have hr1 : (r : Int) < (d.length : Int) := by omega
          have hr2 : ¬ (r : Int) < 0 := by omega
          have hr3 : ¬ (d.length : Int) ≤ (r : Int) := by omega
          by_cases h0 : k = 0
          · have HM : Hid (∀ j, j < k + 1 → okB d p j = true) := fun j hj => (by
              obtain rfl : j = 0 := by omega
              subst h0
              exact okB_zero (by omega) (by omega))
            have g0 : ¬ (0 : Int) < (k : Int) := by omega
            have g1 : decide ((0 : Int) < (k : Int)) = false := decide_eq_false g0
            have g3 : decide (0 < k) = false := by simp; omega
            clear g2 h0 hn hm er
            go_upto_region 7 with fail
            clear x2
            refine wp_region_held_drew (S := fun W' => Below wr.heap.size wr W') (by kernel_rfl) (Below.refl _ _).drew (fun hHeld => ?_)
            obtain ⟨Uz1u0, eW⟩ : ∃ X, X = wr.drew := ⟨_, rfl⟩
            have hb : Below wr.heap.size wr Uz1u0 := by rw [eW]; exact (Below.refl _ _).drew
            rw [← eW] at hHeld ⊢
            clear eW hb
            refine tkW 0 (some 24) (v := ?_) ?_ hHeld ?_
            rotate_left
            · (intro ww _; go_simp; try with_reducible rfl)
            refine tkW 1 (some 25) (v := ?_) ?_ hHeld ?_
            rotate_left
            · (intro ww hSw; (try dsimp only at hSw); go_simp; try with_reducible rfl)
            refine tkW 2 (some 26) (v := ?_) ?_ hHeld ?_
            rotate_left
            · (intro ww _; go_simp; try with_reducible rfl)
            refine tkU 3 (some 27) hHeld ?_
            refine tkU 4 (some 28) hHeld ?_
            refine tkU 5 (some 29) hHeld ?_
            refine tkU 6 (some 30) hHeld ?_
            refine tkU 7 (some 31) hHeld ?_
            refine tkU 8 (some 32) hHeld ?_
            refine tkU 9 (some 33) hHeld ?_
            refine tkU 10 (some 34) hHeld ?_
            refine tkU 11 (some 35) hHeld ?_
            refine tkU 12 (some 36) hHeld ?_
            refine tkU 13 (some 37) hHeld ?_
            refine tkU 14 (some 38) hHeld ?_
            refine tkU 15 (some 39) hHeld ?_
            refine tkU 16 (some 40) hHeld ?_
            refine tkU 17 (some 41) hHeld ?_
            refine tkU 18 (some 42) hHeld ?_
            refine tkU 19 (some 43) hHeld ?_
            refine tkU 20 (some 44) hHeld ?_
            refine tkU 21 (some 45) hHeld ?_
            refine tkU 22 (some 46) hHeld ?_
            refine tkU 23 (some 47) hHeld ?_
            refine tkU 24 (some 48) hHeld ?_
            refine tkW 25 (some 49) (v := ?_) ?_ hHeld ?_
            rotate_left
            · (intro ww _; go_simp; try with_reducible rfl)
            refine wpAnyH_done (by kernel_rfl) ?_ _
            have HB := hide9 (HB.out.trans (hHeld.mono HB.out.size))
            clear hHeld
            have n1 : IntKind.i64.wrap ((k : Int) + 1) = (k : Int) + 1 := by rw [IntKind.wrap_i64]; omega
            go_wp2
            go_roundw
            case rel => exact ⟨k + 1, by omega, by go_num, HM, HB⟩
            case measure => simp [intOf]; omega
          · obtain ⟨b1, o1, rfl, g1⟩ := R1.out.resolve_left (by intro e; subst e; simp at hr)
            have hb1 := (g1.below HB.out).lt (by intro e; subst e; simp at hr)
            obtain ⟨j, ej⟩ : ∃ j, k = j + 1 := ⟨k - 1, by omega⟩
            have hj := okB_in (HA.out j (by omega))
            obtain ⟨q, eq⟩ : ∃ q : Nat, atD p j = (q : Int) := ⟨(atD p j).toNat, by omega⟩
            have hq : q < d.length := by omega
            have hq0 : (0 : Int) ≤ (q : Int) := by omega
            have hq1 : (q : Int) < (d.length : Int) := by omega
            have y2 := (g2.below HB.out) j (by omega)
            rw [atD_eq (by omega), eq] at y2
            have z1 := (g1.below HB.out) q hq
            rw [atD_eq hq] at z1
            have z2 := (g1.below HB.out) r hr
            rw [atD_eq hr] at z2
            have HO : Hid (okB d p k = (decide ((q : Int) < (r : Int)) && decide (atD d q < atD d r))) := by
              show _ = _
              subst ej
              rw [okB_pos (by omega) (by omega), er, eq]
              rfl
            have HL : Hid (b1 < wr.heap.size ∧ b2 < wr.heap.size) := ⟨hb1, hb2⟩
            have HX := hide9 x2
            have HY := hide9 y2
            have HQ := hide9 z1
            have HR := hide9 z2
            have HJ : Hid (k = j + 1 ∧ IntKind.i64.wrap ((k : Int) - 1) = (j : Int)) := ⟨ej, by rw [IntKind.wrap_i64]; omega⟩
            have hj0 : (0 : Int) ≤ (j : Int) := by omega
            have hj1 : (j : Int) < (p.length : Int) := by omega
            have g0 : (0 : Int) < (k : Int) := by omega
            have g9 : decide ((0 : Int) < (k : Int)) = true := decide_eq_true g0
            have g3 : 0 < k := by omega
            have g4 : decide (0 < k) = true := decide_eq_true g3
            clear g1 g2 h0 hn hm er eq ej hj y2 z1 z2 hb1 hb2
            go_upto_region 7 with fail
            clear x2
            obtain ⟨A, hA⟩ : ∃ A, A = atD d q := ⟨_, rfl⟩
            obtain ⟨B, hB⟩ : ∃ B, B = atD d r := ⟨_, rfl⟩
            rw [← hA] at HQ HO
            rw [← hB] at HR HO
            clear hA hB
            by_cases h5 : (r : Int) ≤ (q : Int)
            · have HE : Hid (isB d p = false) := isB_no hlt (by rw [HO.out]; simp; omega)
              have t1 : decide ((r : Int) ≤ (q : Int)) = true := decide_eq_true h5
              have t2 : r ≤ q := by omega
              have t3 : decide (r ≤ q) = true := decide_eq_true t2
              refine wp_region_held_drew (S := fun W' => Below wr.heap.size wr W') (by kernel_rfl) (Below.refl _ _).drew (fun hHeld => ?_)
              obtain ⟨Uy2u0, eW⟩ : ∃ X, X = wr.drew := ⟨_, rfl⟩
              have hb : Below wr.heap.size wr Uy2u0 := by rw [eW]; exact (Below.refl _ _).drew
              rw [← eW] at hHeld ⊢
              clear eW hb
              refine tkW 0 (some 24) (v := ?_) ?_ hHeld ?_
              rotate_left
              · (intro ww _; go_simp; try with_reducible rfl)
              refine tkW 1 (some 25) (v := ?_) ?_ hHeld ?_
              rotate_left
              · (intro ww hSw; (try dsimp only at hSw); go_simp; try with_reducible rfl)
              refine tkW 2 (some 26) (v := ?_) ?_ hHeld ?_
              rotate_left
              · (intro ww _; go_simp; try with_reducible rfl)
              refine tkW 3 (some 27) (v := ?_) ?_ hHeld ?_
              rotate_left
              · (intro ww _; go_simp; try with_reducible rfl)
              refine tkW 4 (some 28) (v := ?_) ?_ hHeld ?_
              rotate_left
              · (intro ww _; go_simp; try with_reducible rfl)
              refine tkW 5 (some 29) (v := ?_) ?_ hHeld ?_
              rotate_left
              · (intro ww hSw; (try dsimp only at hSw); have w9 := HJ.out.2; go_simp; try with_reducible rfl)
              refine tkW 6 (some 30) (v := ?_) ?_ hHeld ?_
              rotate_left
              · (intro ww hSw; (try dsimp only at hSw); go_simp; try with_reducible rfl)
              refine tkW 7 (some 31) (v := ?_) ?_ hHeld ?_
              rotate_left
              · (intro ww hSw; (try dsimp only at hSw); have c9 : ww.cell? ⟨b2, o2 + j, none⟩ = some (.int .i64 (q : Int)) := (hSw.cell (p := ⟨b2, o2 + j, none⟩) HL.out.2).trans HY.out; go_simp; try with_reducible rfl)
              refine tkW 8 (some 32) (v := ?_) ?_ hHeld ?_
              rotate_left
              · (intro ww _; go_simp; try with_reducible rfl)
              refine tkW 9 (some 33) (v := ?_) ?_ hHeld ?_
              rotate_left
              · (intro ww hSw; (try dsimp only at hSw); go_simp; try with_reducible rfl)
              refine tkW 10 (some 34) (v := ?_) ?_ hHeld ?_
              rotate_left
              · (intro ww _; go_simp; try with_reducible rfl)
              refine tkU 11 (some 35) hHeld ?_
              refine tkU 12 (some 36) hHeld ?_
              refine tkU 13 (some 37) hHeld ?_
              refine tkU 14 (some 38) hHeld ?_
              refine tkU 15 (some 39) hHeld ?_
              refine tkU 16 (some 40) hHeld ?_
              refine tkU 17 (some 41) hHeld ?_
              refine tkU 18 (some 42) hHeld ?_
              refine tkU 19 (some 43) hHeld ?_
              refine tkU 20 (some 44) hHeld ?_
              refine tkU 21 (some 45) hHeld ?_
              refine tkU 22 (some 46) hHeld ?_
              refine tkU 23 (some 47) hHeld ?_
              refine tkW 24 (some 48) (v := ?_) ?_ hHeld ?_
              rotate_left
              · (intro ww _; go_simp; try with_reducible rfl)
              refine tkW 25 (some 49) (v := ?_) ?_ hHeld ?_
              rotate_left
              · (intro ww _; go_simp; try with_reducible rfl)
              refine wpAnyH_done (by kernel_rfl) ?_ _
              have HB := hide9 (HB.out.trans (hHeld.mono HB.out.size))
              clear hHeld
              go_wp2
              go_ret
              exact ⟨ret_b HE.out.symm, HB.out⟩
            · have t1 : decide ((r : Int) ≤ (q : Int)) = false := decide_eq_false h5
              have t2 : ¬ r ≤ q := by omega
              have t3 : decide (r ≤ q) = false := decide_eq_false t2
              by_cases h6 : B ≤ A
              · have HE : Hid (isB d p = false) := isB_no hlt (by rw [HO.out]; simp; omega)
                refine wp_region_held_drew (S := fun W' => Below wr.heap.size wr W') (by kernel_rfl) (Below.refl _ _).drew (fun hHeld => ?_)
                obtain ⟨Un3u0, eW⟩ : ∃ X, X = wr.drew := ⟨_, rfl⟩
                have hb : Below wr.heap.size wr Un3u0 := by rw [eW]; exact (Below.refl _ _).drew
                rw [← eW] at hHeld ⊢
                clear eW hb
                refine tkW 0 (some 24) (v := ?_) ?_ hHeld ?_
                rotate_left
                · (intro ww _; go_simp; try with_reducible rfl)
                refine tkW 1 (some 25) (v := ?_) ?_ hHeld ?_
                rotate_left
                · (intro ww hSw; (try dsimp only at hSw); go_simp; try with_reducible rfl)
                refine tkW 2 (some 26) (v := ?_) ?_ hHeld ?_
                rotate_left
                · (intro ww _; go_simp; try with_reducible rfl)
                refine tkW 3 (some 27) (v := ?_) ?_ hHeld ?_
                rotate_left
                · (intro ww _; go_simp; try with_reducible rfl)
                refine tkW 4 (some 28) (v := ?_) ?_ hHeld ?_
                rotate_left
                · (intro ww _; go_simp; try with_reducible rfl)
                refine tkW 5 (some 29) (v := ?_) ?_ hHeld ?_
                rotate_left
                · (intro ww hSw; (try dsimp only at hSw); have w9 := HJ.out.2; go_simp; try with_reducible rfl)
                refine tkW 6 (some 30) (v := ?_) ?_ hHeld ?_
                rotate_left
                · (intro ww hSw; (try dsimp only at hSw); go_simp; try with_reducible rfl)
                refine tkW 7 (some 31) (v := ?_) ?_ hHeld ?_
                rotate_left
                · (intro ww hSw; (try dsimp only at hSw); have c9 : ww.cell? ⟨b2, o2 + j, none⟩ = some (.int .i64 (q : Int)) := (hSw.cell (p := ⟨b2, o2 + j, none⟩) HL.out.2).trans HY.out; go_simp; try with_reducible rfl)
                refine tkW 8 (some 32) (v := ?_) ?_ hHeld ?_
                rotate_left
                · (intro ww _; go_simp; try with_reducible rfl)
                refine tkW 9 (some 33) (v := ?_) ?_ hHeld ?_
                rotate_left
                · (intro ww hSw; (try dsimp only at hSw); go_simp; try with_reducible rfl)
                refine tkW 10 (some 34) (v := ?_) ?_ hHeld ?_
                rotate_left
                · (intro ww _; go_simp; try with_reducible rfl)
                refine tkW 11 (some 35) (v := ?_) ?_ hHeld ?_
                rotate_left
                · (intro ww _; go_simp; try with_reducible rfl)
                refine tkW 12 (some 36) (v := ?_) ?_ hHeld ?_
                rotate_left
                · (intro ww _; go_simp; try with_reducible rfl)
                refine tkW 13 (some 37) (v := ?_) ?_ hHeld ?_
                rotate_left
                · (intro ww _; go_simp; try with_reducible rfl)
                refine tkW 14 (some 38) (v := ?_) ?_ hHeld ?_
                rotate_left
                · (intro ww hSw; (try dsimp only at hSw); have w9 := HJ.out.2; go_simp; try with_reducible rfl)
                refine tkW 15 (some 39) (v := ?_) ?_ hHeld ?_
                rotate_left
                · (intro ww hSw; (try dsimp only at hSw); go_simp; try with_reducible rfl)
                refine tkW 16 (some 40) (v := ?_) ?_ hHeld ?_
                rotate_left
                · (intro ww hSw; (try dsimp only at hSw); have c9 : ww.cell? ⟨b2, o2 + j, none⟩ = some (.int .i64 (q : Int)) := (hSw.cell (p := ⟨b2, o2 + j, none⟩) HL.out.2).trans HY.out; go_simp; try with_reducible rfl)
                refine tkW 17 (some 41) (v := ?_) ?_ hHeld ?_
                rotate_left
                · (intro ww hSw; (try dsimp only at hSw); go_simp; try with_reducible rfl)
                refine tkW 18 (some 42) (v := ?_) ?_ hHeld ?_
                rotate_left
                · (intro ww hSw; (try dsimp only at hSw); have c9 : ww.cell? ⟨b1, o1 + q, none⟩ = some (.int .i64 A) := (hSw.cell (p := ⟨b1, o1 + q, none⟩) HL.out.1).trans HQ.out; go_simp; try with_reducible rfl)
                refine tkW 19 (some 43) (v := ?_) ?_ hHeld ?_
                rotate_left
                · (intro ww _; go_simp; try with_reducible rfl)
                refine tkW 20 (some 44) (v := ?_) ?_ hHeld ?_
                rotate_left
                · (intro ww _; go_simp; try with_reducible rfl)
                refine tkW 21 (some 45) (v := ?_) ?_ hHeld ?_
                rotate_left
                · (intro ww hSw; (try dsimp only at hSw); go_simp; try with_reducible rfl)
                refine tkW 22 (some 46) (v := ?_) ?_ hHeld ?_
                rotate_left
                · (intro ww hSw; (try dsimp only at hSw); have c9 : ww.cell? ⟨b1, o1 + r, none⟩ = some (.int .i64 B) := (hSw.cell (p := ⟨b1, o1 + r, none⟩) HL.out.1).trans HR.out; go_simp; try with_reducible rfl)
                refine tkW 23 (some 47) (v := ?_) ?_ hHeld ?_
                rotate_left
                · (intro ww hSw; (try dsimp only at hSw); go_simp; try with_reducible rfl)
                refine tkW 24 (some 48) (v := ?_) ?_ hHeld ?_
                rotate_left
                · (intro ww _; go_simp; try with_reducible rfl)
                refine tkW 25 (some 49) (v := ?_) ?_ hHeld ?_
                rotate_left
                · (intro ww _; go_simp; try with_reducible rfl)
                refine wpAnyH_done (by kernel_rfl) ?_ _
                have HB := hide9 (HB.out.trans (hHeld.mono HB.out.size))
                clear hHeld
                go_wp2
                go_ret
                exact ⟨ret_b HE.out.symm, HB.out⟩
              · have HM : Hid (∀ j, j < k + 1 → okB d p j = true) := fun i hi => (by
                  rcases Nat.lt_or_ge i k with h | h
                  · exact HA.out i h
                  · obtain rfl : i = k := by omega
                    rw [HO.out]; simp; omega)
                refine wp_region_held_drew (S := fun W' => Below wr.heap.size wr W') (by kernel_rfl) (Below.refl _ _).drew (fun hHeld => ?_)
                obtain ⟨Uo4u0, eW⟩ : ∃ X, X = wr.drew := ⟨_, rfl⟩
                have hb : Below wr.heap.size wr Uo4u0 := by rw [eW]; exact (Below.refl _ _).drew
                rw [← eW] at hHeld ⊢
                clear eW hb
                refine tkW 0 (some 24) (v := ?_) ?_ hHeld ?_
                rotate_left
                · (intro ww _; go_simp; try with_reducible rfl)
                refine tkW 1 (some 25) (v := ?_) ?_ hHeld ?_
                rotate_left
                · (intro ww hSw; (try dsimp only at hSw); go_simp; try with_reducible rfl)
                refine tkW 2 (some 26) (v := ?_) ?_ hHeld ?_
                rotate_left
                · (intro ww _; go_simp; try with_reducible rfl)
                refine tkW 3 (some 27) (v := ?_) ?_ hHeld ?_
                rotate_left
                · (intro ww _; go_simp; try with_reducible rfl)
                refine tkW 4 (some 28) (v := ?_) ?_ hHeld ?_
                rotate_left
                · (intro ww _; go_simp; try with_reducible rfl)
                refine tkW 5 (some 29) (v := ?_) ?_ hHeld ?_
                rotate_left
                · (intro ww hSw; (try dsimp only at hSw); have w9 := HJ.out.2; go_simp; try with_reducible rfl)
                refine tkW 6 (some 30) (v := ?_) ?_ hHeld ?_
                rotate_left
                · (intro ww hSw; (try dsimp only at hSw); go_simp; try with_reducible rfl)
                refine tkW 7 (some 31) (v := ?_) ?_ hHeld ?_
                rotate_left
                · (intro ww hSw; (try dsimp only at hSw); have c9 : ww.cell? ⟨b2, o2 + j, none⟩ = some (.int .i64 (q : Int)) := (hSw.cell (p := ⟨b2, o2 + j, none⟩) HL.out.2).trans HY.out; go_simp; try with_reducible rfl)
                refine tkW 8 (some 32) (v := ?_) ?_ hHeld ?_
                rotate_left
                · (intro ww _; go_simp; try with_reducible rfl)
                refine tkW 9 (some 33) (v := ?_) ?_ hHeld ?_
                rotate_left
                · (intro ww hSw; (try dsimp only at hSw); go_simp; try with_reducible rfl)
                refine tkW 10 (some 34) (v := ?_) ?_ hHeld ?_
                rotate_left
                · (intro ww _; go_simp; try with_reducible rfl)
                refine tkW 11 (some 35) (v := ?_) ?_ hHeld ?_
                rotate_left
                · (intro ww _; go_simp; try with_reducible rfl)
                refine tkW 12 (some 36) (v := ?_) ?_ hHeld ?_
                rotate_left
                · (intro ww _; go_simp; try with_reducible rfl)
                refine tkW 13 (some 37) (v := ?_) ?_ hHeld ?_
                rotate_left
                · (intro ww _; go_simp; try with_reducible rfl)
                refine tkW 14 (some 38) (v := ?_) ?_ hHeld ?_
                rotate_left
                · (intro ww hSw; (try dsimp only at hSw); have w9 := HJ.out.2; go_simp; try with_reducible rfl)
                refine tkW 15 (some 39) (v := ?_) ?_ hHeld ?_
                rotate_left
                · (intro ww hSw; (try dsimp only at hSw); go_simp; try with_reducible rfl)
                refine tkW 16 (some 40) (v := ?_) ?_ hHeld ?_
                rotate_left
                · (intro ww hSw; (try dsimp only at hSw); have c9 : ww.cell? ⟨b2, o2 + j, none⟩ = some (.int .i64 (q : Int)) := (hSw.cell (p := ⟨b2, o2 + j, none⟩) HL.out.2).trans HY.out; go_simp; try with_reducible rfl)
                refine tkW 17 (some 41) (v := ?_) ?_ hHeld ?_
                rotate_left
                · (intro ww hSw; (try dsimp only at hSw); go_simp; try with_reducible rfl)
                refine tkW 18 (some 42) (v := ?_) ?_ hHeld ?_
                rotate_left
                · (intro ww hSw; (try dsimp only at hSw); have c9 : ww.cell? ⟨b1, o1 + q, none⟩ = some (.int .i64 A) := (hSw.cell (p := ⟨b1, o1 + q, none⟩) HL.out.1).trans HQ.out; go_simp; try with_reducible rfl)
                refine tkW 19 (some 43) (v := ?_) ?_ hHeld ?_
                rotate_left
                · (intro ww _; go_simp; try with_reducible rfl)
                refine tkW 20 (some 44) (v := ?_) ?_ hHeld ?_
                rotate_left
                · (intro ww _; go_simp; try with_reducible rfl)
                refine tkW 21 (some 45) (v := ?_) ?_ hHeld ?_
                rotate_left
                · (intro ww hSw; (try dsimp only at hSw); go_simp; try with_reducible rfl)
                refine tkW 22 (some 46) (v := ?_) ?_ hHeld ?_
                rotate_left
                · (intro ww hSw; (try dsimp only at hSw); have c9 : ww.cell? ⟨b1, o1 + r, none⟩ = some (.int .i64 B) := (hSw.cell (p := ⟨b1, o1 + r, none⟩) HL.out.1).trans HR.out; go_simp; try with_reducible rfl)
                refine tkW 23 (some 47) (v := ?_) ?_ hHeld ?_
                rotate_left
                · (intro ww hSw; (try dsimp only at hSw); go_simp; try with_reducible rfl)
                refine tkW 24 (some 48) (v := ?_) ?_ hHeld ?_
                rotate_left
                · (intro ww _; go_simp; try with_reducible rfl)
                refine tkW 25 (some 49) (v := ?_) ?_ hHeld ?_
                rotate_left
                · (intro ww _; go_simp; try with_reducible rfl)
                refine wpAnyH_done (by kernel_rfl) ?_ _
                have HB := hide9 (HB.out.trans (hHeld.mono HB.out.size))
                clear hHeld
                have n1 : IntKind.i64.wrap ((k : Int) + 1) = (k : Int) + 1 := by rw [IntKind.wrap_i64]; omega
                go_wp2
                go_roundw
                case rel => exact ⟨k + 1, by omega, by go_num, HM, HB⟩
                case measure => simp [intOf]; omega
    · have HE : Hid (isB d p = true) := isB_yes (by omega) HA.out
      have k9 : ¬ (k : Int) < (p.length : Int) := by omega
      go_wp2
      go_ret
      exact ⟨ret_b HE.out.symm, HB.out⟩

set_option maxHeartbeats 4000000 in
/-- The document's Is. -/
theorem refIs_any (v1 v2 : Value) (d p : List Int) (w : World) (h1 : IsI w v1 d) (h2 : IsI w v2 p) :
    Calls Try.prog 10 #[v1, v2] w fun e w' => e = .returned (.bool (isB d p)) ∧ Below w.heap.size w w' := by
  obtain ⟨a1, c1, rfl, hc1, hl1, r1⟩ := h1
  obtain ⟨a2, c2, rfl, hc2, hl2, r2⟩ := h2
  have R1 : Hid (d = [] ∨ ∃ b o, a1 = some ⟨b, o, none⟩ ∧ IntsAt w b o d) := r1
  have R2 : Hid (p = [] ∨ ∃ b o, a2 = some ⟨b, o, none⟩ ∧ IntsAt w b o p) := r2
  clear r1 r2
  go_enter Try.func10, Try.ntmps10
  go_wp2
  go_loopw [5] (fun i wr => ∃ k : Nat, k ≤ p.length ∧ i = .int .i64 (k : Int) ∧ Hid (∀ j, j < k → okB d p j = true) ∧ Hid (Below w.heap.size w wr)) (fun i _ => p.length - (intOf i).toNat)
  case atStart => exact ⟨0, Nat.zero_le _, rfl, fun j h => absurd h (Nat.not_lt_zero _), Below.refl _ _⟩
  case round =>
    obtain ⟨k, hk, rfl, HA, HB⟩ := hrel
    by_cases hlt : k < p.length
    · obtain ⟨b2, o2, rfl, g2⟩ := R2.out.resolve_left (by intro e; subst e; simp at hlt)
      have hb2 := (g2.below HB.out).lt (by intro e; subst e; simp at hlt)
      have x2 := (g2.below HB.out) k hlt
      have k1 : (k : Int) < (p.length : Int) := by omega
      have k0 : (0 : Int) ≤ (k : Int) := by omega
      rw [atD_eq hlt] at x2
      by_cases hn : atD p k < 0
      · have HE : Hid (isB d p = false) := isB_no hlt (okB_neg (.inl hn))
        clear g2
        go_wp2
        go_ret
        exact ⟨ret_b HE.out.symm, HB.out⟩
      · by_cases hm : (d.length : Int) ≤ atD p k
        · have HE : Hid (isB d p = false) := isB_no hlt (okB_neg (.inr hm))
          clear g2
          go_wp2
          go_ret
          exact ⟨ret_b HE.out.symm, HB.out⟩
        · obtain ⟨r, er⟩ : ∃ r : Nat, atD p k = (r : Int) := ⟨(atD p k).toNat, by omega⟩
          rw [er] at x2
          have hr : r < d.length := by omega
          have hr0 : (0 : Int) ≤ (r : Int) := by omega
          have hr1 : (r : Int) < (d.length : Int) := by omega
          have hr2 : ¬ (r : Int) < 0 := by omega
          have hr3 : ¬ (d.length : Int) ≤ (r : Int) := by omega
          by_cases h0 : k = 0
          · have HM : Hid (∀ j, j < k + 1 → okB d p j = true) := fun j hj => (by
              obtain rfl : j = 0 := by omega
              subst h0
              exact okB_zero (by omega) (by omega))
            have g0 : ¬ (0 : Int) < (k : Int) := by omega
            have g1 : decide ((0 : Int) < (k : Int)) = false := decide_eq_false g0
            have g3 : decide (0 < k) = false := by simp; omega
            clear g2 h0 hn hm er
            go_upto_region 6 with fail
            clear x2
            refine wp_region_held_drew (S := fun W' => Below wr.heap.size wr W') (by kernel_rfl) (Below.refl _ _).drew (fun hHeld => ?_)
            obtain ⟨Uz5u0, eW⟩ : ∃ X, X = wr.drew := ⟨_, rfl⟩
            have hb : Below wr.heap.size wr Uz5u0 := by rw [eW]; exact (Below.refl _ _).drew
            rw [← eW] at hHeld ⊢
            clear eW hb
            refine tkW 0 (some 26) (v := ?_) ?_ hHeld ?_
            rotate_left
            · (intro ww _; go_simp; try with_reducible rfl)
            refine tkW 1 (some 27) (v := ?_) ?_ hHeld ?_
            rotate_left
            · (intro ww hSw; (try dsimp only at hSw); go_simp; try with_reducible rfl)
            refine tkW 2 (some 28) (v := ?_) ?_ hHeld ?_
            rotate_left
            · (intro ww _; go_simp; try with_reducible rfl)
            refine tkU 3 (some 29) hHeld ?_
            refine tkU 4 (some 30) hHeld ?_
            refine tkU 5 (some 31) hHeld ?_
            refine tkU 6 (some 32) hHeld ?_
            refine tkU 7 (some 33) hHeld ?_
            refine tkU 8 (some 34) hHeld ?_
            refine tkU 9 (some 35) hHeld ?_
            refine tkU 10 (some 36) hHeld ?_
            refine tkU 11 (some 37) hHeld ?_
            refine tkU 12 (some 38) hHeld ?_
            refine tkU 13 (some 39) hHeld ?_
            refine tkU 14 (some 40) hHeld ?_
            refine tkU 15 (some 41) hHeld ?_
            refine tkU 16 (some 42) hHeld ?_
            refine tkU 17 (some 43) hHeld ?_
            refine tkU 18 (some 44) hHeld ?_
            refine tkU 19 (some 45) hHeld ?_
            refine tkU 20 (some 46) hHeld ?_
            refine tkU 21 (some 47) hHeld ?_
            refine tkU 22 (some 48) hHeld ?_
            refine tkU 23 (some 49) hHeld ?_
            refine tkU 24 (some 50) hHeld ?_
            refine tkU 25 (some 51) hHeld ?_
            refine tkU 26 (some 52) hHeld ?_
            refine tkU 27 (some 53) hHeld ?_
            refine tkU 28 (some 54) hHeld ?_
            refine tkU 29 (some 55) hHeld ?_
            refine tkU 30 (some 56) hHeld ?_
            refine tkW 31 (some 57) (v := ?_) ?_ hHeld ?_
            rotate_left
            · (intro ww _; go_simp; try with_reducible rfl)
            refine wpAnyH_done (by kernel_rfl) ?_ _
            have HB := hide9 (HB.out.trans (hHeld.mono HB.out.size))
            clear hHeld
            have n1 : IntKind.i64.wrap ((k : Int) + 1) = (k : Int) + 1 := by rw [IntKind.wrap_i64]; omega
            go_wp2
            go_roundw
            case rel => exact ⟨k + 1, by omega, by go_num, HM, HB⟩
            case measure => simp [intOf]; omega
          · obtain ⟨b1, o1, rfl, g1⟩ := R1.out.resolve_left (by intro e; subst e; simp at hr)
            have hb1 := (g1.below HB.out).lt (by intro e; subst e; simp at hr)
            obtain ⟨j, ej⟩ : ∃ j, k = j + 1 := ⟨k - 1, by omega⟩
            have hj := okB_in (HA.out j (by omega))
            obtain ⟨q, eq⟩ : ∃ q : Nat, atD p j = (q : Int) := ⟨(atD p j).toNat, by omega⟩
            have hq : q < d.length := by omega
            have hq0 : (0 : Int) ≤ (q : Int) := by omega
            have hq1 : (q : Int) < (d.length : Int) := by omega
            have y2 := (g2.below HB.out) j (by omega)
            rw [atD_eq (by omega), eq] at y2
            have z1 := (g1.below HB.out) q hq
            rw [atD_eq hq] at z1
            have z2 := (g1.below HB.out) r hr
            rw [atD_eq hr] at z2
            have HO : Hid (okB d p k = (decide ((q : Int) < (r : Int)) && decide (atD d q < atD d r))) := by
              show _ = _
              subst ej
              rw [okB_pos (by omega) (by omega), er, eq]
              rfl
            have HL : Hid (b1 < wr.heap.size ∧ b2 < wr.heap.size) := ⟨hb1, hb2⟩
            have HX := hide9 x2
            have HY := hide9 y2
            have HQ := hide9 z1
            have HR := hide9 z2
            have HJ : Hid (k = j + 1 ∧ IntKind.i64.wrap ((k : Int) - 1) = (j : Int)) := ⟨ej, by rw [IntKind.wrap_i64]; omega⟩
            have hj0 : (0 : Int) ≤ (j : Int) := by omega
            have hj1 : (j : Int) < (p.length : Int) := by omega
            have g0 : (0 : Int) < (k : Int) := by omega
            have g9 : decide ((0 : Int) < (k : Int)) = true := decide_eq_true g0
            have g3 : 0 < k := by omega
            have g4 : decide (0 < k) = true := decide_eq_true g3
            clear g1 g2 h0 hn hm er eq ej hj y2 z1 z2 hb1 hb2
            go_upto_region 6 with fail
            clear x2
            obtain ⟨A, hA⟩ : ∃ A, A = atD d q := ⟨_, rfl⟩
            obtain ⟨B, hB⟩ : ∃ B, B = atD d r := ⟨_, rfl⟩
            rw [← hA] at HQ HO
            rw [← hB] at HR HO
            clear hA hB
            by_cases h5 : (r : Int) ≤ (q : Int)
            · have HE : Hid (isB d p = false) := isB_no hlt (by rw [HO.out]; simp; omega)
              have t1 : decide ((r : Int) ≤ (q : Int)) = true := decide_eq_true h5
              have t2 : r ≤ q := by omega
              have t3 : decide (r ≤ q) = true := decide_eq_true t2
              refine wp_region_held_drew (S := fun W' => Below wr.heap.size wr W') (by kernel_rfl) (Below.refl _ _).drew (fun hHeld => ?_)
              obtain ⟨Uy6u0, eW⟩ : ∃ X, X = wr.drew := ⟨_, rfl⟩
              have hb : Below wr.heap.size wr Uy6u0 := by rw [eW]; exact (Below.refl _ _).drew
              rw [← eW] at hHeld ⊢
              clear eW hb
              refine tkW 0 (some 26) (v := ?_) ?_ hHeld ?_
              rotate_left
              · (intro ww _; go_simp; try with_reducible rfl)
              refine tkW 1 (some 27) (v := ?_) ?_ hHeld ?_
              rotate_left
              · (intro ww hSw; (try dsimp only at hSw); go_simp; try with_reducible rfl)
              refine tkW 2 (some 28) (v := ?_) ?_ hHeld ?_
              rotate_left
              · (intro ww _; go_simp; try with_reducible rfl)
              refine tkW 3 (some 29) (v := ?_) ?_ hHeld ?_
              rotate_left
              · (intro ww _; go_simp; try with_reducible rfl)
              refine tkW 4 (some 30) (v := ?_) ?_ hHeld ?_
              rotate_left
              · (intro ww _; go_simp; try with_reducible rfl)
              refine tkW 5 (some 31) (v := ?_) ?_ hHeld ?_
              rotate_left
              · (intro ww hSw; (try dsimp only at hSw); have w9 := HJ.out.2; go_simp; try with_reducible rfl)
              refine tkW 6 (some 32) (v := ?_) ?_ hHeld ?_
              rotate_left
              · (intro ww hSw; (try dsimp only at hSw); go_simp; try with_reducible rfl)
              refine tkW 7 (some 33) (v := ?_) ?_ hHeld ?_
              rotate_left
              · (intro ww hSw; (try dsimp only at hSw); have c9 : ww.cell? ⟨b2, o2 + j, none⟩ = some (.int .i64 (q : Int)) := (hSw.cell (p := ⟨b2, o2 + j, none⟩) HL.out.2).trans HY.out; go_simp; try with_reducible rfl)
              refine tkW 8 (some 34) (v := ?_) ?_ hHeld ?_
              rotate_left
              · (intro ww _; go_simp; try with_reducible rfl)
              refine tkW 9 (some 35) (v := ?_) ?_ hHeld ?_
              rotate_left
              · (intro ww _; go_simp; try with_reducible rfl)
              refine tkW 10 (some 36) (v := ?_) ?_ hHeld ?_
              rotate_left
              · (intro ww hSw; (try dsimp only at hSw); go_simp; try with_reducible rfl)
              refine tkW 11 (some 37) (v := ?_) ?_ hHeld ?_
              rotate_left
              · (intro ww hSw; (try dsimp only at hSw); have c9 : ww.cell? ⟨b2, o2 + k, none⟩ = some (.int .i64 (r : Int)) := (hSw.cell (p := ⟨b2, o2 + k, none⟩) HL.out.2).trans HX.out; go_simp; try with_reducible rfl)
              refine tkW 12 (some 38) (v := ?_) ?_ hHeld ?_
              rotate_left
              · (intro ww hSw; (try dsimp only at hSw); go_simp; try with_reducible rfl)
              refine tkW 13 (some 39) (v := ?_) ?_ hHeld ?_
              rotate_left
              · (intro ww _; go_simp; try with_reducible rfl)
              refine tkU 14 (some 40) hHeld ?_
              refine tkU 15 (some 41) hHeld ?_
              refine tkU 16 (some 42) hHeld ?_
              refine tkU 17 (some 43) hHeld ?_
              refine tkU 18 (some 44) hHeld ?_
              refine tkU 19 (some 45) hHeld ?_
              refine tkU 20 (some 46) hHeld ?_
              refine tkU 21 (some 47) hHeld ?_
              refine tkU 22 (some 48) hHeld ?_
              refine tkU 23 (some 49) hHeld ?_
              refine tkU 24 (some 50) hHeld ?_
              refine tkU 25 (some 51) hHeld ?_
              refine tkU 26 (some 52) hHeld ?_
              refine tkU 27 (some 53) hHeld ?_
              refine tkU 28 (some 54) hHeld ?_
              refine tkU 29 (some 55) hHeld ?_
              refine tkW 30 (some 56) (v := ?_) ?_ hHeld ?_
              rotate_left
              · (intro ww _; go_simp; try with_reducible rfl)
              refine tkW 31 (some 57) (v := ?_) ?_ hHeld ?_
              rotate_left
              · (intro ww _; go_simp; try with_reducible rfl)
              refine wpAnyH_done (by kernel_rfl) ?_ _
              have HB := hide9 (HB.out.trans (hHeld.mono HB.out.size))
              clear hHeld
              go_wp2
              go_ret
              exact ⟨ret_b HE.out.symm, HB.out⟩
            · have t1 : decide ((r : Int) ≤ (q : Int)) = false := decide_eq_false h5
              have t2 : ¬ r ≤ q := by omega
              have t3 : decide (r ≤ q) = false := decide_eq_false t2
              by_cases h6 : B ≤ A
              · have HE : Hid (isB d p = false) := isB_no hlt (by rw [HO.out]; simp; omega)
                refine wp_region_held_drew (S := fun W' => Below wr.heap.size wr W') (by kernel_rfl) (Below.refl _ _).drew (fun hHeld => ?_)
                obtain ⟨Un7u0, eW⟩ : ∃ X, X = wr.drew := ⟨_, rfl⟩
                have hb : Below wr.heap.size wr Un7u0 := by rw [eW]; exact (Below.refl _ _).drew
                rw [← eW] at hHeld ⊢
                clear eW hb
                refine tkW 0 (some 26) (v := ?_) ?_ hHeld ?_
                rotate_left
                · (intro ww _; go_simp; try with_reducible rfl)
                refine tkW 1 (some 27) (v := ?_) ?_ hHeld ?_
                rotate_left
                · (intro ww hSw; (try dsimp only at hSw); go_simp; try with_reducible rfl)
                refine tkW 2 (some 28) (v := ?_) ?_ hHeld ?_
                rotate_left
                · (intro ww _; go_simp; try with_reducible rfl)
                refine tkW 3 (some 29) (v := ?_) ?_ hHeld ?_
                rotate_left
                · (intro ww _; go_simp; try with_reducible rfl)
                refine tkW 4 (some 30) (v := ?_) ?_ hHeld ?_
                rotate_left
                · (intro ww _; go_simp; try with_reducible rfl)
                refine tkW 5 (some 31) (v := ?_) ?_ hHeld ?_
                rotate_left
                · (intro ww hSw; (try dsimp only at hSw); have w9 := HJ.out.2; go_simp; try with_reducible rfl)
                refine tkW 6 (some 32) (v := ?_) ?_ hHeld ?_
                rotate_left
                · (intro ww hSw; (try dsimp only at hSw); go_simp; try with_reducible rfl)
                refine tkW 7 (some 33) (v := ?_) ?_ hHeld ?_
                rotate_left
                · (intro ww hSw; (try dsimp only at hSw); have c9 : ww.cell? ⟨b2, o2 + j, none⟩ = some (.int .i64 (q : Int)) := (hSw.cell (p := ⟨b2, o2 + j, none⟩) HL.out.2).trans HY.out; go_simp; try with_reducible rfl)
                refine tkW 8 (some 34) (v := ?_) ?_ hHeld ?_
                rotate_left
                · (intro ww _; go_simp; try with_reducible rfl)
                refine tkW 9 (some 35) (v := ?_) ?_ hHeld ?_
                rotate_left
                · (intro ww _; go_simp; try with_reducible rfl)
                refine tkW 10 (some 36) (v := ?_) ?_ hHeld ?_
                rotate_left
                · (intro ww hSw; (try dsimp only at hSw); go_simp; try with_reducible rfl)
                refine tkW 11 (some 37) (v := ?_) ?_ hHeld ?_
                rotate_left
                · (intro ww hSw; (try dsimp only at hSw); have c9 : ww.cell? ⟨b2, o2 + k, none⟩ = some (.int .i64 (r : Int)) := (hSw.cell (p := ⟨b2, o2 + k, none⟩) HL.out.2).trans HX.out; go_simp; try with_reducible rfl)
                refine tkW 12 (some 38) (v := ?_) ?_ hHeld ?_
                rotate_left
                · (intro ww hSw; (try dsimp only at hSw); go_simp; try with_reducible rfl)
                refine tkW 13 (some 39) (v := ?_) ?_ hHeld ?_
                rotate_left
                · (intro ww _; go_simp; try with_reducible rfl)
                refine tkW 14 (some 40) (v := ?_) ?_ hHeld ?_
                rotate_left
                · (intro ww _; go_simp; try with_reducible rfl)
                refine tkW 15 (some 41) (v := ?_) ?_ hHeld ?_
                rotate_left
                · (intro ww _; go_simp; try with_reducible rfl)
                refine tkW 16 (some 42) (v := ?_) ?_ hHeld ?_
                rotate_left
                · (intro ww _; go_simp; try with_reducible rfl)
                refine tkW 17 (some 43) (v := ?_) ?_ hHeld ?_
                rotate_left
                · (intro ww hSw; (try dsimp only at hSw); have w9 := HJ.out.2; go_simp; try with_reducible rfl)
                refine tkW 18 (some 44) (v := ?_) ?_ hHeld ?_
                rotate_left
                · (intro ww hSw; (try dsimp only at hSw); go_simp; try with_reducible rfl)
                refine tkW 19 (some 45) (v := ?_) ?_ hHeld ?_
                rotate_left
                · (intro ww hSw; (try dsimp only at hSw); have c9 : ww.cell? ⟨b2, o2 + j, none⟩ = some (.int .i64 (q : Int)) := (hSw.cell (p := ⟨b2, o2 + j, none⟩) HL.out.2).trans HY.out; go_simp; try with_reducible rfl)
                refine tkW 20 (some 46) (v := ?_) ?_ hHeld ?_
                rotate_left
                · (intro ww hSw; (try dsimp only at hSw); go_simp; try with_reducible rfl)
                refine tkW 21 (some 47) (v := ?_) ?_ hHeld ?_
                rotate_left
                · (intro ww hSw; (try dsimp only at hSw); have c9 : ww.cell? ⟨b1, o1 + q, none⟩ = some (.int .i64 A) := (hSw.cell (p := ⟨b1, o1 + q, none⟩) HL.out.1).trans HQ.out; go_simp; try with_reducible rfl)
                refine tkW 22 (some 48) (v := ?_) ?_ hHeld ?_
                rotate_left
                · (intro ww _; go_simp; try with_reducible rfl)
                refine tkW 23 (some 49) (v := ?_) ?_ hHeld ?_
                rotate_left
                · (intro ww _; go_simp; try with_reducible rfl)
                refine tkW 24 (some 50) (v := ?_) ?_ hHeld ?_
                rotate_left
                · (intro ww _; go_simp; try with_reducible rfl)
                refine tkW 25 (some 51) (v := ?_) ?_ hHeld ?_
                rotate_left
                · (intro ww hSw; (try dsimp only at hSw); go_simp; try with_reducible rfl)
                refine tkW 26 (some 52) (v := ?_) ?_ hHeld ?_
                rotate_left
                · (intro ww hSw; (try dsimp only at hSw); have c9 : ww.cell? ⟨b2, o2 + k, none⟩ = some (.int .i64 (r : Int)) := (hSw.cell (p := ⟨b2, o2 + k, none⟩) HL.out.2).trans HX.out; go_simp; try with_reducible rfl)
                refine tkW 27 (some 53) (v := ?_) ?_ hHeld ?_
                rotate_left
                · (intro ww hSw; (try dsimp only at hSw); go_simp; try with_reducible rfl)
                refine tkW 28 (some 54) (v := ?_) ?_ hHeld ?_
                rotate_left
                · (intro ww hSw; (try dsimp only at hSw); have c9 : ww.cell? ⟨b1, o1 + r, none⟩ = some (.int .i64 B) := (hSw.cell (p := ⟨b1, o1 + r, none⟩) HL.out.1).trans HR.out; go_simp; try with_reducible rfl)
                refine tkW 29 (some 55) (v := ?_) ?_ hHeld ?_
                rotate_left
                · (intro ww hSw; (try dsimp only at hSw); go_simp; try with_reducible rfl)
                refine tkW 30 (some 56) (v := ?_) ?_ hHeld ?_
                rotate_left
                · (intro ww _; go_simp; try with_reducible rfl)
                refine tkW 31 (some 57) (v := ?_) ?_ hHeld ?_
                rotate_left
                · (intro ww _; go_simp; try with_reducible rfl)
                refine wpAnyH_done (by kernel_rfl) ?_ _
                have HB := hide9 (HB.out.trans (hHeld.mono HB.out.size))
                clear hHeld
                go_wp2
                go_ret
                exact ⟨ret_b HE.out.symm, HB.out⟩
              · have HM : Hid (∀ j, j < k + 1 → okB d p j = true) := fun i hi => (by
                  rcases Nat.lt_or_ge i k with h | h
                  · exact HA.out i h
                  · obtain rfl : i = k := by omega
                    rw [HO.out]; simp; omega)
                refine wp_region_held_drew (S := fun W' => Below wr.heap.size wr W') (by kernel_rfl) (Below.refl _ _).drew (fun hHeld => ?_)
                obtain ⟨Uo8u0, eW⟩ : ∃ X, X = wr.drew := ⟨_, rfl⟩
                have hb : Below wr.heap.size wr Uo8u0 := by rw [eW]; exact (Below.refl _ _).drew
                rw [← eW] at hHeld ⊢
                clear eW hb
                refine tkW 0 (some 26) (v := ?_) ?_ hHeld ?_
                rotate_left
                · (intro ww _; go_simp; try with_reducible rfl)
                refine tkW 1 (some 27) (v := ?_) ?_ hHeld ?_
                rotate_left
                · (intro ww hSw; (try dsimp only at hSw); go_simp; try with_reducible rfl)
                refine tkW 2 (some 28) (v := ?_) ?_ hHeld ?_
                rotate_left
                · (intro ww _; go_simp; try with_reducible rfl)
                refine tkW 3 (some 29) (v := ?_) ?_ hHeld ?_
                rotate_left
                · (intro ww _; go_simp; try with_reducible rfl)
                refine tkW 4 (some 30) (v := ?_) ?_ hHeld ?_
                rotate_left
                · (intro ww _; go_simp; try with_reducible rfl)
                refine tkW 5 (some 31) (v := ?_) ?_ hHeld ?_
                rotate_left
                · (intro ww hSw; (try dsimp only at hSw); have w9 := HJ.out.2; go_simp; try with_reducible rfl)
                refine tkW 6 (some 32) (v := ?_) ?_ hHeld ?_
                rotate_left
                · (intro ww hSw; (try dsimp only at hSw); go_simp; try with_reducible rfl)
                refine tkW 7 (some 33) (v := ?_) ?_ hHeld ?_
                rotate_left
                · (intro ww hSw; (try dsimp only at hSw); have c9 : ww.cell? ⟨b2, o2 + j, none⟩ = some (.int .i64 (q : Int)) := (hSw.cell (p := ⟨b2, o2 + j, none⟩) HL.out.2).trans HY.out; go_simp; try with_reducible rfl)
                refine tkW 8 (some 34) (v := ?_) ?_ hHeld ?_
                rotate_left
                · (intro ww _; go_simp; try with_reducible rfl)
                refine tkW 9 (some 35) (v := ?_) ?_ hHeld ?_
                rotate_left
                · (intro ww _; go_simp; try with_reducible rfl)
                refine tkW 10 (some 36) (v := ?_) ?_ hHeld ?_
                rotate_left
                · (intro ww hSw; (try dsimp only at hSw); go_simp; try with_reducible rfl)
                refine tkW 11 (some 37) (v := ?_) ?_ hHeld ?_
                rotate_left
                · (intro ww hSw; (try dsimp only at hSw); have c9 : ww.cell? ⟨b2, o2 + k, none⟩ = some (.int .i64 (r : Int)) := (hSw.cell (p := ⟨b2, o2 + k, none⟩) HL.out.2).trans HX.out; go_simp; try with_reducible rfl)
                refine tkW 12 (some 38) (v := ?_) ?_ hHeld ?_
                rotate_left
                · (intro ww hSw; (try dsimp only at hSw); go_simp; try with_reducible rfl)
                refine tkW 13 (some 39) (v := ?_) ?_ hHeld ?_
                rotate_left
                · (intro ww _; go_simp; try with_reducible rfl)
                refine tkW 14 (some 40) (v := ?_) ?_ hHeld ?_
                rotate_left
                · (intro ww _; go_simp; try with_reducible rfl)
                refine tkW 15 (some 41) (v := ?_) ?_ hHeld ?_
                rotate_left
                · (intro ww _; go_simp; try with_reducible rfl)
                refine tkW 16 (some 42) (v := ?_) ?_ hHeld ?_
                rotate_left
                · (intro ww _; go_simp; try with_reducible rfl)
                refine tkW 17 (some 43) (v := ?_) ?_ hHeld ?_
                rotate_left
                · (intro ww hSw; (try dsimp only at hSw); have w9 := HJ.out.2; go_simp; try with_reducible rfl)
                refine tkW 18 (some 44) (v := ?_) ?_ hHeld ?_
                rotate_left
                · (intro ww hSw; (try dsimp only at hSw); go_simp; try with_reducible rfl)
                refine tkW 19 (some 45) (v := ?_) ?_ hHeld ?_
                rotate_left
                · (intro ww hSw; (try dsimp only at hSw); have c9 : ww.cell? ⟨b2, o2 + j, none⟩ = some (.int .i64 (q : Int)) := (hSw.cell (p := ⟨b2, o2 + j, none⟩) HL.out.2).trans HY.out; go_simp; try with_reducible rfl)
                refine tkW 20 (some 46) (v := ?_) ?_ hHeld ?_
                rotate_left
                · (intro ww hSw; (try dsimp only at hSw); go_simp; try with_reducible rfl)
                refine tkW 21 (some 47) (v := ?_) ?_ hHeld ?_
                rotate_left
                · (intro ww hSw; (try dsimp only at hSw); have c9 : ww.cell? ⟨b1, o1 + q, none⟩ = some (.int .i64 A) := (hSw.cell (p := ⟨b1, o1 + q, none⟩) HL.out.1).trans HQ.out; go_simp; try with_reducible rfl)
                refine tkW 22 (some 48) (v := ?_) ?_ hHeld ?_
                rotate_left
                · (intro ww _; go_simp; try with_reducible rfl)
                refine tkW 23 (some 49) (v := ?_) ?_ hHeld ?_
                rotate_left
                · (intro ww _; go_simp; try with_reducible rfl)
                refine tkW 24 (some 50) (v := ?_) ?_ hHeld ?_
                rotate_left
                · (intro ww _; go_simp; try with_reducible rfl)
                refine tkW 25 (some 51) (v := ?_) ?_ hHeld ?_
                rotate_left
                · (intro ww hSw; (try dsimp only at hSw); go_simp; try with_reducible rfl)
                refine tkW 26 (some 52) (v := ?_) ?_ hHeld ?_
                rotate_left
                · (intro ww hSw; (try dsimp only at hSw); have c9 : ww.cell? ⟨b2, o2 + k, none⟩ = some (.int .i64 (r : Int)) := (hSw.cell (p := ⟨b2, o2 + k, none⟩) HL.out.2).trans HX.out; go_simp; try with_reducible rfl)
                refine tkW 27 (some 53) (v := ?_) ?_ hHeld ?_
                rotate_left
                · (intro ww hSw; (try dsimp only at hSw); go_simp; try with_reducible rfl)
                refine tkW 28 (some 54) (v := ?_) ?_ hHeld ?_
                rotate_left
                · (intro ww hSw; (try dsimp only at hSw); have c9 : ww.cell? ⟨b1, o1 + r, none⟩ = some (.int .i64 B) := (hSw.cell (p := ⟨b1, o1 + r, none⟩) HL.out.1).trans HR.out; go_simp; try with_reducible rfl)
                refine tkW 29 (some 55) (v := ?_) ?_ hHeld ?_
                rotate_left
                · (intro ww hSw; (try dsimp only at hSw); go_simp; try with_reducible rfl)
                refine tkW 30 (some 56) (v := ?_) ?_ hHeld ?_
                rotate_left
                · (intro ww _; go_simp; try with_reducible rfl)
                refine tkW 31 (some 57) (v := ?_) ?_ hHeld ?_
                rotate_left
                · (intro ww _; go_simp; try with_reducible rfl)
                refine wpAnyH_done (by kernel_rfl) ?_ _
                have HB := hide9 (HB.out.trans (hHeld.mono HB.out.size))
                clear hHeld
                have n1 : IntKind.i64.wrap ((k : Int) + 1) = (k : Int) + 1 := by rw [IntKind.wrap_i64]; omega
                go_wp2
                go_roundw
                case rel => exact ⟨k + 1, by omega, by go_num, HM, HB⟩
                case measure => simp [intOf]; omega
    · have HE : Hid (isB d p = true) := isB_yes (by omega) HA.out
      have k9 : ¬ (k : Int) < (p.length : Int) := by omega
      go_wp2
      go_ret
      exact ⟨ret_b HE.out.symm, HB.out⟩

end Go.Proofs.Ytjnccmkhhnaaiaa
