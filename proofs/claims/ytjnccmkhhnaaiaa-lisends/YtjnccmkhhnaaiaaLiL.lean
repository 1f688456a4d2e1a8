/- The walk of LisEnds. -/
import Derived.Test.YtjnccmkhhnaaiaaLiI
import Derived.Test.YtjnccmkhhnaaiaaPlainLm
namespace Go.Proofs.Ytjnccmkhhnaaiaa
open Go.RowKit
set_option linter.unusedVariables false

/-- Do the first k numbers rise? Do they never? -/
def upTo (d : List Int) : Nat → Bool
  | 0 => true
  | 1 => true
  | k + 2 => upTo d (k + 1) && decide (atD d k < atD d (k + 1))
def dnTo (d : List Int) : Nat → Bool
  | 0 => true
  | 1 => true
  | k + 2 => dnTo d (k + 1) && decide (atD d (k + 1) ≤ atD d k)
theorem upTo_all {d : List Int} : ∀ {k : Nat}, upTo d k = true → ∀ j, 0 < j → j < k → atD d (j - 1) < atD d j
  | 0, _, j, h1, h2 => by omega
  | 1, _, j, h1, h2 => by omega
  | k + 2, h, j, h1, h2 => by
    simp only [upTo, Bool.and_eq_true, decide_eq_true_eq] at h
    rcases Nat.lt_or_ge j (k + 1) with h3 | h3
    · exact upTo_all h.1 j h1 h3
    · obtain rfl : j = k + 1 := by omega
      exact h.2
theorem dnTo_all {d : List Int} : ∀ {k : Nat}, dnTo d k = true → ∀ j, 0 < j → j < k → atD d j ≤ atD d (j - 1)
  | 0, _, j, h1, h2 => by omega
  | 1, _, j, h1, h2 => by omega
  | k + 2, h, j, h1, h2 => by
    simp only [dnTo, Bool.and_eq_true, decide_eq_true_eq] at h
    rcases Nat.lt_or_ge j (k + 1) with h3 | h3
    · exact dnTo_all h.1 j h1 h3
    · obtain rfl : j = k + 1 := by omega
      exact h.2
theorem oth_count {d : List Int} : ∀ (f i : Nat) (left : Int), d.length - i = f → (oth (rstL d i left) f i).length + (rstL d i left).length = f
  | 0, i, left, h => by rw [rstL_end (by omega)]; rfl
  | f + 1, i, left, h => by
    have hi : i < d.length := by omega
    by_cases hb : bgA d i = left
    · rw [rstL_yes hi hb, oth_yes]
      have := oth_count (d := d) f (i + 1) (left - 1) (by omega)
      simp only [List.length_cons]; omega
    · rw [rstL_no hi hb, oth_no (fun p hp e => by have := rst_mem (List.mem_of_head? hp); omega)]
      have := oth_count (d := d) f (i + 1) left (by omega)
      simp only [List.length_cons]; omega
theorem oth_up {d : List Int} (h : lngL d = d.length) : (othL d).length = 0 ∧ (risL d).length = d.length := by
  have h1 := (ris_ris d).2
  have h2 : (othL d).length + (risL d).length = d.length := oth_count d.length 0 (lngL d) (by omega)
  omega

set_option maxHeartbeats 8000000 in
theorem lisEnds_walk (v1 : Value) (d : List Int) (w : World) (h1 : IsI w v1 d) :
    Calls Try.prog 7 #[v1] w fun e w' => e = .returned (.bool true) ∧ Below w.heap.size w w' := by
  have H1 := hide9 h1
  obtain ⟨a1, c1, rfl, hc1, hl1, r1⟩ := h1
  have R1 := hide9 r1
  clear r1
  go_enter Try.func7, Try.ntmps7
  go_wp2
  go_loopw [3, 4, 5] (fun uv dv iv wr => ∃ i : Nat, 1 ≤ i ∧ i ≤ d.length + 1 ∧ iv = .int .i64 (i : Int) ∧ uv = .bool (upTo d i) ∧ dv = .bool (dnTo d i) ∧ Hid (Below w.heap.size w wr)) (fun _ _ iv _ => d.length - (intOf iv).toNat)
  case atStart => exact ⟨1, by omega, by omega, rfl, rfl, rfl, Below.refl _ _⟩
  case round =>
    obtain ⟨i, hi1, hk, rfl, rfl, rfl, HB⟩ := hrel
    by_cases hlt : i < d.length
    · have k1 : (i : Int) < (d.length : Int) := by omega
      have k0 : (0 : Int) ≤ (i : Int) := by omega
      obtain ⟨b1, o1, rfl, g⟩ := R1.out.resolve_left (by intro e; subst e; simp at hlt)
      obtain ⟨j, ej⟩ : ∃ j, i = j + 1 := ⟨i - 1, by omega⟩
      have x1 := (g.below HB.out) i hlt
      have y1 := (g.below HB.out) j (by omega)
      rw [atD_eq hlt] at x1
      rw [atD_eq (by omega)] at y1
      have hlb := (g.below HB.out).lt (by intro e; subst e; simp at hlt)
      have HU : Hid (upTo d (i + 1) = (upTo d i && decide (atD d j < atD d i))) := by subst ej; exact (rfl : _ = _)
      have HD : Hid (dnTo d (i + 1) = (dnTo d i && decide (atD d i ≤ atD d j))) := by subst ej; exact (rfl : _ = _)
      obtain ⟨x, ex⟩ : ∃ x, x = atD d i := ⟨_, rfl⟩
      obtain ⟨y, ey⟩ : ∃ y, y = atD d j := ⟨_, rfl⟩
      rw [← ex] at x1 HU HD
      rw [← ey] at y1 HU HD
      have HX : Hid (b1 < wr.heap.size ∧ wr.cell? ⟨b1, o1 + i, none⟩ = some (.int .i64 x)) := ⟨hlb, x1⟩
      have HY : Hid (b1 < wr.heap.size ∧ wr.cell? ⟨b1, o1 + j, none⟩ = some (.int .i64 y)) := ⟨hlb, y1⟩
      have HJ : Hid (IntKind.i64.wrap ((i : Int) - 1) = (j : Int)) := by show _ = _; rw [IntKind.wrap_i64]; omega
      have j0 : (0 : Int) ≤ (j : Int) := by omega
      have j1 : (j : Int) < (d.length : Int) := by omega
      clear g x1 y1 ex ey ej hlb
      cases hup : upTo d i
      · rw [hup, Bool.false_and] at HU
        clear hup
        go_upto_region 6 with fail
        refine wp_region_held_drew (S := fun W' => Below wr.heap.size wr W') (by kernel_rfl) (Below.refl _ _).drew (fun hHeld => ?_)
        obtain ⟨Ua1u0, eW⟩ : ∃ X, X = wr.drew := ⟨_, rfl⟩
        have hb : Below wr.heap.size wr Ua1u0 := by rw [eW]; exact (Below.refl _ _).drew
        rw [← eW] at hHeld ⊢
        clear eW hb
        refine tkW 0 (some 13) (v := ?_) ?_ hHeld ?_
        rotate_left
        · (intro ww _; go_simp; try with_reducible rfl)
        refine tkW 1 (some 14) (v := ?_) ?_ hHeld ?_
        rotate_left
        · (intro ww _; go_simp; try with_reducible rfl)
        refine tkU 2 (some 15) hHeld ?_
        refine tkU 3 (some 16) hHeld ?_
        refine tkU 4 (some 17) hHeld ?_
        refine tkU 5 (some 18) hHeld ?_
        refine tkU 6 (some 19) hHeld ?_
        refine tkU 7 (some 20) hHeld ?_
        refine tkU 8 (some 21) hHeld ?_
        refine tkU 9 (some 22) hHeld ?_
        refine tkU 10 (some 23) hHeld ?_
        refine tkU 11 (some 24) hHeld ?_
        refine tkW 12 (some 25) (v := ?_) ?_ hHeld ?_
        rotate_left
        · (intro ww _; go_simp; try with_reducible rfl)
        refine tkW 13 (some 3) (v := ?_) ?_ hHeld ?_
        rotate_left
        · (intro ww _; go_simp; try with_reducible rfl)
        refine wpAnyH_done (by kernel_rfl) ?_ _
        have HB := hide9 (HB.out.trans (hHeld.mono HB.out.size))
        have HX : Hid (b1 < Ua1u0.heap.size ∧ Ua1u0.cell? ⟨b1, o1 + i, none⟩ = some (.int .i64 x)) := ⟨Nat.lt_of_lt_of_le HX.out.1 hHeld.size, (hHeld.cell (p := ⟨b1, o1 + i, none⟩) HX.out.1).trans HX.out.2⟩
        have HY : Hid (b1 < Ua1u0.heap.size ∧ Ua1u0.cell? ⟨b1, o1 + j, none⟩ = some (.int .i64 y)) := ⟨Nat.lt_of_lt_of_le HY.out.1 hHeld.size, (hHeld.cell (p := ⟨b1, o1 + j, none⟩) HY.out.1).trans HY.out.2⟩
        clear hHeld
        cases hdn : dnTo d i
        · rw [hdn, Bool.false_and] at HD
          clear hdn
          go_upto_region 7 with fail
          refine wp_region_held_drew (S := fun W' => Below Ua1u0.heap.size Ua1u0 W') (by kernel_rfl) (Below.refl _ _).drew (fun hHeld => ?_)
          obtain ⟨Uaf2u0, eW⟩ : ∃ X, X = Ua1u0.drew := ⟨_, rfl⟩
          have hb : Below Ua1u0.heap.size Ua1u0 Uaf2u0 := by rw [eW]; exact (Below.refl _ _).drew
          rw [← eW] at hHeld ⊢
          clear eW hb
          refine tkW 0 (some 26) (v := ?_) ?_ hHeld ?_
          rotate_left
          · (intro ww _; go_simp; try with_reducible rfl)
          refine tkW 1 (some 27) (v := ?_) ?_ hHeld ?_
          rotate_left
          · (intro ww _; go_simp; try with_reducible rfl)
          refine tkU 2 (some 28) hHeld ?_
          refine tkU 3 (some 29) hHeld ?_
          refine tkU 4 (some 30) hHeld ?_
          refine tkU 5 (some 31) hHeld ?_
          refine tkU 6 (some 32) hHeld ?_
          refine tkU 7 (some 33) hHeld ?_
          refine tkU 8 (some 34) hHeld ?_
          refine tkU 9 (some 35) hHeld ?_
          refine tkU 10 (some 36) hHeld ?_
          refine tkU 11 (some 37) hHeld ?_
          refine tkW 12 (some 38) (v := ?_) ?_ hHeld ?_
          rotate_left
          · (intro ww _; go_simp; try with_reducible rfl)
          refine tkW 13 (some 4) (v := ?_) ?_ hHeld ?_
          rotate_left
          · (intro ww _; go_simp; try with_reducible rfl)
          refine wpAnyH_done (by kernel_rfl) ?_ _
          have HB := hide9 (HB.out.trans (hHeld.mono HB.out.size))
          clear hHeld
          have n1 : IntKind.i64.wrap ((i : Int) + 1) = (i : Int) + 1 := by rw [IntKind.wrap_i64]; omega
          go_wp2
          go_roundw
          case rel => exact ⟨i + 1, by omega, by omega, by go_num, by rw [HU.out], by rw [HD.out], HB⟩
          case measure => simp [intOf]; omega
        · rw [hdn, Bool.true_and] at HD
          clear hdn
          go_upto_region 7 with fail
          refine wp_region_held_drew (S := fun W' => Below Ua1u0.heap.size Ua1u0 W') (by kernel_rfl) (Below.refl _ _).drew (fun hHeld => ?_)
          obtain ⟨Uat3u0, eW⟩ : ∃ X, X = Ua1u0.drew := ⟨_, rfl⟩
          have hb : Below Ua1u0.heap.size Ua1u0 Uat3u0 := by rw [eW]; exact (Below.refl _ _).drew
          rw [← eW] at hHeld ⊢
          clear eW hb
          refine tkW 0 (some 26) (v := ?_) ?_ hHeld ?_
          rotate_left
          · (intro ww _; go_simp; try with_reducible rfl)
          refine tkW 1 (some 27) (v := ?_) ?_ hHeld ?_
          rotate_left
          · (intro ww _; go_simp; try with_reducible rfl)
          refine tkW 2 (some 28) (v := ?_) ?_ hHeld ?_
          rotate_left
          · (intro ww _; go_simp; try with_reducible rfl)
          refine tkW 3 (some 29) (v := ?_) ?_ hHeld ?_
          rotate_left
          · (intro ww _; go_simp; try with_reducible rfl)
          refine tkW 4 (some 30) (v := ?_) ?_ hHeld ?_
          rotate_left
          · (intro ww hSw; (try dsimp only at hSw); have w9 := HJ.out; go_simp; try with_reducible rfl)
          refine tkW 5 (some 31) (v := ?_) ?_ hHeld ?_
          rotate_left
          · (intro ww hSw; (try dsimp only at hSw); go_simp; try with_reducible rfl)
          refine tkW 6 (some 32) (v := ?_) ?_ hHeld ?_
          rotate_left
          · (intro ww hSw; (try dsimp only at hSw); have c9 : ww.cell? ⟨b1, o1 + j, none⟩ = some (.int .i64 y) := (hSw.cell (p := ⟨b1, o1 + j, none⟩) HY.out.1).trans HY.out.2; go_simp; try with_reducible rfl)
          refine tkW 7 (some 33) (v := ?_) ?_ hHeld ?_
          rotate_left
          · (intro ww _; go_simp; try with_reducible rfl)
          refine tkW 8 (some 34) (v := ?_) ?_ hHeld ?_
          rotate_left
          · (intro ww _; go_simp; try with_reducible rfl)
          refine tkW 9 (some 35) (v := ?_) ?_ hHeld ?_
          rotate_left
          · (intro ww hSw; (try dsimp only at hSw); go_simp; try with_reducible rfl)
          refine tkW 10 (some 36) (v := ?_) ?_ hHeld ?_
          rotate_left
          · (intro ww hSw; (try dsimp only at hSw); have c9 : ww.cell? ⟨b1, o1 + i, none⟩ = some (.int .i64 x) := (hSw.cell (p := ⟨b1, o1 + i, none⟩) HX.out.1).trans HX.out.2; go_simp; try with_reducible rfl)
          refine tkW 11 (some 37) (v := ?_) ?_ hHeld ?_
          rotate_left
          · (intro ww hSw; (try dsimp only at hSw); go_simp; try with_reducible rfl)
          refine tkW 12 (some 38) (v := ?_) ?_ hHeld ?_
          rotate_left
          · (intro ww _; go_simp; try with_reducible rfl)
          refine tkW 13 (some 4) (v := ?_) ?_ hHeld ?_
          rotate_left
          · (intro ww _; go_simp; try with_reducible rfl)
          refine wpAnyH_done (by kernel_rfl) ?_ _
          have HB := hide9 (HB.out.trans (hHeld.mono HB.out.size))
          clear hHeld
          have n1 : IntKind.i64.wrap ((i : Int) + 1) = (i : Int) + 1 := by rw [IntKind.wrap_i64]; omega
          go_wp2
          go_roundw
          case rel => exact ⟨i + 1, by omega, by omega, by go_num, by rw [HU.out], by rw [HD.out], HB⟩
          case measure => simp [intOf]; omega
      · rw [hup, Bool.true_and] at HU
        clear hup
        go_upto_region 6 with fail
        refine wp_region_held_drew (S := fun W' => Below wr.heap.size wr W') (by kernel_rfl) (Below.refl _ _).drew (fun hHeld => ?_)
        obtain ⟨Ub4u0, eW⟩ : ∃ X, X = wr.drew := ⟨_, rfl⟩
        have hb : Below wr.heap.size wr Ub4u0 := by rw [eW]; exact (Below.refl _ _).drew
        rw [← eW] at hHeld ⊢
        clear eW hb
        refine tkW 0 (some 13) (v := ?_) ?_ hHeld ?_
        rotate_left
        · (intro ww _; go_simp; try with_reducible rfl)
        refine tkW 1 (some 14) (v := ?_) ?_ hHeld ?_
        rotate_left
        · (intro ww _; go_simp; try with_reducible rfl)
        refine tkW 2 (some 15) (v := ?_) ?_ hHeld ?_
        rotate_left
        · (intro ww _; go_simp; try with_reducible rfl)
        refine tkW 3 (some 16) (v := ?_) ?_ hHeld ?_
        rotate_left
        · (intro ww _; go_simp; try with_reducible rfl)
        refine tkW 4 (some 17) (v := ?_) ?_ hHeld ?_
        rotate_left
        · (intro ww hSw; (try dsimp only at hSw); have w9 := HJ.out; go_simp; try with_reducible rfl)
        refine tkW 5 (some 18) (v := ?_) ?_ hHeld ?_
        rotate_left
        · (intro ww hSw; (try dsimp only at hSw); go_simp; try with_reducible rfl)
        refine tkW 6 (some 19) (v := ?_) ?_ hHeld ?_
        rotate_left
        · (intro ww hSw; (try dsimp only at hSw); have c9 : ww.cell? ⟨b1, o1 + j, none⟩ = some (.int .i64 y) := (hSw.cell (p := ⟨b1, o1 + j, none⟩) HY.out.1).trans HY.out.2; go_simp; try with_reducible rfl)
        refine tkW 7 (some 20) (v := ?_) ?_ hHeld ?_
        rotate_left
        · (intro ww _; go_simp; try with_reducible rfl)
        refine tkW 8 (some 21) (v := ?_) ?_ hHeld ?_
        rotate_left
        · (intro ww _; go_simp; try with_reducible rfl)
        refine tkW 9 (some 22) (v := ?_) ?_ hHeld ?_
        rotate_left
        · (intro ww hSw; (try dsimp only at hSw); go_simp; try with_reducible rfl)
        refine tkW 10 (some 23) (v := ?_) ?_ hHeld ?_
        rotate_left
        · (intro ww hSw; (try dsimp only at hSw); have c9 : ww.cell? ⟨b1, o1 + i, none⟩ = some (.int .i64 x) := (hSw.cell (p := ⟨b1, o1 + i, none⟩) HX.out.1).trans HX.out.2; go_simp; try with_reducible rfl)
        refine tkW 11 (some 24) (v := ?_) ?_ hHeld ?_
        rotate_left
        · (intro ww hSw; (try dsimp only at hSw); go_simp; try with_reducible rfl)
        refine tkW 12 (some 25) (v := ?_) ?_ hHeld ?_
        rotate_left
        · (intro ww _; go_simp; try with_reducible rfl)
        refine tkW 13 (some 3) (v := ?_) ?_ hHeld ?_
        rotate_left
        · (intro ww _; go_simp; try with_reducible rfl)
        refine wpAnyH_done (by kernel_rfl) ?_ _
        have HB := hide9 (HB.out.trans (hHeld.mono HB.out.size))
        have HX : Hid (b1 < Ub4u0.heap.size ∧ Ub4u0.cell? ⟨b1, o1 + i, none⟩ = some (.int .i64 x)) := ⟨Nat.lt_of_lt_of_le HX.out.1 hHeld.size, (hHeld.cell (p := ⟨b1, o1 + i, none⟩) HX.out.1).trans HX.out.2⟩
        have HY : Hid (b1 < Ub4u0.heap.size ∧ Ub4u0.cell? ⟨b1, o1 + j, none⟩ = some (.int .i64 y)) := ⟨Nat.lt_of_lt_of_le HY.out.1 hHeld.size, (hHeld.cell (p := ⟨b1, o1 + j, none⟩) HY.out.1).trans HY.out.2⟩
        clear hHeld
        cases hdn : dnTo d i
        · rw [hdn, Bool.false_and] at HD
          clear hdn
          go_upto_region 7 with fail
          refine wp_region_held_drew (S := fun W' => Below Ub4u0.heap.size Ub4u0 W') (by kernel_rfl) (Below.refl _ _).drew (fun hHeld => ?_)
          obtain ⟨Ubf5u0, eW⟩ : ∃ X, X = Ub4u0.drew := ⟨_, rfl⟩
          have hb : Below Ub4u0.heap.size Ub4u0 Ubf5u0 := by rw [eW]; exact (Below.refl _ _).drew
          rw [← eW] at hHeld ⊢
          clear eW hb
          refine tkW 0 (some 26) (v := ?_) ?_ hHeld ?_
          rotate_left
          · (intro ww _; go_simp; try with_reducible rfl)
          refine tkW 1 (some 27) (v := ?_) ?_ hHeld ?_
          rotate_left
          · (intro ww _; go_simp; try with_reducible rfl)
          refine tkU 2 (some 28) hHeld ?_
          refine tkU 3 (some 29) hHeld ?_
          refine tkU 4 (some 30) hHeld ?_
          refine tkU 5 (some 31) hHeld ?_
          refine tkU 6 (some 32) hHeld ?_
          refine tkU 7 (some 33) hHeld ?_
          refine tkU 8 (some 34) hHeld ?_
          refine tkU 9 (some 35) hHeld ?_
          refine tkU 10 (some 36) hHeld ?_
          refine tkU 11 (some 37) hHeld ?_
          refine tkW 12 (some 38) (v := ?_) ?_ hHeld ?_
          rotate_left
          · (intro ww _; go_simp; try with_reducible rfl)
          refine tkW 13 (some 4) (v := ?_) ?_ hHeld ?_
          rotate_left
          · (intro ww _; go_simp; try with_reducible rfl)
          refine wpAnyH_done (by kernel_rfl) ?_ _
          have HB := hide9 (HB.out.trans (hHeld.mono HB.out.size))
          clear hHeld
          have n1 : IntKind.i64.wrap ((i : Int) + 1) = (i : Int) + 1 := by rw [IntKind.wrap_i64]; omega
          go_wp2
          go_roundw
          case rel => exact ⟨i + 1, by omega, by omega, by go_num, by rw [HU.out], by rw [HD.out], HB⟩
          case measure => simp [intOf]; omega
        · rw [hdn, Bool.true_and] at HD
          clear hdn
          go_upto_region 7 with fail
          refine wp_region_held_drew (S := fun W' => Below Ub4u0.heap.size Ub4u0 W') (by kernel_rfl) (Below.refl _ _).drew (fun hHeld => ?_)
          obtain ⟨Ubt6u0, eW⟩ : ∃ X, X = Ub4u0.drew := ⟨_, rfl⟩
          have hb : Below Ub4u0.heap.size Ub4u0 Ubt6u0 := by rw [eW]; exact (Below.refl _ _).drew
          rw [← eW] at hHeld ⊢
          clear eW hb
          refine tkW 0 (some 26) (v := ?_) ?_ hHeld ?_
          rotate_left
          · (intro ww _; go_simp; try with_reducible rfl)
          refine tkW 1 (some 27) (v := ?_) ?_ hHeld ?_
          rotate_left
          · (intro ww _; go_simp; try with_reducible rfl)
          refine tkW 2 (some 28) (v := ?_) ?_ hHeld ?_
          rotate_left
          · (intro ww _; go_simp; try with_reducible rfl)
          refine tkW 3 (some 29) (v := ?_) ?_ hHeld ?_
          rotate_left
          · (intro ww _; go_simp; try with_reducible rfl)
          refine tkW 4 (some 30) (v := ?_) ?_ hHeld ?_
          rotate_left
          · (intro ww hSw; (try dsimp only at hSw); have w9 := HJ.out; go_simp; try with_reducible rfl)
          refine tkW 5 (some 31) (v := ?_) ?_ hHeld ?_
          rotate_left
          · (intro ww hSw; (try dsimp only at hSw); go_simp; try with_reducible rfl)
          refine tkW 6 (some 32) (v := ?_) ?_ hHeld ?_
          rotate_left
          · (intro ww hSw; (try dsimp only at hSw); have c9 : ww.cell? ⟨b1, o1 + j, none⟩ = some (.int .i64 y) := (hSw.cell (p := ⟨b1, o1 + j, none⟩) HY.out.1).trans HY.out.2; go_simp; try with_reducible rfl)
          refine tkW 7 (some 33) (v := ?_) ?_ hHeld ?_
          rotate_left
          · (intro ww _; go_simp; try with_reducible rfl)
          refine tkW 8 (some 34) (v := ?_) ?_ hHeld ?_
          rotate_left
          · (intro ww _; go_simp; try with_reducible rfl)
          refine tkW 9 (some 35) (v := ?_) ?_ hHeld ?_
          rotate_left
          · (intro ww hSw; (try dsimp only at hSw); go_simp; try with_reducible rfl)
          refine tkW 10 (some 36) (v := ?_) ?_ hHeld ?_
          rotate_left
          · (intro ww hSw; (try dsimp only at hSw); have c9 : ww.cell? ⟨b1, o1 + i, none⟩ = some (.int .i64 x) := (hSw.cell (p := ⟨b1, o1 + i, none⟩) HX.out.1).trans HX.out.2; go_simp; try with_reducible rfl)
          refine tkW 11 (some 37) (v := ?_) ?_ hHeld ?_
          rotate_left
          · (intro ww hSw; (try dsimp only at hSw); go_simp; try with_reducible rfl)
          refine tkW 12 (some 38) (v := ?_) ?_ hHeld ?_
          rotate_left
          · (intro ww _; go_simp; try with_reducible rfl)
          refine tkW 13 (some 4) (v := ?_) ?_ hHeld ?_
          rotate_left
          · (intro ww _; go_simp; try with_reducible rfl)
          refine wpAnyH_done (by kernel_rfl) ?_ _
          have HB := hide9 (HB.out.trans (hHeld.mono HB.out.size))
          clear hHeld
          have n1 : IntKind.i64.wrap ((i : Int) + 1) = (i : Int) + 1 := by rw [IntKind.wrap_i64]; omega
          go_wp2
          go_roundw
          case rel => exact ⟨i + 1, by omega, by omega, by go_num, by rw [HU.out], by rw [HD.out], HB⟩
          case measure => simp [intOf]; omega
    · have k9 : ¬ (i : Int) < (d.length : Int) := by omega
      have HUp : Hid (upTo d i = true → (othL d).length = 0 ∧ (risL d).length = d.length) := fun h => oth_up (up_all fun j h1 h2 => upTo_all h j h1 (by omega))
      have HDn : Hid (dnTo d i = true → 0 < d.length → risL d = [0]) := fun h h0 => down_one h0 fun j h1 h2 => dnTo_all h j h1 (by omega)
      have H2 := hide9 (H1.out.below HB.out)
      obtain ⟨up, eup⟩ : ∃ u, u = upTo d i := ⟨_, rfl⟩
      obtain ⟨dn, edn⟩ : ∃ u, u = dnTo d i := ⟨_, rfl⟩
      rw [← eup] at HUp ⊢
      rw [← edn] at HDn ⊢
      clear eup edn
      go_wp2_with fail
      refine (rising_any _ d _ H2.out).mono ?_
      rintro e w2 ⟨v3, rfl, ho, hb⟩
      have hrl := ris_len d
      have V1 := hide9 (ho.isI (by omega))
      have L1 := hide9 (H2.out.below hb)
      have B1 := hide9 (HB.out.trans (hb.mono HB.out.size))
      clear ho hb H2 HB
      obtain ⟨a3, c3, e3⟩ := V1.out.form
      subst e3
      cases up
      · obtain ⟨w3, ew3⟩ : ∃ X, X = w2 := ⟨_, rfl⟩
        subst ew3
        have V2 := V1
        have B2 := B1
        clear V1 B1
        cases dn
        · have B3 := B2
          go_wp2_with fail
          refine (awake_any _).mono ?_
          rintro e w9 ⟨rfl, hb⟩
          have B9 := hide9 (B3.out.trans (hb.mono B3.out.size))
          clear hb
          go_wp2
          go_ret
          exact ⟨rfl, B9.out⟩
        · rcases Nat.eq_zero_or_pos d.length with h0 | h0
          · have z1 : ¬ (0 : Int) < (d.length : Int) := by omega
            have B3 := B2
            go_wp2_with fail
            refine (awake_any _).mono ?_
            rintro e w9 ⟨rfl, hb⟩
            have B9 := hide9 (B3.out.trans (hb.mono B3.out.size))
            clear hb
            go_wp2
            go_ret
            exact ⟨rfl, B9.out⟩
          · have z1 : (0 : Int) < (d.length : Int) := by omega
            have hr := HDn.out rfl h0
            obtain ⟨W5, eW⟩ : ∃ X, X = w3.alloc (.cells #[.int .i64 0] 3) := ⟨_, rfl⟩
            have hb5 : Below w3.heap.size w3 W5 := (by rw [eW]; exact (Below.refl _ _).alloc (Nat.le_refl _) _)
            have N1 : Hid (IsI W5 (.slice (some ⟨w3.heap.size, 0, none⟩) 1 1) [0]) := (by rw [eW]; exact isI_new w3 [0] (by decide))
            have V3 := hide9 (V2.out.below hb5)
            have B5 := hide9 (B2.out.trans (hb5.mono B2.out.size))
            rw [hr] at V3
            have hrl1 : (risL d).length = 1 := (by rw [hr]; rfl)
            have HE := hide9 eW
            clear eW hb5 hr
            rw [hrl1]
            go_wp2_with fail
            rw [← HE.out]
            refine (sameI_any _ _ [0] [0] _ V3.out N1.out).mono ?_
            rintro e w6 ⟨rfl, hb⟩
            rw [decide_eq_true rfl]
            have B3 := hide9 (B5.out.trans (hb.mono B5.out.size))
            clear hb HE
            go_wp2_with fail
            refine (awake_any _).mono ?_
            rintro e w9 ⟨rfl, hb⟩
            have B9 := hide9 (B3.out.trans (hb.mono B3.out.size))
            clear hb
            go_wp2
            go_ret
            exact ⟨rfl, B9.out⟩
      · obtain ⟨ho0, hr0⟩ := HUp.out rfl
        have hol : (othL d).length ≤ 17592186044416 := by omega
        have q0 : (((risL d).length : Int) != (d.length : Int)) = false := (by rw [hr0]; simp)
        have HH := hide9 ho0
        clear hr0 ho0
        go_wp2_with fail
        refine (others_any _ d _ L1.out).mono ?_
        rintro e w3 ⟨v4, rfl, ho, hb⟩
        obtain ⟨a4, c4, e4⟩ := ho.form
        rw [HH.out] at e4
        subst e4
        have V2 := hide9 (V1.out.below hb)
        have B2 := hide9 (B1.out.trans (hb.mono B1.out.size))
        clear ho hb V1 B1 q0
        cases dn
        · have B3 := B2
          go_wp2_with fail
          refine (awake_any _).mono ?_
          rintro e w9 ⟨rfl, hb⟩
          have B9 := hide9 (B3.out.trans (hb.mono B3.out.size))
          clear hb
          go_wp2
          go_ret
          exact ⟨rfl, B9.out⟩
        · rcases Nat.eq_zero_or_pos d.length with h0 | h0
          · have z1 : ¬ (0 : Int) < (d.length : Int) := by omega
            have B3 := B2
            go_wp2_with fail
            refine (awake_any _).mono ?_
            rintro e w9 ⟨rfl, hb⟩
            have B9 := hide9 (B3.out.trans (hb.mono B3.out.size))
            clear hb
            go_wp2
            go_ret
            exact ⟨rfl, B9.out⟩
          · have z1 : (0 : Int) < (d.length : Int) := by omega
            have hr := HDn.out rfl h0
            obtain ⟨W5, eW⟩ : ∃ X, X = w3.alloc (.cells #[.int .i64 0] 3) := ⟨_, rfl⟩
            have hb5 : Below w3.heap.size w3 W5 := (by rw [eW]; exact (Below.refl _ _).alloc (Nat.le_refl _) _)
            have N1 : Hid (IsI W5 (.slice (some ⟨w3.heap.size, 0, none⟩) 1 1) [0]) := (by rw [eW]; exact isI_new w3 [0] (by decide))
            have V3 := hide9 (V2.out.below hb5)
            have B5 := hide9 (B2.out.trans (hb5.mono B2.out.size))
            rw [hr] at V3
            have hrl1 : (risL d).length = 1 := (by rw [hr]; rfl)
            have HE := hide9 eW
            clear eW hb5 hr
            rw [hrl1]
            go_wp2_with fail
            rw [← HE.out]
            refine (sameI_any _ _ [0] [0] _ V3.out N1.out).mono ?_
            rintro e w6 ⟨rfl, hb⟩
            rw [decide_eq_true rfl]
            have B3 := hide9 (B5.out.trans (hb.mono B5.out.size))
            clear hb HE
            go_wp2_with fail
            refine (awake_any _).mono ?_
            rintro e w9 ⟨rfl, hb⟩
            have B9 := hide9 (B3.out.trans (hb.mono B3.out.size))
            clear hb
            go_wp2
            go_ret
            exact ⟨rfl, B9.out⟩

end Go.Proofs.Ytjnccmkhhnaaiaa
