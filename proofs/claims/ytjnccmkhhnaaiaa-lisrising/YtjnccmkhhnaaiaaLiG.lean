/- The document's Rising: the same part. -/
import Derived.Test.YtjnccmkhhnaaiaaLiF
import Derived.Test.YtjnccmkhhnaaiaaLiD
namespace Go.Proofs.Ytjnccmkhhnaaiaa
open Go.RowKit
set_option linter.unusedVariables false

theorem maxL_drop {d : List Int} {i : Nat} (h : i < d.length) : maxL ((begL d).drop i) = max (bgA d i) (maxL ((begL d).drop (i + 1))) := by
  rw [List.drop_eq_getElem_cons (by rw [begL_length]; exact h), bgA_eq h]; rfl
/-- The last place as a number; -1 while there is none. -/
def lastI : Option Nat → Int
  | none => -1
  | some p => (p : Int)
theorem lastI_nxt (l : Option Nat) : lastI l + 1 = (nxt l : Int) := by cases l <;> simp [lastI, nxt]
theorem Ahd.lt {d : List Int} {l : Option Nat} {left : Int} (h : Ahd d l left) : nxt l ≤ d.length := by
  cases l with
  | none => exact Nat.zero_le _
  | some p => exact h.1

set_option maxHeartbeats 8000000 in
theorem refRising_any (v1 : Value) (d : List Int) (w : World) (h1 : IsI w v1 d) :
    Calls Try.prog 13 #[v1] w fun e w' => ∃ v', e = .returned v' ∧ OwnI w.heap.size w' v' (risL d) ∧ Below w.heap.size w w' := by
  obtain ⟨i0, hi, hz0, hz1, hz2⟩ := info_parts infoInt
  have H1 := hide9 h1
  obtain ⟨a1, c1, rfl, hc1, hl1, r1⟩ := h1
  have R1 : Hid (d = [] ∨ ∃ b o, a1 = some ⟨b, o, none⟩ ∧ IntsAt w b o d) := r1
  clear r1
  go_enter Try.func13, Try.ntmps13
  go_wp2_with fail
  refine (refBegins_any _ d _ H1.out).mono ?_
  rintro e w0 ⟨gB, rfl, hg, hr, hb⟩
  have HRb := hide9 hr
  have HBb := hide9 hb
  clear hr hb H1
  go_wp2
  go_loopw [4, 5] (fun mv iv wr => ∃ (i : Nat) (m : Int), i ≤ d.length ∧ iv = .int .i64 (i : Int) ∧ mv = .int .i64 m ∧ 0 ≤ m ∧ Hid (max m (maxL ((begL d).drop i)) = lngL d) ∧ wr = w0) (fun _ iv _ => d.length - (intOf iv).toNat)
  case atStart => exact ⟨0, 0, Nat.zero_le _, rfl, rfl, Int.le_refl _, by (show _ = _; have := maxL_nonneg (begL d); simp [lngL]; omega), rfl⟩
  case round =>
    obtain ⟨i, m, hk, rfl, rfl, hm, HM, rfl⟩ := hrel
    by_cases hlt : i < d.length
    · have x1 := HRb.out.cell (i := i) (by rw [begL_length]; exact hlt)
      have k1 : (i : Int) < (d.length : Int) := by omega
      have k0 : (0 : Int) ≤ (i : Int) := by omega
      obtain ⟨b, eb⟩ : ∃ b, b = bgA d i := ⟨_, rfl⟩
      rw [show atD (begL d) i = b from eb.symm] at x1
      have HM2 : Hid (max (max m b) (maxL ((begL d).drop (i + 1))) = lngL d) := (by show _ = _; have := HM.out; rw [maxL_drop hlt, ← eb] at this; omega)
      clear eb HM
      go_wp2
      go_roundw
      case rel => exact ⟨i + 1, max m b, by omega, by go_num, rfl, by omega, HM2, by first | rfl | trivial⟩
      case measure => simp [intOf]; omega
    · have hm2 : m = lngL d := (by have := HM.out; rw [List.drop_eq_nil_of_le (by rw [begL_length]; omega)] at this; simp [maxL] at this; omega)
      have k9 : ¬ (i : Int) < (d.length : Int) := by omega
      subst hm2
      clear HM hm
      have HO0 := hide9 (OwnI.empty wr _ (Nat.le_refl _))
      have HB0 : Hid (Below wr.heap.size wr (wr.alloc (.cells #[] 3))) := (Below.refl _ _).alloc (Nat.le_refl _) _
      have hln := lngL_nonneg d
      have hlg : lngL d ≤ d.length := (by have := (ris_ris d).2; have := ris_len d; omega)
      have HR0 := HRb
      obtain ⟨w1, ew1⟩ : ∃ X, X = wr := ⟨_, rfl⟩
      rw [← ew1] at HO0 HB0 HR0 HBb
      go_wp2
      go_loopw [4, 6, 7] (fun lv out pv wr => ∃ (l : Option Nat) (lf : Int) (D : List Int), 0 ≤ lf ∧ pv = .int .i64 (lastI l) ∧ lv = .int .i64 lf ∧ lf + D.length = lngL d ∧ Hid (Ahd d l lf) ∧ Hid (D ++ rstL d (nxt l) lf = risL d) ∧ Hid (RowF wr gB (begL d)) ∧ Hid (OwnI w1.heap.size wr out D) ∧ Hid (Below w1.heap.size w1 wr)) (fun lv _ _ _ => (intOf lv).toNat)
      case atStart => exact ⟨none, lngL d, [], lngL_nonneg d, rfl, rfl, by simp, (rfl : lngL d = lngL d), by (show _ = _; exact rstL_zero d), by (rw [← ew1]; exact HR0.out.below HB0.out), by (rw [← ew1]; exact HO0.out), by (rw [← ew1]; exact HB0.out)⟩
      case round =>
        clear HO0 HB0 HRb ew1
        obtain ⟨l, lf, D, hlf, rfl, rfl, hDl, HA, HD, HR, HO, HB⟩ := hrel
        have hsz := HB.out.size
        by_cases hl0 : 0 < lf
        · obtain ⟨ao, co, e0⟩ := HO.out.form
          subst e0
          have hnx := HA.out.lt
          have n1 : IntKind.i64.wrap (lastI l + 1) = (nxt l : Int) := (by rw [lastI_nxt, IntKind.wrap_i64]; omega)
          have m1 : IntKind.i64.wrap (lf - 1) = lf - 1 := by rw [IntKind.wrap_i64]; omega
          go_wp2
          go_loopw [6, 7, 8] (fun out pv iv wr => ∃ (i : Nat), i ≤ d.length ∧ nxt l ≤ i ∧ iv = .int .i64 (i : Int) ∧ pv = .int .i64 (lastI l) ∧ out = (.slice ao D.length co) ∧ Hid (∀ k, nxt l ≤ k → k < i → ¬ Fit d l lf k) ∧ Hid (D ++ rstL d i lf = risL d) ∧ Hid (RowF wr gB (begL d)) ∧ Hid (OwnI w1.heap.size wr (.slice ao D.length co) D) ∧ Hid (Below w1.heap.size w1 wr)) (fun _ _ iv _ => d.length - (intOf iv).toNat)
          case atStart => exact ⟨nxt l, hnx, Nat.le_refl _, rfl, rfl, rfl, fun k h1 h2 => absurd h2 (by omega), HD, HR, HO, HB⟩
          case round =>
            clear HR HO HB HD hsz
            obtain ⟨i, hk, hni, rfl, rfl, rfl, HN, HD, HR, HO, HB⟩ := hrel
            have hsz := HB.out.size
            by_cases hlt : i < d.length
            · obtain ⟨b1, o1, rfl, g1⟩ := R1.out.resolve_left (by intro e; subst e; simp at hlt)
              have x1 := HR.out.cell (i := i) (by rw [begL_length]; exact hlt)
              have k1 : (i : Int) < (d.length : Int) := by omega
              have k0 : (0 : Int) ≤ (i : Int) := by omega
              obtain ⟨b, eb⟩ : ∃ b, b = bgA d i := ⟨_, rfl⟩
              rw [show atD (begL d) i = b from eb.symm] at x1
              have HLb : Hid (gB < wr.heap.size ∧ wr.cell? ⟨gB, i, none⟩ = some (.int .i64 b)) := ⟨HR.out.lt, x1⟩
              have HEb := hide9 eb
              have G1 := hide9 ((g1.below HBb.out).below HB.out)
              clear x1 eb g1
              by_cases hb : lf ≤ b
              · cases l with
                | none =>
                  have HFt : Hid (Fit d none lf i) := ⟨by rw [← HEb.out]; exact hb, trivial⟩
                  have HEq : Hid (bgA d i = lf) := HA.out.fit hlt hni HFt.out
                  have HA2 : Hid (Ahd d (some i) (lf - 1)) := Ahd.step hlt HEq.out
                  have HD3 : Hid ((D ++ [(i : Int)]) ++ rstL d (nxt (some i)) (lf - 1) = risL d) := (by show _ = _; have := HD.out; rw [rstL_yes hlt HEq.out] at this; simpa [nxt] using this)
                  have hs1 := HBb.out.size
                  clear HN HD HEq HFt
                  simp only [lastI]
                  go_upto_region 13 with fail
                  refine wp_region_held_drew (S := fun W' => Below wr.heap.size wr W') (by kernel_rfl) (Below.refl _ _).drew (fun hHeld => ?_)
                  obtain ⟨Un1u0, eW⟩ : ∃ X, X = wr.drew := ⟨_, rfl⟩
                  have hb : Below wr.heap.size wr Un1u0 := by rw [eW]; exact (Below.refl _ _).drew
                  rw [← eW] at hHeld ⊢
                  clear eW hb
                  refine tkW 0 (some 34) (v := ?_) ?_ hHeld ?_
                  rotate_left
                  · (intro ww _; go_simp; try with_reducible rfl)
                  refine tkW 1 (some 35) (v := ?_) ?_ hHeld ?_
                  rotate_left
                  · (intro ww _; go_simp; try with_reducible rfl)
                  refine tkW 2 (some 36) (v := ?_) ?_ hHeld ?_
                  rotate_left
                  · (intro ww hSw; (try dsimp only at hSw); go_simp; try with_reducible rfl)
                  refine tkW 3 (some 37) (v := ?_) ?_ hHeld ?_
                  rotate_left
                  · (intro ww hSw; (try dsimp only at hSw); have c9 : ww.cell? ⟨gB, i, none⟩ = some (.int .i64 b) := (hSw.cell (p := ⟨gB, i, none⟩) HLb.out.1).trans HLb.out.2; go_simp; try with_reducible rfl)
                  refine tkW 4 (some 38) (v := ?_) ?_ hHeld ?_
                  rotate_left
                  · (intro ww _; go_simp; try with_reducible rfl)
                  refine tkW 5 (some 39) (v := ?_) ?_ hHeld ?_
                  rotate_left
                  · (intro ww hSw; (try dsimp only at hSw); go_simp; try with_reducible rfl)
                  refine tkW 6 (some 40) (v := ?_) ?_ hHeld ?_
                  rotate_left
                  · (intro ww _; go_simp; try with_reducible rfl)
                  refine tkW 7 (some 41) (v := ?_) ?_ hHeld ?_
                  rotate_left
                  · (intro ww _; go_simp; try with_reducible rfl)
                  refine tkW 8 (some 42) (v := ?_) ?_ hHeld ?_
                  rotate_left
                  · (intro ww hSw; (try dsimp only at hSw); go_simp; try with_reducible rfl)
                  refine tkW 9 (some 43) (v := ?_) ?_ hHeld ?_
                  rotate_left
                  · (intro ww _; go_simp; try with_reducible rfl)
                  refine tkU 10 (some 44) hHeld ?_
                  refine tkU 11 (some 45) hHeld ?_
                  refine tkU 12 (some 46) hHeld ?_
                  refine tkU 13 (some 47) hHeld ?_
                  refine tkU 14 (some 48) hHeld ?_
                  refine tkU 15 (some 49) hHeld ?_
                  refine tkU 16 (some 50) hHeld ?_
                  refine tkU 17 (some 51) hHeld ?_
                  refine tkU 18 (some 52) hHeld ?_
                  refine tkW 19 (some 53) (v := ?_) ?_ hHeld ?_
                  rotate_left
                  · (intro ww _; go_simp; try with_reducible rfl)
                  refine tkW 20 (some 54) (v := ?_) ?_ hHeld ?_
                  rotate_left
                  · (intro ww _; go_simp; try with_reducible rfl)
                  refine wpAnyH_done (by kernel_rfl) ?_ _
                  have HB := hide9 (HB.out.trans (hHeld.mono HB.out.size))
                  have HO := hide9 (HO.out.below hHeld)
                  have HR := hide9 (HR.out.below hHeld)
                  have hsz := HB.out.size
                  clear hHeld
                  go_wp2_with (at_builtin; refine wpList_append_own _ rfl _ _ 22 rfl w1.heap.size 3 i0 (.int .i64 0) 1 8 Try.underlying22 hi hz0 hz1 hz2 rfl (by decide) _ _ _ rfl (World.ownsRow.alloc HO.out _) ⟨Un1u0.heap.size, 0, none⟩ 1 1 [.int .i64 (i : Int)] rfl rfl (cell_one_new _ _ _) (fun x hx => by simp at hx; subst hx; rfl) (by unfold maxLen; omega) (by omega) (by simp; omega) ?_; intro v3 w3 hown3 hgrow3 hnil3)
                  go_roundw
                  case rel =>
                    have hnb : ∀ j, (Value.slice ao D.length co).ownBlock = some j → w1.heap.size ≤ j := fun j e => HO.out.block j e
                    have hb3 : Below w1.heap.size w1 w3 := (HB.out.alloc (by omega) _).grown hgrow3 (by simp; omega) hnb
                    exact ⟨some i, lf - 1, D ++ [(i : Int)], by omega, rfl, by go_num, by simp; omega, HA2, HD3, HR0.out.below hb3, OwnI.snoc hown3, hb3⟩
                  case measure => simp [intOf]; omega
                | some p =>
                  have hp := HA.out.1
                  have hp0 : (0 : Int) ≤ (p : Int) := by omega
                  have hp1 : (p : Int) < (d.length : Int) := by omega
                  have hp2 : ¬ (p : Int) < 0 := by omega
                  have z1 := G1.out i hlt
                  have z2 := G1.out p hp
                  rw [atD_eq hlt] at z1
                  rw [atD_eq hp] at z2
                  obtain ⟨x, ex⟩ : ∃ x, x = atD d i := ⟨_, rfl⟩
                  obtain ⟨y, ey⟩ : ∃ y, y = atD d p := ⟨_, rfl⟩
                  rw [← ex] at z1
                  rw [← ey] at z2
                  have hlb := G1.out.lt (by intro e; subst e; simp at hlt)
                  have HLx : Hid (b1 < wr.heap.size ∧ wr.cell? ⟨b1, o1 + i, none⟩ = some (.int .i64 x)) := ⟨hlb, z1⟩
                  have HLy : Hid (b1 < wr.heap.size ∧ wr.cell? ⟨b1, o1 + p, none⟩ = some (.int .i64 y)) := ⟨hlb, z2⟩
                  have Hx := hide9 ex
                  have Hy := hide9 ey
                  clear z1 z2 hlb ex ey
                  simp only [lastI]
                  by_cases hxy : y < x
                  · have HFt : Hid (Fit d (some p) lf i) := ⟨by rw [← HEb.out]; exact hb, by (show atD d p < atD d i; rw [← Hx.out, ← Hy.out]; exact hxy)⟩
                    have HEq : Hid (bgA d i = lf) := HA.out.fit hlt hni HFt.out
                    have HA2 : Hid (Ahd d (some i) (lf - 1)) := Ahd.step hlt HEq.out
                    have HD3 : Hid ((D ++ [(i : Int)]) ++ rstL d (nxt (some i)) (lf - 1) = risL d) := (by show _ = _; have := HD.out; rw [rstL_yes hlt HEq.out] at this; simpa [nxt] using this)
                    have hs1 := HBb.out.size
                    clear HN HD HEq HFt
                    go_upto_region 13 with fail
                    refine wp_region_held_drew (S := fun W' => Below wr.heap.size wr W') (by kernel_rfl) (Below.refl _ _).drew (fun hHeld => ?_)
                    obtain ⟨Us2u0, eW⟩ : ∃ X, X = wr.drew := ⟨_, rfl⟩
                    have hb : Below wr.heap.size wr Us2u0 := by rw [eW]; exact (Below.refl _ _).drew
                    rw [← eW] at hHeld ⊢
                    clear eW hb
                    refine tkW 0 (some 34) (v := ?_) ?_ hHeld ?_
                    rotate_left
                    · (intro ww _; go_simp; try with_reducible rfl)
                    refine tkW 1 (some 35) (v := ?_) ?_ hHeld ?_
                    rotate_left
                    · (intro ww _; go_simp; try with_reducible rfl)
                    refine tkW 2 (some 36) (v := ?_) ?_ hHeld ?_
                    rotate_left
                    · (intro ww hSw; (try dsimp only at hSw); go_simp; try with_reducible rfl)
                    refine tkW 3 (some 37) (v := ?_) ?_ hHeld ?_
                    rotate_left
                    · (intro ww hSw; (try dsimp only at hSw); have c9 : ww.cell? ⟨gB, i, none⟩ = some (.int .i64 b) := (hSw.cell (p := ⟨gB, i, none⟩) HLb.out.1).trans HLb.out.2; go_simp; try with_reducible rfl)
                    refine tkW 4 (some 38) (v := ?_) ?_ hHeld ?_
                    rotate_left
                    · (intro ww _; go_simp; try with_reducible rfl)
                    refine tkW 5 (some 39) (v := ?_) ?_ hHeld ?_
                    rotate_left
                    · (intro ww hSw; (try dsimp only at hSw); go_simp; try with_reducible rfl)
                    refine tkW 6 (some 40) (v := ?_) ?_ hHeld ?_
                    rotate_left
                    · (intro ww _; go_simp; try with_reducible rfl)
                    refine tkW 7 (some 41) (v := ?_) ?_ hHeld ?_
                    rotate_left
                    · (intro ww _; go_simp; try with_reducible rfl)
                    refine tkW 8 (some 42) (v := ?_) ?_ hHeld ?_
                    rotate_left
                    · (intro ww hSw; (try dsimp only at hSw); go_simp; try with_reducible rfl)
                    refine tkW 9 (some 43) (v := ?_) ?_ hHeld ?_
                    rotate_left
                    · (intro ww _; go_simp; try with_reducible rfl)
                    refine tkW 10 (some 44) (v := ?_) ?_ hHeld ?_
                    rotate_left
                    · (intro ww _; go_simp; try with_reducible rfl)
                    refine tkW 11 (some 45) (v := ?_) ?_ hHeld ?_
                    rotate_left
                    · (intro ww _; go_simp; try with_reducible rfl)
                    refine tkW 12 (some 46) (v := ?_) ?_ hHeld ?_
                    rotate_left
                    · (intro ww hSw; (try dsimp only at hSw); go_simp; try with_reducible rfl)
                    refine tkW 13 (some 47) (v := ?_) ?_ hHeld ?_
                    rotate_left
                    · (intro ww hSw; (try dsimp only at hSw); have c9 : ww.cell? ⟨b1, o1 + i, none⟩ = some (.int .i64 x) := (hSw.cell (p := ⟨b1, o1 + i, none⟩) HLx.out.1).trans HLx.out.2; go_simp; try with_reducible rfl)
                    refine tkW 14 (some 48) (v := ?_) ?_ hHeld ?_
                    rotate_left
                    · (intro ww _; go_simp; try with_reducible rfl)
                    refine tkW 15 (some 49) (v := ?_) ?_ hHeld ?_
                    rotate_left
                    · (intro ww _; go_simp; try with_reducible rfl)
                    refine tkW 16 (some 50) (v := ?_) ?_ hHeld ?_
                    rotate_left
                    · (intro ww hSw; (try dsimp only at hSw); go_simp; try with_reducible rfl)
                    refine tkW 17 (some 51) (v := ?_) ?_ hHeld ?_
                    rotate_left
                    · (intro ww hSw; (try dsimp only at hSw); have c9 : ww.cell? ⟨b1, o1 + p, none⟩ = some (.int .i64 y) := (hSw.cell (p := ⟨b1, o1 + p, none⟩) HLy.out.1).trans HLy.out.2; go_simp; try with_reducible rfl)
                    refine tkW 18 (some 52) (v := ?_) ?_ hHeld ?_
                    rotate_left
                    · (intro ww hSw; (try dsimp only at hSw); go_simp; try with_reducible rfl)
                    refine tkW 19 (some 53) (v := ?_) ?_ hHeld ?_
                    rotate_left
                    · (intro ww _; go_simp; try with_reducible rfl)
                    refine tkW 20 (some 54) (v := ?_) ?_ hHeld ?_
                    rotate_left
                    · (intro ww _; go_simp; try with_reducible rfl)
                    refine wpAnyH_done (by kernel_rfl) ?_ _
                    have HB := hide9 (HB.out.trans (hHeld.mono HB.out.size))
                    have HO := hide9 (HO.out.below hHeld)
                    have HR := hide9 (HR.out.below hHeld)
                    have hsz := HB.out.size
                    clear hHeld
                    go_wp2_with (at_builtin; refine wpList_append_own _ rfl _ _ 22 rfl w1.heap.size 3 i0 (.int .i64 0) 1 8 Try.underlying22 hi hz0 hz1 hz2 rfl (by decide) _ _ _ rfl (World.ownsRow.alloc HO.out _) ⟨Us2u0.heap.size, 0, none⟩ 1 1 [.int .i64 (i : Int)] rfl rfl (cell_one_new _ _ _) (fun x hx => by simp at hx; subst hx; rfl) (by unfold maxLen; omega) (by omega) (by simp; omega) ?_; intro v3 w3 hown3 hgrow3 hnil3)
                    go_roundw
                    case rel =>
                      have hnb : ∀ j, (Value.slice ao D.length co).ownBlock = some j → w1.heap.size ≤ j := fun j e => HO.out.block j e
                      have hb3 : Below w1.heap.size w1 w3 := (HB.out.alloc (by omega) _).grown hgrow3 (by simp; omega) hnb
                      exact ⟨some i, lf - 1, D ++ [(i : Int)], by omega, rfl, by go_num, by simp; omega, HA2, HD3, HR0.out.below hb3, OwnI.snoc hown3, hb3⟩
                    case measure => simp [intOf]; omega
                  · have HNo : Hid (¬ Fit d (some p) lf i) := fun hf => hxy (by have h2 : atD d p < atD d i := hf.2; rw [← Hx.out, ← Hy.out] at h2; exact h2)
                    have HNe : Hid (bgA d i ≠ lf) := fun e => HNo.out (HA.out.first hl0 hlt hni HN.out e)
                    have HN2 : Hid (∀ k, nxt (some p) ≤ k → k < i + 1 → ¬ Fit d (some p) lf k) := fun k h1 h2 hf => (by
                      rcases Nat.lt_or_ge k i with h3 | h3
                      · exact HN.out k h1 h3 hf
                      · obtain rfl : k = i := by omega
                        exact HNo.out hf)
                    have HD2 : Hid (D ++ rstL d (i + 1) lf = risL d) := (by show _ = _; rw [← rstL_no hlt HNe.out]; exact HD.out)
                    clear HN HD HNo HNe
                    go_upto_region 13 with fail
                    refine wp_region_held_drew (S := fun W' => Below wr.heap.size wr W') (by kernel_rfl) (Below.refl _ _).drew (fun hHeld => ?_)
                    obtain ⟨Ut3u0, eW⟩ : ∃ X, X = wr.drew := ⟨_, rfl⟩
                    have hb : Below wr.heap.size wr Ut3u0 := by rw [eW]; exact (Below.refl _ _).drew
                    rw [← eW] at hHeld ⊢
                    clear eW hb
                    refine tkW 0 (some 34) (v := ?_) ?_ hHeld ?_
                    rotate_left
                    · (intro ww _; go_simp; try with_reducible rfl)
                    refine tkW 1 (some 35) (v := ?_) ?_ hHeld ?_
                    rotate_left
                    · (intro ww _; go_simp; try with_reducible rfl)
                    refine tkW 2 (some 36) (v := ?_) ?_ hHeld ?_
                    rotate_left
                    · (intro ww hSw; (try dsimp only at hSw); go_simp; try with_reducible rfl)
                    refine tkW 3 (some 37) (v := ?_) ?_ hHeld ?_
                    rotate_left
                    · (intro ww hSw; (try dsimp only at hSw); have c9 : ww.cell? ⟨gB, i, none⟩ = some (.int .i64 b) := (hSw.cell (p := ⟨gB, i, none⟩) HLb.out.1).trans HLb.out.2; go_simp; try with_reducible rfl)
                    refine tkW 4 (some 38) (v := ?_) ?_ hHeld ?_
                    rotate_left
                    · (intro ww _; go_simp; try with_reducible rfl)
                    refine tkW 5 (some 39) (v := ?_) ?_ hHeld ?_
                    rotate_left
                    · (intro ww hSw; (try dsimp only at hSw); go_simp; try with_reducible rfl)
                    refine tkW 6 (some 40) (v := ?_) ?_ hHeld ?_
                    rotate_left
                    · (intro ww _; go_simp; try with_reducible rfl)
                    refine tkW 7 (some 41) (v := ?_) ?_ hHeld ?_
                    rotate_left
                    · (intro ww _; go_simp; try with_reducible rfl)
                    refine tkW 8 (some 42) (v := ?_) ?_ hHeld ?_
                    rotate_left
                    · (intro ww hSw; (try dsimp only at hSw); go_simp; try with_reducible rfl)
                    refine tkW 9 (some 43) (v := ?_) ?_ hHeld ?_
                    rotate_left
                    · (intro ww _; go_simp; try with_reducible rfl)
                    refine tkW 10 (some 44) (v := ?_) ?_ hHeld ?_
                    rotate_left
                    · (intro ww _; go_simp; try with_reducible rfl)
                    refine tkW 11 (some 45) (v := ?_) ?_ hHeld ?_
                    rotate_left
                    · (intro ww _; go_simp; try with_reducible rfl)
                    refine tkW 12 (some 46) (v := ?_) ?_ hHeld ?_
                    rotate_left
                    · (intro ww hSw; (try dsimp only at hSw); go_simp; try with_reducible rfl)
                    refine tkW 13 (some 47) (v := ?_) ?_ hHeld ?_
                    rotate_left
                    · (intro ww hSw; (try dsimp only at hSw); have c9 : ww.cell? ⟨b1, o1 + i, none⟩ = some (.int .i64 x) := (hSw.cell (p := ⟨b1, o1 + i, none⟩) HLx.out.1).trans HLx.out.2; go_simp; try with_reducible rfl)
                    refine tkW 14 (some 48) (v := ?_) ?_ hHeld ?_
                    rotate_left
                    · (intro ww _; go_simp; try with_reducible rfl)
                    refine tkW 15 (some 49) (v := ?_) ?_ hHeld ?_
                    rotate_left
                    · (intro ww _; go_simp; try with_reducible rfl)
                    refine tkW 16 (some 50) (v := ?_) ?_ hHeld ?_
                    rotate_left
                    · (intro ww hSw; (try dsimp only at hSw); go_simp; try with_reducible rfl)
                    refine tkW 17 (some 51) (v := ?_) ?_ hHeld ?_
                    rotate_left
                    · (intro ww hSw; (try dsimp only at hSw); have c9 : ww.cell? ⟨b1, o1 + p, none⟩ = some (.int .i64 y) := (hSw.cell (p := ⟨b1, o1 + p, none⟩) HLy.out.1).trans HLy.out.2; go_simp; try with_reducible rfl)
                    refine tkW 18 (some 52) (v := ?_) ?_ hHeld ?_
                    rotate_left
                    · (intro ww hSw; (try dsimp only at hSw); go_simp; try with_reducible rfl)
                    refine tkW 19 (some 53) (v := ?_) ?_ hHeld ?_
                    rotate_left
                    · (intro ww _; go_simp; try with_reducible rfl)
                    refine tkW 20 (some 54) (v := ?_) ?_ hHeld ?_
                    rotate_left
                    · (intro ww _; go_simp; try with_reducible rfl)
                    refine wpAnyH_done (by kernel_rfl) ?_ _
                    have HB := hide9 (HB.out.trans (hHeld.mono HB.out.size))
                    have HO := hide9 (HO.out.below hHeld)
                    have HR := hide9 (HR.out.below hHeld)
                    have hsz := HB.out.size
                    clear hHeld
                    go_wp2
                    go_roundw
                    case rel => exact ⟨i + 1, by omega, by omega, by go_num, rfl, rfl, HN2, HD2, HR, HO, HB⟩
                    case measure => simp [intOf]; omega
              · have HNo : Hid (¬ Fit d l lf i) := fun hf => hb (by rw [HEb.out]; exact hf.1)
                have HNe : Hid (bgA d i ≠ lf) := fun e => hb (by rw [HEb.out, e]; exact Int.le_refl _)
                have HN2 : Hid (∀ k, nxt l ≤ k → k < i + 1 → ¬ Fit d l lf k) := fun k h1 h2 hf => (by
                  rcases Nat.lt_or_ge k i with h3 | h3
                  · exact HN.out k h1 h3 hf
                  · obtain rfl : k = i := by omega
                    exact HNo.out hf)
                have HD2 : Hid (D ++ rstL d (i + 1) lf = risL d) := (by show _ = _; rw [← rstL_no hlt HNe.out]; exact HD.out)
                clear HN HD HNo HNe
                go_upto_region 13 with fail
                refine wp_region_held_drew (S := fun W' => Below wr.heap.size wr W') (by kernel_rfl) (Below.refl _ _).drew (fun hHeld => ?_)
                obtain ⟨Uu4u0, eW⟩ : ∃ X, X = wr.drew := ⟨_, rfl⟩
                have hb : Below wr.heap.size wr Uu4u0 := by rw [eW]; exact (Below.refl _ _).drew
                rw [← eW] at hHeld ⊢
                clear eW hb
                refine tkW 0 (some 34) (v := ?_) ?_ hHeld ?_
                rotate_left
                · (intro ww _; go_simp; try with_reducible rfl)
                refine tkW 1 (some 35) (v := ?_) ?_ hHeld ?_
                rotate_left
                · (intro ww _; go_simp; try with_reducible rfl)
                refine tkW 2 (some 36) (v := ?_) ?_ hHeld ?_
                rotate_left
                · (intro ww hSw; (try dsimp only at hSw); go_simp; try with_reducible rfl)
                refine tkW 3 (some 37) (v := ?_) ?_ hHeld ?_
                rotate_left
                · (intro ww hSw; (try dsimp only at hSw); have c9 : ww.cell? ⟨gB, i, none⟩ = some (.int .i64 b) := (hSw.cell (p := ⟨gB, i, none⟩) HLb.out.1).trans HLb.out.2; go_simp; try with_reducible rfl)
                refine tkW 4 (some 38) (v := ?_) ?_ hHeld ?_
                rotate_left
                · (intro ww _; go_simp; try with_reducible rfl)
                refine tkW 5 (some 39) (v := ?_) ?_ hHeld ?_
                rotate_left
                · (intro ww hSw; (try dsimp only at hSw); go_simp; try with_reducible rfl)
                refine tkW 6 (some 40) (v := ?_) ?_ hHeld ?_
                rotate_left
                · (intro ww _; go_simp; try with_reducible rfl)
                refine tkU 7 (some 41) hHeld ?_
                refine tkU 8 (some 42) hHeld ?_
                refine tkU 9 (some 43) hHeld ?_
                refine tkU 10 (some 44) hHeld ?_
                refine tkU 11 (some 45) hHeld ?_
                refine tkU 12 (some 46) hHeld ?_
                refine tkU 13 (some 47) hHeld ?_
                refine tkU 14 (some 48) hHeld ?_
                refine tkU 15 (some 49) hHeld ?_
                refine tkU 16 (some 50) hHeld ?_
                refine tkU 17 (some 51) hHeld ?_
                refine tkU 18 (some 52) hHeld ?_
                refine tkU 19 (some 53) hHeld ?_
                refine tkW 20 (some 54) (v := ?_) ?_ hHeld ?_
                rotate_left
                · (intro ww _; go_simp; try with_reducible rfl)
                refine wpAnyH_done (by kernel_rfl) ?_ _
                have HB := hide9 (HB.out.trans (hHeld.mono HB.out.size))
                have HO := hide9 (HO.out.below hHeld)
                have HR := hide9 (HR.out.below hHeld)
                have hsz := HB.out.size
                clear hHeld
                go_wp2
                go_roundw
                case rel => exact ⟨i + 1, by omega, by omega, by go_num, rfl, rfl, HN2, HD2, HR, HO, HB⟩
                case measure => simp [intOf]; omega
            · exfalso
              obtain ⟨j, h1, h2, h3, h4⟩ := HA.out.some hl0
              exact HN.out j h1 (by omega) ⟨by omega, h3⟩
        · obtain rfl : lf = 0 := by omega
          have HE : Hid (D = risL d) := (by show _ = _; have := HD.out; rw [rstL_none] at this; simpa using this)
          have hs := HBb.out.size
          go_wp2
          go_ret
          exact ⟨_, rfl, by rw [← HE.out]; exact ⟨HO.out.1, HO.out.2.imp id fun ⟨g2, c2, cur, hv, hg2, rest⟩ => ⟨g2, c2, cur, hv, by omega, rest⟩⟩, HBb.out.trans (HB.out.mono hs)⟩

end Go.Proofs.Ytjnccmkhhnaaiaa
