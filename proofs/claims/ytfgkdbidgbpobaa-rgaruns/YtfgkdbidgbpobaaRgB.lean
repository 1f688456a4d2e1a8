/- What slices.BinarySearchFunc does with stamps that rise. -/
import Derived.Test.YtfgkdbidgbpobaaFlS
namespace Go.Proofs.Ytfgkdbidgbpobaa
open Go.RowKit
set_option linter.unusedVariables false
set_option linter.unusedSimpArgs false

theorem cmpM_any (x : St) (c r : Int) (w : World) : Calls Try.prog 37 #[.agg (stCells x).toArray, .agg #[.int .i64 c, .int .i64 r]] w fun e w' => e = .returned (.int .i64 (cmpS x.1 x.2 c r)) ∧ Below w.heap.size w w' := compare_any x.1 x.2 c r w

theorem cmpS_zero (c r c2 r2 : Int) : (cmpS c r c2 r2 == 0) = decide ((c, r) = (c2, r2)) := by
  unfold cmpS
  rw [Bool.eq_iff_iff]
  simp only [beq_iff_eq, decide_eq_true_eq, Prod.mk.injEq]
  split <;> (try split) <;> (try split) <;> (try split) <;> omega
/-- What a search answers. -/
def SearchP (R : List St) (c r : Int) (w : World) (e : Ending) (w' : World) : Prop := ∃ (i : Nat) (b : Bool), e = .returned (.tuple #[.int .i64 (i : Int), .bool b]) ∧ PlcS R (c, r) i ∧ b = hasS R (c, r) ∧ Below w.heap.size w w'
theorem plc_of {R : List St} {t : St} {i : Nat} (h : i ≤ R.length) (h1 : ∀ j (h : j < R.length), j < i → ltS R[j] t = true) (h2 : ∀ j (h : j < R.length), i ≤ j → ltS R[j] t = false) : PlcS R t i := ⟨h, h1, h2⟩

set_option maxRecDepth 100000 in
set_option maxHeartbeats 4000000 in
theorem search_any (v : Value) (R : List St) (c r : Int) (w : World) (h : OwnSt 0 w v R) (hl : R.length ≤ 4096) (hs : SrtS R) :
    Calls Try.prog 36 #[v, .agg #[.int .i64 c, .int .i64 r], .func (.func 37) #[] #[]] w fun e w' => SearchP R c r w e w' := by
  have HSr : Hid (SrtS R) := hs
  have HS : Hid (∀ i j (hi : i < R.length) (hj : j < R.length), i < j → ltS R[i] R[j] = true) := fun i j hi hj hij => hs.lt hi hj hij
  obtain ⟨a0, c0, e0⟩ := h.form
  subst e0
  obtain ⟨W0, eW⟩ : ∃ X, X = w.alloc (.cells #[.int .i64 c, .int .i64 r] 33) := ⟨_, rfl⟩
  have hb0 : Below w.heap.size w W0 := by rw [eW]; exact (Below.refl _ _).alloc (Nat.le_refl _) _
  have hnew : W0.heap[w.heap.size]? = some (.cells #[.int .i64 c, .int .i64 r] 33) := by rw [eW]; exact heap_alloc_new _ _
  have HB0 : Hid (W0.cell? ⟨w.heap.size, 0, none⟩ = some (.int .i64 c)) := by (show _ = _; rw [cell_of_row W0 _ 0 _ _ _ hnew]; rfl)
  have HB1 : Hid (W0.cell? ⟨w.heap.size, 1, none⟩ = some (.int .i64 r)) := by (show _ = _; rw [cell_of_row W0 _ 1 _ _ _ hnew]; rfl)
  have HBl : Hid (w.heap.size < W0.heap.size) := row_lt hnew
  have HO : Hid (OwnSt 0 W0 (.slice a0 R.length c0) R) := h.below hb0
  have HBe : Hid (Below w.heap.size w W0) := hb0
  clear h hs hb0 hnew
  go_enter Try.func36, Try.ntmps36
  go_wp2
  rw [← eW]
  clear eW
  go_loopw [9, 10] (fun iv jv wr => ∃ lo hi : Nat, iv = .int .i64 (lo : Int) ∧ jv = .int .i64 (hi : Int) ∧ lo ≤ hi ∧ hi ≤ R.length ∧ Hid (∀ j (h : j < R.length), j < lo → ltS R[j] (c, r) = true) ∧ Hid (∀ j (h : j < R.length), hi ≤ j → ltS R[j] (c, r) = false) ∧ Hid (Below W0.heap.size W0 wr)) (fun iv jv _ => (intOf jv).toNat - (intOf iv).toNat)
  case atStart => exact ⟨0, R.length, rfl, rfl, Nat.zero_le _, Nat.le_refl _, fun j _ h => absurd h (Nat.not_lt_zero _), fun j h1 h2 => absurd h1 (by omega), Below.refl _ _⟩
  case round =>
    obtain ⟨lo, hi, rfl, rfl, hlh, hhl, H1, H2, HK⟩ := hrel
    by_cases hlt : lo < hi
    · have k1 : (lo : Int) < (hi : Int) := by omega
      obtain ⟨m, hm⟩ : ∃ m : Nat, m = (lo + hi) / 2 := ⟨_, rfl⟩
      have hmd : m < R.length := by omega
      have hm1 : lo ≤ m := by omega
      have hm2 : m < hi := by omega
      have HM : Hid (((lo : Int) + (hi : Int)) / 2 = (m : Int)) := by show _ = _; omega
      clear hm
      obtain ⟨g, cap, ev, hcap, hrange, hfz⟩ := HO.out.cells stCells_len hmd
      cases ev
      obtain ⟨x, hx⟩ : ∃ x, x = R[m] := ⟨_, rfl⟩
      rw [← hx] at hrange
      have HX : Hid (W0.rangeAt g (m * 2) (stCells x)) := hrange
      have HGl : Hid (g < W0.heap.size) := (HO.out.lt g rfl).2
      have HL : Hid (ltS R[m] (c, r) = ltS x (c, r)) := by rw [hx]; exact rfl
      obtain ⟨cv, hcv⟩ : ∃ cv, cv = cmpS x.1 x.2 c r := ⟨_, rfl⟩
      have HC : Hid (decide (cv < 0) = ltS x (c, r)) := by rw [hcv]; exact lessS_cmp x.1 x.2 c r
      clear hx hrange hfz hcap
      have km : (m : Int) < (R.length : Int) := by omega
      have km0 : (0 : Int) ≤ (m : Int) := by omega
      go_wp2
      rw [HM.out]
      clear HM
      refine wp_region_held_drew (S := fun W' => Below W0.heap.size W0 W') (by kernel_rfl) HK.out.drew (fun hHeld => ?_)
      obtain ⟨Ua1u0, eW⟩ : ∃ X, X = wr.drew := ⟨_, rfl⟩
      have hb : Below wr.heap.size wr Ua1u0 := by rw [eW]; exact (Below.refl _ _).drew
      rw [← eW] at hHeld ⊢
      clear eW hb
      refine tkW 0 (some 24) (v := ?_) ?_ hHeld ?_
      rotate_left
      · (intro ww _; go_simp; try with_reducible rfl)
      refine tkW 1 (some 25) (v := ?_) ?_ hHeld ?_
      rotate_left
      · (intro ww _; go_simp; try with_reducible rfl)
      refine tkW 2 (some 26) (v := ?_) ?_ hHeld ?_
      rotate_left
      · (intro ww _; go_simp; try with_reducible rfl)
      refine tkW 3 (some 27) (v := ?_) ?_ hHeld ?_
      rotate_left
      · (intro ww hSw; (try dsimp only at hSw); have hbw := hSw; have k0 := (hbw.cell (p := ⟨w.heap.size, 0, none⟩) HBl.out).trans HB0.out; have k1 := (hbw.cell (p := ⟨w.heap.size, 1, none⟩) HBl.out).trans HB1.out; go_simp; try with_reducible rfl)
      refine wpAnyH_take (i := 4) (oi := ⟨some 28, _, _, _, _, _⟩) (v := .agg (stCells x).toArray) rfl (by kernel_rfl) (by kernel_rfl) (by kernel_rfl) (fun _ _ _ h => h) (yieldsIf_load_mid (by rfl) 33 (.tmp 27) rfl g (m * 2) rfl (stCells x) _ (fun W hS => rangeAt_keep HX.out (hS.block _ HGl.out)) Try.underlying33 rfl sizeStamp) hHeld ?_
      simp only [Act.put, List.setIfInBounds_toArray, List.set_cons_zero, List.set_cons_succ]
      refine tkW 5 (some 29) (v := ?_) ?_ hHeld ?_
      rotate_left
      · (intro ww hSw; (try dsimp only at hSw); have hbw := hSw; have k0 := (hbw.cell (p := ⟨w.heap.size, 0, none⟩) HBl.out).trans HB0.out; have k1 := (hbw.cell (p := ⟨w.heap.size, 1, none⟩) HBl.out).trans HB1.out; go_simp; try with_reducible rfl)
      refine wpAnyH_ready (rs := [6]) (by kernel_rfl) (by simp) ?_
      refine AllReadyH.cons (o := ⟨some 30, _, _, _, _, _⟩) rfl (fun K hK => ?_) AllReadyH.nil
      go_simp
      refine (cmpM_any x c r _).mono ?_
      rintro e Ua1u1 ⟨ecv, hb⟩
      rw [← hcv] at ecv
      subst ecv
      (try go_wp2_with fail)
      refine hK.out _ _ (hHeld.trans (hb.mono hHeld.size)) (fun hHeld2 => ?_)
      clear hK K hHeld
      have hHeld := hHeld2
      clear hHeld2
      (try simp only [Act.put, List.setIfInBounds_toArray, List.set_cons_zero, List.set_cons_succ])
      clear hb
      refine tkW 7 (some 31) (v := ?_) ?_ hHeld ?_
      rotate_left
      · (intro ww hSw; (try dsimp only at hSw); have hbw := hSw; have k0 := (hbw.cell (p := ⟨w.heap.size, 0, none⟩) HBl.out).trans HB0.out; have k1 := (hbw.cell (p := ⟨w.heap.size, 1, none⟩) HBl.out).trans HB1.out; go_simp; try with_reducible rfl)
      refine wpAnyH_done (by kernel_rfl) ?_ _
      have HK1 : Hid (Below W0.heap.size W0 Ua1u1) := hHeld
      clear hHeld
      by_cases hc : cv < 0
      · have hcd : decide (cv < 0) = true := by simp [hc]
        have H1b : Hid (∀ j (h : j < R.length), j < m + 1 → ltS R[j] (c, r) = true) := fun j hj hjm => by
          have hmt : ltS R[m] (c, r) = true := by rw [HL.out, ← HC.out, hcd]
          rcases Nat.lt_or_ge j m with h' | h'
          · exact ltS_trans (HS.out j m hj hmd h') hmt
          · obtain rfl : j = m := by omega
            exact hmt
        clear hcd
        go_wp2
        go_roundw
        case rel => exact ⟨m + 1, hi, by first | rfl | go_num, rfl, by omega, by omega, H1b, H2, HK1⟩
        case measure => simp [intOf]; omega
      · have hcd : decide (cv < 0) = false := by simp [hc]
        have H2b : Hid (∀ j (h : j < R.length), m ≤ j → ltS R[j] (c, r) = false) := fun j hj hjm => by
          have hmt : ltS R[m] (c, r) = false := by rw [HL.out, ← HC.out, hcd]
          rcases Nat.lt_or_ge m j with h' | h'
          · cases hx : ltS R[j] (c, r) with
            | false => rfl
            | true => rw [ltS_trans (HS.out m j hmd hj h') hx] at hmt; cases hmt
          · obtain rfl : j = m := by omega
            exact hmt
        clear hcd
        go_wp2
        go_roundw
        case rel => exact ⟨lo, m, rfl, by first | rfl | go_num, by omega, by omega, H1, H2b, HK1⟩
        case measure => simp [intOf]; omega
    · obtain rfl : hi = lo := by omega
      have HPl : Hid (PlcS R (c, r) hi) := plc_of hhl H1.out H2.out
      clear hlt hlh
      by_cases hn : hi < R.length
      · have hid := hn
        obtain ⟨g, cap, ev, hcap, hrange, hfz⟩ := HO.out.cells stCells_len hid
        cases ev
        obtain ⟨x, hx⟩ : ∃ x, x = R[hi] := ⟨_, rfl⟩
        rw [← hx] at hrange
        have HX : Hid (W0.rangeAt g (hi * 2) (stCells x)) := hrange
        have HGl : Hid (g < W0.heap.size) := (HO.out.lt g rfl).2
        have HL : Hid (ltS R[hi] (c, r) = ltS x (c, r)) := by rw [hx]; exact rfl
        obtain ⟨cv, hcv⟩ : ∃ cv, cv = cmpS x.1 x.2 c r := ⟨_, rfl⟩
        have HC : Hid (decide (cv < 0) = ltS x (c, r)) := by rw [hcv]; exact lessS_cmp x.1 x.2 c r
        have HEq : Hid ((cv == 0) = decide (∃ h : hi < R.length, R[hi] = (c, r))) := by
          show _ = _
          rw [hcv, cmpS_zero]
          exact decide_eq_decide.2 ⟨fun e => ⟨by simpa using hn, by rw [← hx]; exact e⟩, fun ⟨_, e⟩ => by rw [← hx] at e; exact e⟩
        clear hx hrange hfz hcap
        have km : (hi : Int) < (R.length : Int) := by omega
        have km0 : (0 : Int) ≤ (hi : Int) := by omega
        have kmd : decide ((hi : Int) < (R.length : Int)) = true := by simp [hn]
        go_wp2
        refine wp_region_held_drew (S := fun W' => Below W0.heap.size W0 W') (by kernel_rfl) HK.out.drew (fun hHeld => ?_)
        obtain ⟨Ub2u0, eW⟩ : ∃ X, X = wr.drew := ⟨_, rfl⟩
        have hb : Below wr.heap.size wr Ub2u0 := by rw [eW]; exact (Below.refl _ _).drew
        rw [← eW] at hHeld ⊢
        clear eW hb
        refine tkW 0 (some 35) (v := ?_) ?_ hHeld ?_
        rotate_left
        · (intro ww _; go_simp; try with_reducible rfl)
        refine tkW 1 (some 36) (v := ?_) ?_ hHeld ?_
        rotate_left
        · (intro ww _; go_simp; try with_reducible rfl)
        refine tkW 2 (some 37) (v := ?_) ?_ hHeld ?_
        rotate_left
        · (intro ww _; go_simp; try with_reducible rfl)
        refine tkW 3 (some 38) (v := .bool true) ?_ hHeld ?_
        · (intro ww hSw; (try dsimp only at hSw); have hbw := hSw; have k0 := (hbw.cell (p := ⟨w.heap.size, 0, none⟩) HBl.out).trans HB0.out; have k1 := (hbw.cell (p := ⟨w.heap.size, 1, none⟩) HBl.out).trans HB1.out; go_simp; try simp [hn])
        refine tkW 4 (some 39) (v := ?_) ?_ hHeld ?_
        rotate_left
        · (intro ww _; go_simp; try with_reducible rfl)
        refine tkW 5 (some 40) (v := ?_) ?_ hHeld ?_
        rotate_left
        · (intro ww _; go_simp; try with_reducible rfl)
        refine tkW 6 (some 41) (v := ?_) ?_ hHeld ?_
        rotate_left
        · (intro ww _; go_simp; try with_reducible rfl)
        refine tkW 7 (some 42) (v := ?_) ?_ hHeld ?_
        rotate_left
        · (intro ww _; go_simp; try with_reducible rfl)
        refine tkW 8 (some 43) (v := ?_) ?_ hHeld ?_
        rotate_left
        · (intro ww hSw; (try dsimp only at hSw); have hbw := hSw; have k0 := (hbw.cell (p := ⟨w.heap.size, 0, none⟩) HBl.out).trans HB0.out; have k1 := (hbw.cell (p := ⟨w.heap.size, 1, none⟩) HBl.out).trans HB1.out; go_simp; try with_reducible rfl)
        refine wpAnyH_take (i := 9) (oi := ⟨some 44, _, _, _, _, _⟩) (v := .agg (stCells x).toArray) rfl (by kernel_rfl) (by kernel_rfl) (by kernel_rfl) (fun _ _ _ h => h) (yieldsIf_load_mid (by rfl) 33 (.tmp 43) rfl g (hi * 2) rfl (stCells x) _ (fun W hS => rangeAt_keep HX.out (hS.block _ HGl.out)) Try.underlying33 rfl sizeStamp) hHeld ?_
        simp only [Act.put, List.setIfInBounds_toArray, List.set_cons_zero, List.set_cons_succ]
        refine tkW 10 (some 45) (v := ?_) ?_ hHeld ?_
        rotate_left
        · (intro ww hSw; (try dsimp only at hSw); have hbw := hSw; have k0 := (hbw.cell (p := ⟨w.heap.size, 0, none⟩) HBl.out).trans HB0.out; have k1 := (hbw.cell (p := ⟨w.heap.size, 1, none⟩) HBl.out).trans HB1.out; go_simp; try with_reducible rfl)
        refine wpAnyH_ready (rs := [11]) (by kernel_rfl) (by simp) ?_
        refine AllReadyH.cons (o := ⟨some 46, _, _, _, _, _⟩) rfl (fun K hK => ?_) AllReadyH.nil
        go_simp
        refine (cmpM_any x c r _).mono ?_
        rintro e Ub2u1 ⟨ecv, hb⟩
        rw [← hcv] at ecv
        subst ecv
        (try go_wp2_with fail)
        refine hK.out _ _ (hHeld.trans (hb.mono hHeld.size)) (fun hHeld2 => ?_)
        clear hK K hHeld
        have hHeld := hHeld2
        clear hHeld2
        (try simp only [Act.put, List.setIfInBounds_toArray, List.set_cons_zero, List.set_cons_succ])
        clear hb
        refine tkW 12 (some 47) (v := ?_) ?_ hHeld ?_
        rotate_left
        · (intro ww hSw; (try dsimp only at hSw); have hbw := hSw; have k0 := (hbw.cell (p := ⟨w.heap.size, 0, none⟩) HBl.out).trans HB0.out; have k1 := (hbw.cell (p := ⟨w.heap.size, 1, none⟩) HBl.out).trans HB1.out; go_simp; try with_reducible rfl)
        refine tkW 13 (some 48) (v := ?_) ?_ hHeld ?_
        rotate_left
        · (intro ww _; go_simp; try with_reducible rfl)
        refine tkW 14 (some 6) (v := ?_) ?_ hHeld ?_
        rotate_left
        · (intro ww _; go_simp; try with_reducible rfl)
        refine tkW 15 (some 7) (v := ?_) ?_ hHeld ?_
        rotate_left
        · (intro ww _; go_simp; try with_reducible rfl)
        refine wpAnyH_done (by kernel_rfl) ?_ _
        have HK1 : Hid (Below W0.heap.size W0 Ub2u1) := hHeld
        clear hHeld
        go_wp2
        go_ret2
        refine ⟨hi, _, rfl, HPl.out, ?_, HBe.out.trans (HK1.out.mono HBe.out.size)⟩
        rw [HPl.out.has HSr.out, ← hcv]
        exact HEq.out
      · have HEq : Hid (false = decide (∃ h : hi < R.length, R[hi] = (c, r))) := (decide_eq_false (fun ⟨h, _⟩ => hn (by simpa using h))).symm
        have kmd : decide ((hi : Int) < (R.length : Int)) = false := by simp; omega
        have kmn : decide (hi < R.length) = false := by simp; omega
        go_wp2
        refine wp_region_held_drew (S := fun W' => Below W0.heap.size W0 W') (by kernel_rfl) HK.out.drew (fun hHeld => ?_)
        obtain ⟨Uc3u0, eW⟩ : ∃ X, X = wr.drew := ⟨_, rfl⟩
        have hb : Below wr.heap.size wr Uc3u0 := by rw [eW]; exact (Below.refl _ _).drew
        rw [← eW] at hHeld ⊢
        clear eW hb
        refine tkW 0 (some 35) (v := ?_) ?_ hHeld ?_
        rotate_left
        · (intro ww _; go_simp; try with_reducible rfl)
        refine tkW 1 (some 36) (v := ?_) ?_ hHeld ?_
        rotate_left
        · (intro ww _; go_simp; try with_reducible rfl)
        refine tkW 2 (some 37) (v := ?_) ?_ hHeld ?_
        rotate_left
        · (intro ww _; go_simp; try with_reducible rfl)
        refine tkW 3 (some 38) (v := .bool false) ?_ hHeld ?_
        · (intro ww hSw; (try dsimp only at hSw); have hbw := hSw; have k0 := (hbw.cell (p := ⟨w.heap.size, 0, none⟩) HBl.out).trans HB0.out; have k1 := (hbw.cell (p := ⟨w.heap.size, 1, none⟩) HBl.out).trans HB1.out; go_simp; try (simp; omega))
        refine tkW 4 (some 39) (v := ?_) ?_ hHeld ?_
        rotate_left
        · (intro ww _; go_simp; try with_reducible rfl)
        refine tkU 5 (some 40) hHeld ?_
        refine tkU 6 (some 41) hHeld ?_
        refine tkU 7 (some 42) hHeld ?_
        refine tkU 8 (some 43) hHeld ?_
        refine tkU 9 (some 44) hHeld ?_
        refine tkU 10 (some 45) hHeld ?_
        refine tkU 11 (some 46) hHeld ?_
        refine tkU 12 (some 47) hHeld ?_
        refine tkW 13 (some 48) (v := ?_) ?_ hHeld ?_
        rotate_left
        · (intro ww _; go_simp; try with_reducible rfl)
        refine tkW 14 (some 6) (v := ?_) ?_ hHeld ?_
        rotate_left
        · (intro ww _; go_simp; try with_reducible rfl)
        refine tkW 15 (some 7) (v := ?_) ?_ hHeld ?_
        rotate_left
        · (intro ww _; go_simp; try with_reducible rfl)
        refine wpAnyH_done (by kernel_rfl) ?_ _
        have HK1 : Hid (Below W0.heap.size W0 Uc3u0) := hHeld
        clear hHeld
        go_wp2
        go_ret2
        refine ⟨hi, _, rfl, HPl.out, ?_, HBe.out.trans (HK1.out.mono HBe.out.size)⟩
        rw [HPl.out.has HSr.out]
        exact HEq.out

end Go.Proofs.Ytfgkdbidgbpobaa
