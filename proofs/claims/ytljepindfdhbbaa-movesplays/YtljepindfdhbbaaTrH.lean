/- What find does: slices.BinarySearchFunc over the list. -/
import Derived.Test.YtljepindfdhbbaaTrG
import Derived.Test.YtljepindfdhbbaaWalksD
namespace Go.Proofs.Ytljepindfdhbbaa
open Go.RowKit
set_option linter.unusedVariables false
set_option linter.unusedSimpArgs false

set_option maxHeartbeats 1000000 in
theorem cmpM_any (x : Rw) (c r : Int) (w : World) :
    Calls Try.prog 52 #[.agg (rwCells x).toArray, .agg #[.int .i64 c, .int .i64 r]] w fun e w' => e = .returned (.int .i64 (cmpS x.m.ts.1 x.m.ts.2 c r)) ∧ Below w.heap.size w w' := by
  obtain ⟨W0, eW⟩ : ∃ X, X = (w.alloc (.cells (rwCells x).toArray 69)).alloc (.cells #[.int .i64 c, .int .i64 r] 27) := ⟨_, rfl⟩
  have hb0 : Below w.heap.size w W0 := by rw [eW]; exact ((Below.refl _ _).alloc (Nat.le_refl _) _).alloc (by simp) _
  have hn1 : W0.heap[w.heap.size]? = some (.cells (rwCells x).toArray 69) := by rw [eW]; exact (Below.heap_alloc _ _ _ (by simp)).trans (heap_alloc_new w _)
  have hn2 : W0.heap[w.heap.size + 1]? = some (.cells #[.int .i64 c, .int .i64 r] 27) := by rw [eW]; have := heap_alloc_new (w.alloc (.cells (rwCells x).toArray 69)) (.cells #[.int .i64 c, .int .i64 r] 27); simpa using this
  have a0 : W0.cell? ⟨w.heap.size, 0, none⟩ = some (.int .i64 x.m.ts.1) := by rw [cell_of_row W0 _ 0 _ _ _ hn1]; rfl
  have a1 : W0.cell? ⟨w.heap.size, 1, none⟩ = some (.int .i64 x.m.ts.2) := by rw [cell_of_row W0 _ 1 _ _ _ hn1]; rfl
  have b0 : W0.cell? ⟨w.heap.size + 1, 0, none⟩ = some (.int .i64 c) := by rw [cell_of_row W0 _ 0 _ _ _ hn2]; rfl
  have b1 : W0.cell? ⟨w.heap.size + 1, 1, none⟩ = some (.int .i64 r) := by rw [cell_of_row W0 _ 1 _ _ _ hn2]; rfl
  have HB : Hid (Below w.heap.size w W0) := hb0
  clear hb0 hn1 hn2
  rw [eW] at a0 a1 b0 b1
  go_enter Try.func52, Try.ntmps52
  go_wp2_with fail
  rw [← eW]
  clear eW a0 a1 b0 b1
  refine (compare_any _ _ _ _ _).mono ?_
  rintro e w' ⟨rfl, hb⟩
  have HB2 : Hid (Below w.heap.size w w') := HB.out.trans (hb.mono HB.out.size)
  clear hb
  go_wp2
  go_ret
  exact ⟨rfl, HB2.out⟩
theorem cmpS_zero (c r c2 r2 : Int) : (cmpS c r c2 r2 == 0) = decide ((c, r) = (c2, r2)) := by
  unfold cmpS
  rw [Bool.eq_iff_iff]
  simp only [beq_iff_eq, decide_eq_true_eq, Prod.mk.injEq]
  split <;> (try split) <;> (try split) <;> (try split) <;> omega
/-- What a search answers. -/
def SearchP (R : List Rw) (c r : Int) (w : World) (e : Ending) (w' : World) : Prop := ∃ (i : Nat) (b : Bool), e = .returned (.tuple #[.int .i64 (i : Int), .bool b]) ∧ PlcM (mvs R) (c, r) i ∧ b = hasM (mvs R) (c, r) ∧ Below w.heap.size w w'
theorem plc_of {R : List Rw} {t : St} {i : Nat} (h : i ≤ R.length) (h1 : ∀ j (h : j < R.length), j < i → ltS R[j].m.ts t = true) (h2 : ∀ j (h : j < R.length), i ≤ j → ltS R[j].m.ts t = false) : PlcM (mvs R) t i :=
  ⟨by simpa using h, fun j hj hji => by rw [mvs_get (by simpa using hj)]; exact h1 j (by simpa using hj) hji, fun j hj hji => by rw [mvs_get (by simpa using hj)]; exact h2 j (by simpa using hj) hji⟩

set_option maxRecDepth 100000 in
set_option maxHeartbeats 4000000 in
theorem search_any (v : Value) (R : List Rw) (c r : Int) (w : World) (h : OwnR 0 w v R) (hl : R.length ≤ 4096) (hs : SrtM (mvs R)) :
    Calls Try.prog 51 #[v, .agg #[.int .i64 c, .int .i64 r], .func (.func 52) #[] #[]] w fun e w' => SearchP R c r w e w' := by
  have HSr : Hid (SrtM (mvs R)) := hs
  have HS : Hid (∀ i j (hi : i < R.length) (hj : j < R.length), i < j → ltS R[i].m.ts R[j].m.ts = true) := fun i j hi hj hij => by (have := hs.lt (i := i) (j := j) (by simpa using hi) (by simpa using hj) hij; rwa [mvs_get hi, mvs_get hj] at this)
  obtain ⟨a0, c0, e0⟩ := h.form
  subst e0
  obtain ⟨W0, eW⟩ : ∃ X, X = w.alloc (.cells #[.int .i64 c, .int .i64 r] 27) := ⟨_, rfl⟩
  have hb0 : Below w.heap.size w W0 := by rw [eW]; exact (Below.refl _ _).alloc (Nat.le_refl _) _
  have hnew : W0.heap[w.heap.size]? = some (.cells #[.int .i64 c, .int .i64 r] 27) := by rw [eW]; exact heap_alloc_new _ _
  have HB0 : Hid (W0.cell? ⟨w.heap.size, 0, none⟩ = some (.int .i64 c)) := by (show _ = _; rw [cell_of_row W0 _ 0 _ _ _ hnew]; rfl)
  have HB1 : Hid (W0.cell? ⟨w.heap.size, 1, none⟩ = some (.int .i64 r)) := by (show _ = _; rw [cell_of_row W0 _ 1 _ _ _ hnew]; rfl)
  have HBl : Hid (w.heap.size < W0.heap.size) := row_lt hnew
  have HO : Hid (OwnR 0 W0 (.slice a0 R.length c0) R) := h.below hb0
  have HBe : Hid (Below w.heap.size w W0) := hb0
  clear h hs hb0 hnew
  go_enter Try.func51, Try.ntmps51
  go_wp2
  rw [← eW]
  clear eW
  go_loopw [9, 10] (fun iv jv wr => ∃ lo hi : Nat, iv = .int .i64 (lo : Int) ∧ jv = .int .i64 (hi : Int) ∧ lo ≤ hi ∧ hi ≤ R.length ∧ Hid (∀ j (h : j < R.length), j < lo → ltS R[j].m.ts (c, r) = true) ∧ Hid (∀ j (h : j < R.length), hi ≤ j → ltS R[j].m.ts (c, r) = false) ∧ Hid (Below W0.heap.size W0 wr)) (fun iv jv _ => (intOf jv).toNat - (intOf iv).toNat)
  case atStart => exact ⟨0, R.length, rfl, rfl, Nat.zero_le _, Nat.le_refl _, fun j _ h => absurd h (Nat.not_lt_zero _), fun j h1 h2 => absurd h1 (by omega), Below.refl _ _⟩
  case round =>
    obtain ⟨lo, hi, rfl, rfl, hlh, hhl, H1, H2, HK⟩ := hrel
    by_cases hlt : lo < hi
    · have k1 : (lo : Int) < (hi : Int) := by omega
      obtain ⟨m, hm⟩ : ∃ m : Nat, m = (lo + hi) / 2 := ⟨_, rfl⟩
      have hmd : m < R.length := by omega
      have hm1 : lo ≤ m := by omega
      have hm2 : m < hi := by omega
      have HM : Hid (((lo : Int) + (hi : Int)) / 2 = (m : Int)) := by show _ = _; omega
      clear hm
      obtain ⟨g, cap, ev, hcap, hrange, hfz⟩ := HO.out.cells rwCells_len hmd
      cases ev
      obtain ⟨x, hx⟩ : ∃ x, x = R[m] := ⟨_, rfl⟩
      rw [← hx] at hrange
      have HX : Hid (W0.rangeAt g (m * 13) (rwCells x)) := hrange
      have HGl : Hid (g < W0.heap.size) := (HO.out.lt g rfl).2
      have HL : Hid (ltS R[m].m.ts (c, r) = ltS x.m.ts (c, r)) := by rw [hx]; exact rfl
      obtain ⟨cv, hcv⟩ : ∃ cv, cv = cmpS x.m.ts.1 x.m.ts.2 c r := ⟨_, rfl⟩
      have HC : Hid (decide (cv < 0) = ltS x.m.ts (c, r)) := by rw [hcv]; exact lessS_cmp x.m.ts.1 x.m.ts.2 c r
      clear hx hrange hfz hcap
      have km : (m : Int) < (R.length : Int) := by omega
      have km0 : (0 : Int) ≤ (m : Int) := by omega
      go_wp2
      rw [HM.out]
      clear HM
      refine wp_region_held_drew (S := fun W' => Below W0.heap.size W0 W') (by kernel_rfl) HK.out.drew (fun hHeld => ?_)
      obtain ⟨Ua1u0, eW⟩ : ∃ X, X = wr.drew := ⟨_, rfl⟩
      have hb : Below wr.heap.size wr Ua1u0 := by rw [eW]; exact (Below.refl _ _).drew
      rw [← eW] at hHeld ⊢
      clear eW hb
      refine tkW 0 (some 24) (v := ?_) ?_ hHeld ?_
      rotate_left
      · (intro ww _; go_simp; try with_reducible rfl)
      refine tkW 1 (some 25) (v := ?_) ?_ hHeld ?_
      rotate_left
      · (intro ww _; go_simp; try with_reducible rfl)
      refine tkW 2 (some 26) (v := ?_) ?_ hHeld ?_
      rotate_left
      · (intro ww _; go_simp; try with_reducible rfl)
      refine tkW 3 (some 27) (v := ?_) ?_ hHeld ?_
      rotate_left
      · (intro ww hSw; (try dsimp only at hSw); have hbw := hSw; have k0 := (hbw.cell (p := ⟨w.heap.size, 0, none⟩) HBl.out).trans HB0.out; have k1 := (hbw.cell (p := ⟨w.heap.size, 1, none⟩) HBl.out).trans HB1.out; go_simp; try with_reducible rfl)
      refine wpAnyH_take (i := 4) (oi := ⟨some 28, _, _, _, _, _⟩) (v := .agg (rwCells x).toArray) rfl (by kernel_rfl) (by kernel_rfl) (by kernel_rfl) (fun _ _ _ h => h) (yieldsIf_load_mid (by rfl) 69 (.tmp 27) rfl g (m * 13) rfl (rwCells x) _ (fun W hS => rangeAt_keep HX.out (hS.block _ HGl.out)) Try.underlying69 rfl sizeMove) hHeld ?_
      simp only [Act.put, List.setIfInBounds_toArray, List.set_cons_zero, List.set_cons_succ]
      refine tkW 5 (some 29) (v := ?_) ?_ hHeld ?_
      rotate_left
      · (intro ww hSw; (try dsimp only at hSw); have hbw := hSw; have k0 := (hbw.cell (p := ⟨w.heap.size, 0, none⟩) HBl.out).trans HB0.out; have k1 := (hbw.cell (p := ⟨w.heap.size, 1, none⟩) HBl.out).trans HB1.out; go_simp; try with_reducible rfl)
      refine wpAnyH_ready (rs := [6]) (by kernel_rfl) (by simp) ?_
      refine AllReadyH.cons (o := ⟨some 30, _, _, _, _, _⟩) rfl (fun K hK => ?_) AllReadyH.nil
      go_simp
      refine (cmpM_any x c r _).mono ?_
      rintro e Ua1u1 ⟨ecv, hb⟩
      rw [← hcv] at ecv
      subst ecv
      (try go_wp2_with fail)
      refine hK.out _ _ (hHeld.trans (hb.mono hHeld.size)) (fun hHeld2 => ?_)
      clear hK K hHeld
      have hHeld := hHeld2
      clear hHeld2
      (try simp only [Act.put, List.setIfInBounds_toArray, List.set_cons_zero, List.set_cons_succ])
      clear hb
      refine tkW 7 (some 31) (v := ?_) ?_ hHeld ?_
      rotate_left
      · (intro ww hSw; (try dsimp only at hSw); have hbw := hSw; have k0 := (hbw.cell (p := ⟨w.heap.size, 0, none⟩) HBl.out).trans HB0.out; have k1 := (hbw.cell (p := ⟨w.heap.size, 1, none⟩) HBl.out).trans HB1.out; go_simp; try with_reducible rfl)
      refine wpAnyH_done (by kernel_rfl) ?_ _
      have HK1 : Hid (Below W0.heap.size W0 Ua1u1) := hHeld
      clear hHeld
      by_cases hc : cv < 0
      · have hcd : decide (cv < 0) = true := by simp [hc]
        have H1b : Hid (∀ j (h : j < R.length), j < m + 1 → ltS R[j].m.ts (c, r) = true) := fun j hj hjm => by
          have hmt : ltS R[m].m.ts (c, r) = true := by rw [HL.out, ← HC.out, hcd]
          rcases Nat.lt_or_ge j m with h' | h'
          · exact ltS_trans (HS.out j m hj hmd h') hmt
          · obtain rfl : j = m := by omega
            exact hmt
        clear hcd
        go_wp2
        go_roundw
        case rel => exact ⟨m + 1, hi, by first | rfl | go_num, rfl, by omega, by omega, H1b, H2, HK1⟩
        case measure => simp [intOf]; omega
      · have hcd : decide (cv < 0) = false := by simp [hc]
        have H2b : Hid (∀ j (h : j < R.length), m ≤ j → ltS R[j].m.ts (c, r) = false) := fun j hj hjm => by
          have hmt : ltS R[m].m.ts (c, r) = false := by rw [HL.out, ← HC.out, hcd]
          rcases Nat.lt_or_ge m j with h' | h'
          · cases hx : ltS R[j].m.ts (c, r) with
            | false => rfl
            | true => rw [ltS_trans (HS.out m j hmd hj h') hx] at hmt; cases hmt
          · obtain rfl : j = m := by omega
            exact hmt
        clear hcd
        go_wp2
        go_roundw
        case rel => exact ⟨lo, m, rfl, by first | rfl | go_num, by omega, by omega, H1, H2b, HK1⟩
        case measure => simp [intOf]; omega
    · obtain rfl : hi = lo := by omega
      have HPl : Hid (PlcM (mvs R) (c, r) hi) := plc_of hhl H1.out H2.out
      clear hlt hlh
      by_cases hn : hi < R.length
      · have hid := hn
        obtain ⟨g, cap, ev, hcap, hrange, hfz⟩ := HO.out.cells rwCells_len hid
        cases ev
        obtain ⟨x, hx⟩ : ∃ x, x = R[hi] := ⟨_, rfl⟩
        rw [← hx] at hrange
        have HX : Hid (W0.rangeAt g (hi * 13) (rwCells x)) := hrange
        have HGl : Hid (g < W0.heap.size) := (HO.out.lt g rfl).2
        have HL : Hid (ltS R[hi].m.ts (c, r) = ltS x.m.ts (c, r)) := by rw [hx]; exact rfl
        obtain ⟨cv, hcv⟩ : ∃ cv, cv = cmpS x.m.ts.1 x.m.ts.2 c r := ⟨_, rfl⟩
        have HC : Hid (decide (cv < 0) = ltS x.m.ts (c, r)) := by rw [hcv]; exact lessS_cmp x.m.ts.1 x.m.ts.2 c r
        have HEq : Hid ((cv == 0) = decide (∃ h : hi < (mvs R).length, (mvs R)[hi].ts = (c, r))) := by
          show _ = _
          rw [hcv, cmpS_zero]
          exact decide_eq_decide.2 ⟨fun e => ⟨by simpa using hn, by rw [mvs_get hn, ← hx]; exact e⟩, fun ⟨_, e⟩ => by rw [mvs_get hn, ← hx] at e; exact e⟩
        clear hx hrange hfz hcap
        have km : (hi : Int) < (R.length : Int) := by omega
        have km0 : (0 : Int) ≤ (hi : Int) := by omega
        have kmd : decide ((hi : Int) < (R.length : Int)) = true := by simp [hn]
        go_wp2
        refine wp_region_held_drew (S := fun W' => Below W0.heap.size W0 W') (by kernel_rfl) HK.out.drew (fun hHeld => ?_)
        obtain ⟨Ub2u0, eW⟩ : ∃ X, X = wr.drew := ⟨_, rfl⟩
        have hb : Below wr.heap.size wr Ub2u0 := by rw [eW]; exact (Below.refl _ _).drew
        rw [← eW] at hHeld ⊢
        clear eW hb
        refine tkW 0 (some 35) (v := ?_) ?_ hHeld ?_
        rotate_left
        · (intro ww _; go_simp; try with_reducible rfl)
        refine tkW 1 (some 36) (v := ?_) ?_ hHeld ?_
        rotate_left
        · (intro ww _; go_simp; try with_reducible rfl)
        refine tkW 2 (some 37) (v := ?_) ?_ hHeld ?_
        rotate_left
        · (intro ww _; go_simp; try with_reducible rfl)
        refine tkW 3 (some 38) (v := .bool true) ?_ hHeld ?_
        · (intro ww hSw; (try dsimp only at hSw); have hbw := hSw; have k0 := (hbw.cell (p := ⟨w.heap.size, 0, none⟩) HBl.out).trans HB0.out; have k1 := (hbw.cell (p := ⟨w.heap.size, 1, none⟩) HBl.out).trans HB1.out; go_simp; try simp [hn])
        refine tkW 4 (some 39) (v := ?_) ?_ hHeld ?_
        rotate_left
        · (intro ww _; go_simp; try with_reducible rfl)
        refine tkW 5 (some 40) (v := ?_) ?_ hHeld ?_
        rotate_left
        · (intro ww _; go_simp; try with_reducible rfl)
        refine tkW 6 (some 41) (v := ?_) ?_ hHeld ?_
        rotate_left
        · (intro ww _; go_simp; try with_reducible rfl)
        refine tkW 7 (some 42) (v := ?_) ?_ hHeld ?_
        rotate_left
        · (intro ww _; go_simp; try with_reducible rfl)
        refine tkW 8 (some 43) (v := ?_) ?_ hHeld ?_
        rotate_left
        · (intro ww hSw; (try dsimp only at hSw); have hbw := hSw; have k0 := (hbw.cell (p := ⟨w.heap.size, 0, none⟩) HBl.out).trans HB0.out; have k1 := (hbw.cell (p := ⟨w.heap.size, 1, none⟩) HBl.out).trans HB1.out; go_simp; try with_reducible rfl)
        refine wpAnyH_take (i := 9) (oi := ⟨some 44, _, _, _, _, _⟩) (v := .agg (rwCells x).toArray) rfl (by kernel_rfl) (by kernel_rfl) (by kernel_rfl) (fun _ _ _ h => h) (yieldsIf_load_mid (by rfl) 69 (.tmp 43) rfl g (hi * 13) rfl (rwCells x) _ (fun W hS => rangeAt_keep HX.out (hS.block _ HGl.out)) Try.underlying69 rfl sizeMove) hHeld ?_
        simp only [Act.put, List.setIfInBounds_toArray, List.set_cons_zero, List.set_cons_succ]
        refine tkW 10 (some 45) (v := ?_) ?_ hHeld ?_
        rotate_left
        · (intro ww hSw; (try dsimp only at hSw); have hbw := hSw; have k0 := (hbw.cell (p := ⟨w.heap.size, 0, none⟩) HBl.out).trans HB0.out; have k1 := (hbw.cell (p := ⟨w.heap.size, 1, none⟩) HBl.out).trans HB1.out; go_simp; try with_reducible rfl)
        refine wpAnyH_ready (rs := [11]) (by kernel_rfl) (by simp) ?_
        refine AllReadyH.cons (o := ⟨some 46, _, _, _, _, _⟩) rfl (fun K hK => ?_) AllReadyH.nil
        go_simp
        refine (cmpM_any x c r _).mono ?_
        rintro e Ub2u1 ⟨ecv, hb⟩
        rw [← hcv] at ecv
        subst ecv
        (try go_wp2_with fail)
        refine hK.out _ _ (hHeld.trans (hb.mono hHeld.size)) (fun hHeld2 => ?_)
        clear hK K hHeld
        have hHeld := hHeld2
        clear hHeld2
        (try simp only [Act.put, List.setIfInBounds_toArray, List.set_cons_zero, List.set_cons_succ])
        clear hb
        refine tkW 12 (some 47) (v := ?_) ?_ hHeld ?_
        rotate_left
        · (intro ww hSw; (try dsimp only at hSw); have hbw := hSw; have k0 := (hbw.cell (p := ⟨w.heap.size, 0, none⟩) HBl.out).trans HB0.out; have k1 := (hbw.cell (p := ⟨w.heap.size, 1, none⟩) HBl.out).trans HB1.out; go_simp; try with_reducible rfl)
        refine tkW 13 (some 48) (v := ?_) ?_ hHeld ?_
        rotate_left
        · (intro ww _; go_simp; try with_reducible rfl)
        refine tkW 14 (some 6) (v := ?_) ?_ hHeld ?_
        rotate_left
        · (intro ww _; go_simp; try with_reducible rfl)
        refine tkW 15 (some 7) (v := ?_) ?_ hHeld ?_
        rotate_left
        · (intro ww _; go_simp; try with_reducible rfl)
        refine wpAnyH_done (by kernel_rfl) ?_ _
        have HK1 : Hid (Below W0.heap.size W0 Ub2u1) := hHeld
        clear hHeld
        go_wp2
        go_ret2
        refine ⟨hi, _, rfl, HPl.out, ?_, HBe.out.trans (HK1.out.mono HBe.out.size)⟩
        rw [HPl.out.has HSr.out, ← hcv]
        exact HEq.out
      · have HEq : Hid (false = decide (∃ h : hi < (mvs R).length, (mvs R)[hi].ts = (c, r))) := (decide_eq_false (fun ⟨h, _⟩ => hn (by simpa using h))).symm
        have kmd : decide ((hi : Int) < (R.length : Int)) = false := by simp; omega
        have kmn : decide (hi < R.length) = false := by simp; omega
        go_wp2
        refine wp_region_held_drew (S := fun W' => Below W0.heap.size W0 W') (by kernel_rfl) HK.out.drew (fun hHeld => ?_)
        obtain ⟨Uc3u0, eW⟩ : ∃ X, X = wr.drew := ⟨_, rfl⟩
        have hb : Below wr.heap.size wr Uc3u0 := by rw [eW]; exact (Below.refl _ _).drew
        rw [← eW] at hHeld ⊢
        clear eW hb
        refine tkW 0 (some 35) (v := ?_) ?_ hHeld ?_
        rotate_left
        · (intro ww _; go_simp; try with_reducible rfl)
        refine tkW 1 (some 36) (v := ?_) ?_ hHeld ?_
        rotate_left
        · (intro ww _; go_simp; try with_reducible rfl)
        refine tkW 2 (some 37) (v := ?_) ?_ hHeld ?_
        rotate_left
        · (intro ww _; go_simp; try with_reducible rfl)
        refine tkW 3 (some 38) (v := .bool false) ?_ hHeld ?_
        · (intro ww hSw; (try dsimp only at hSw); have hbw := hSw; have k0 := (hbw.cell (p := ⟨w.heap.size, 0, none⟩) HBl.out).trans HB0.out; have k1 := (hbw.cell (p := ⟨w.heap.size, 1, none⟩) HBl.out).trans HB1.out; go_simp; try (simp; omega))
        refine tkW 4 (some 39) (v := ?_) ?_ hHeld ?_
        rotate_left
        · (intro ww _; go_simp; try with_reducible rfl)
        refine tkU 5 (some 40) hHeld ?_
        refine tkU 6 (some 41) hHeld ?_
        refine tkU 7 (some 42) hHeld ?_
        refine tkU 8 (some 43) hHeld ?_
        refine tkU 9 (some 44) hHeld ?_
        refine tkU 10 (some 45) hHeld ?_
        refine tkU 11 (some 46) hHeld ?_
        refine tkU 12 (some 47) hHeld ?_
        refine tkW 13 (some 48) (v := ?_) ?_ hHeld ?_
        rotate_left
        · (intro ww _; go_simp; try with_reducible rfl)
        refine tkW 14 (some 6) (v := ?_) ?_ hHeld ?_
        rotate_left
        · (intro ww _; go_simp; try with_reducible rfl)
        refine tkW 15 (some 7) (v := ?_) ?_ hHeld ?_
        rotate_left
        · (intro ww _; go_simp; try with_reducible rfl)
        refine wpAnyH_done (by kernel_rfl) ?_ _
        have HK1 : Hid (Below W0.heap.size W0 Uc3u0) := hHeld
        clear hHeld
        go_wp2
        go_ret2
        refine ⟨hi, _, rfl, HPl.out, ?_, HBe.out.trans (HK1.out.mono HBe.out.size)⟩
        rw [HPl.out.has HSr.out]
        exact HEq.out

set_option maxRecDepth 100000 in
set_option maxHeartbeats 4000000 in
theorem find_any (F : Nat → Prop) (tb : Nat) (R : List Rw) (k : Nat) (lv : Value) (sb kb : Nat) (c r : Int) (w : World) (h : TrIs F w tb R k lv sb kb) :
    Calls Try.prog 33 #[.pointer (some ⟨tb, 0, none⟩), .agg #[.int .i64 c, .int .i64 r]] w fun e w' => SearchP R c r w e w' := by
  obtain ⟨W0, eW⟩ : ∃ X, X = w.alloc (.cells #[.int .i64 c, .int .i64 r] 27) := ⟨_, rfl⟩
  have hb0 : Below w.heap.size w W0 := by rw [eW]; exact (Below.refl _ _).alloc (Nat.le_refl _) _
  have hnew : W0.heap[w.heap.size]? = some (.cells #[.int .i64 c, .int .i64 r] 27) := by rw [eW]; exact heap_alloc_new _ _
  have HB0 : Hid (W0.cell? ⟨w.heap.size, 0, none⟩ = some (.int .i64 c)) := by (show _ = _; rw [cell_of_row W0 _ 0 _ _ _ hnew]; rfl)
  have HB1 : Hid (W0.cell? ⟨w.heap.size, 1, none⟩ = some (.int .i64 r)) := by (show _ = _; rw [cell_of_row W0 _ 1 _ _ _ hnew]; rfl)
  have HBl : Hid (w.heap.size < W0.heap.size) := row_lt hnew
  have hT := h.below hb0
  have HO : Hid (OwnR 0 W0 lv R) := hT.own
  have HT0 : Hid (W0.cell? ⟨tb, 0, none⟩ = some lv) := hT.t0
  have HTl : Hid (tb < W0.heap.size) := hT.lt _ hT.ft
  have HSm : Hid (R.length ≤ 4096) := h.small
  have HSr : Hid (SrtM (mvs R)) := h.ls.srt
  have HBe : Hid (Below w.heap.size w W0) := hb0
  obtain ⟨a0, c0, e0⟩ := h.own.form
  subst e0
  clear h hT hb0 hnew
  go_enter Try.func33, Try.ntmps33
  go_wp2
  rw [← eW]
  clear eW
  refine wp_region_held_drew (S := fun W' => Below W0.heap.size W0 W') (by kernel_rfl) (Below.refl _ _).drew (fun hHeld => ?_)
  obtain ⟨Uf4u0, eW⟩ : ∃ X, X = W0.drew := ⟨_, rfl⟩
  have hb : Below W0.heap.size W0 Uf4u0 := by rw [eW]; exact (Below.refl _ _).drew
  rw [← eW] at hHeld ⊢
  clear eW hb
  refine tkW 0 (some 6) (v := ?_) ?_ hHeld ?_
  rotate_left
  · (intro ww _; go_simp; try with_reducible rfl)
  refine tkW 1 (some 7) (v := ?_) ?_ hHeld ?_
  rotate_left
  · (intro ww hSw; (try dsimp only at hSw); have hbw := hSw; have k0 := (hbw.cell (p := ⟨w.heap.size, 0, none⟩) HBl.out).trans HB0.out; have k1 := (hbw.cell (p := ⟨w.heap.size, 1, none⟩) HBl.out).trans HB1.out; have t0 := (hbw.cell (p := ⟨tb, 0, none⟩) HTl.out).trans HT0.out; go_simp; try with_reducible rfl)
  refine tkW 2 (some 8) (v := ?_) ?_ hHeld ?_
  rotate_left
  · (intro ww _; go_simp; try with_reducible rfl)
  refine tkW 3 (some 9) (v := ?_) ?_ hHeld ?_
  rotate_left
  · (intro ww hSw; (try dsimp only at hSw); have hbw := hSw; have k0 := (hbw.cell (p := ⟨w.heap.size, 0, none⟩) HBl.out).trans HB0.out; have k1 := (hbw.cell (p := ⟨w.heap.size, 1, none⟩) HBl.out).trans HB1.out; have t0 := (hbw.cell (p := ⟨tb, 0, none⟩) HTl.out).trans HT0.out; go_simp; try with_reducible rfl)
  refine tkW 4 (some 10) (v := ?_) ?_ hHeld ?_
  rotate_left
  · (intro ww hSw; (try dsimp only at hSw); have hbw := hSw; have k0 := (hbw.cell (p := ⟨w.heap.size, 0, none⟩) HBl.out).trans HB0.out; have k1 := (hbw.cell (p := ⟨w.heap.size, 1, none⟩) HBl.out).trans HB1.out; have t0 := (hbw.cell (p := ⟨tb, 0, none⟩) HTl.out).trans HT0.out; go_simp; try with_reducible rfl)
  refine wpAnyH_ready (rs := [5]) (by kernel_rfl) (by simp) ?_
  refine AllReadyH.cons (o := ⟨some 11, _, _, _, _, _⟩) rfl (fun K hK => ?_) AllReadyH.nil
  go_simp
  refine (search_any (.slice a0 R.length c0) R c r _ (HO.out.below hHeld) HSm.out HSr.out).mono ?_
  rintro e Uf4u1 ⟨i, b, rfl, hp, hbb, hb⟩
  (try go_wp2_with fail)
  refine hK.out _ _ (hHeld.trans (hb.mono hHeld.size)) (fun hHeld2 => ?_)
  clear hK K hHeld
  have hHeld := hHeld2
  clear hHeld2
  (try simp only [Act.put, List.setIfInBounds_toArray, List.set_cons_zero, List.set_cons_succ])
  have HP : Hid (PlcM (mvs R) (c, r) i) := hp
  have HH : Hid (b = hasM (mvs R) (c, r)) := hbb
  clear hp hbb hb
  refine tkW 6 (some 12) (v := ?_) ?_ hHeld ?_
  rotate_left
  · (intro ww _; go_simp; try with_reducible rfl)
  refine tkW 7 (some 13) (v := ?_) ?_ hHeld ?_
  rotate_left
  · (intro ww _; go_simp; try with_reducible rfl)
  refine tkW 8 (some 4) (v := ?_) ?_ hHeld ?_
  rotate_left
  · (intro ww _; go_simp; try with_reducible rfl)
  refine tkW 9 (some 5) (v := ?_) ?_ hHeld ?_
  rotate_left
  · (intro ww _; go_simp; try with_reducible rfl)
  refine wpAnyH_done (by kernel_rfl) ?_ _
  have HK : Hid (Below W0.heap.size W0 Uf4u1) := hHeld
  clear hHeld
  go_wp2
  go_ret2
  exact ⟨i, _, rfl, HP.out, rfl, HBe.out.trans (HK.out.mono HBe.out.size)⟩

end Go.Proofs.Ytljepindfdhbbaa
