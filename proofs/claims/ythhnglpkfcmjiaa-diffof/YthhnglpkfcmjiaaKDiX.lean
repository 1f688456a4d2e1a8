/- writeAttrs, walked. -/
import Derived.Test.YthhnglpkfcmjiaaKDiW
namespace Go.Proofs.Ythhnglpkfcmjiaa
open Go.RowKit Go.Shelf
set_option linter.unusedVariables false
set_option linter.unusedSimpArgs false
attribute [local go_sem] Oper.semAt_some
theorem txtD (a b : ByteArray) : (a.toList == b.toList) = decide (a = b) := by
  rw [Go.Lib.toList_data, Go.Lib.toList_data]
  by_cases h : a = b
  · simp [h]
  · have : a.data.toList ≠ b.data.toList := fun e => h (by obtain ⟨⟨a⟩⟩ := a; obtain ⟨⟨b⟩⟩ := b; simp at e; rw [e])
    simp only [h, decide_false, beq_eq_false_iff_ne, ne_eq]
    exact this
set_option maxRecDepth 100000 in
set_option maxHeartbeats 8000000 in
theorem writeAttrs_any (G1 G2 : Nat → Prop) (k : St) (ov av : Value) (O0 A0 : List At) (w : World) (h1 : LsE atCells 2 G1 w ov O0) (h2 : LsE atCells 2 G2 w av A0) (hsz : O0.length + A0.length ≤ 1048576) :
    Calls Try.prog 54 #[.agg #[.int .i64 k.1, .int .i64 k.2], ov, av] w fun e w' => ∃ v, e = .returned v ∧ OwnPa w.heap.size w' v (wrA k O0 A0) ∧ Below w.heap.size w w' := by
  obtain ⟨oa0, oc0, e1⟩ := h1.form
  subst e1
  obtain ⟨aa0, ac0, e2⟩ := h2.form
  subst e2
  obtain ⟨W0, eW⟩ : ∃ X, X = ((w.alloc (.cells #[.int .i64 k.1, .int .i64 k.2] 23)).alloc (.cells #[.slice none 0 0] 31)) := ⟨_, rfl⟩
  have hb0 : Below w.heap.size w W0 := (by rw [eW]; exact ((Below.refl _ _).alloc (Nat.le_refl _) _).alloc (by simp) _)
  have hk : W0.heap[w.heap.size]? = some (.cells #[.int .i64 k.1, .int .i64 k.2] 23) := (by rw [eW, Below.heap_alloc _ _ _ (by simp)]; exact heap_alloc_new _ _)
  have ho : W0.heap[w.heap.size + 1]? = some (.cells #[.slice none 0 0] 31) := (by rw [eW]; have h9 := heap_alloc_new (w.alloc (.cells #[.int .i64 k.1, .int .i64 k.2] 23)) (.cells #[.slice none 0 0] 31); rw [show (w.alloc (.cells #[.int .i64 k.1, .int .i64 k.2] 23)).heap.size = w.heap.size + 1 by simp] at h9; exact h9)
  have HS : Hid (WlS w (w.heap.size + 2) (w.heap.size + 1) w.heap.size k (.slice none 0 0) ([]) (.slice oa0 O0.length oc0) (O0) (.slice aa0 A0.length ac0) (A0) W0) := ⟨⟨ho, hk, OwnE.nil0 _ _, by omega, by omega, by omega⟩, (h1.turn (Nat.le_refl _) fun k _ q => ⟨q, rfl⟩).below hb0, (h2.turn (Nat.le_refl _) fun k _ q => ⟨q, rfl⟩).below hb0, hb0, by omega, by omega⟩
  have Hsz : Hid (O0.length + A0.length ≤ 1048576) := hsz
  have HE := hide9 eW
  clear h1 h2 hb0 hk ho hsz eW
  go_enter Try.func54, Try.ntmps54
  go_upto_region 2 with fail
  rw [← HE.out]
  clear HE
  go_wp2
  go_loopg [1, 2] (O0.length + A0.length) (fun gk ov av wr => ∃ (oa : Option Addr) (nO oc : Nat) (aa : Option Addr) (nA ac : Nat) (O A : List At) (R : List Pa) (v : Value), ov = .slice oa nO oc ∧ av = .slice aa nA ac ∧ gk = nO + nA ∧ Hid (nO = O.length ∧ nA = A.length) ∧ Hid (WlS w (w.heap.size + 2) (w.heap.size + 1) w.heap.size k v (R) (.slice oa nO oc) (O) (.slice aa nA ac) (A) wr) ∧ Hid (wrA k O0 A0 = R ++ wrA k O A))
  case atStart => exact ⟨oa0, O0.length, oc0, aa0, A0.length, ac0, O0, A0, [], .slice none 0 0, rfl, rfl, rfl, ⟨rfl, rfl⟩, HS, rfl⟩
  case round =>
    clear HS
    obtain ⟨oa, nO, oc, aa, nA, ac, O, A, R, v, rfl, rfl, hgk, Hn, HS, HW⟩ := hrel
    subst hgk
    obtain ⟨va, vc, ev⟩ := OwnE.form HS.out.s.ow
    subst ev
    have HRl : Hid (R.length ≤ 1048576) := (by have h8 := congrArg List.length HW.out; rw [List.length_append] at h8; have h9 := wrA_len k _ O0 A0 (Nat.le_refl _); have := Hsz.out; show _ ≤ _; omega)
    have Hlow : Hid (w.heap.size + 2 ≤ wr.heap.size) := (by have := row_lt HS.out.s.o; show _ ≤ _; omega)
    by_cases hO : nO = 0
    · by_cases hA : nA = 0
      · subst hO
        obtain rfl : O = [] := List.eq_nil_of_length_eq_zero Hn.out.1.symm
        subst hA
        obtain rfl : A = [] := List.eq_nil_of_length_eq_zero Hn.out.2.symm
        have hfin := HW.out
        rw [wrA, List.append_nil] at hfin
        have HF := hide9 hfin
        have c0 : wr.cell? ⟨w.heap.size + 1, 0, none⟩ = some (.slice va R.length vc) := (by rw [cell_of_row _ _ _ _ _ _ HS.out.s.o]; rfl)
        have HOw : Hid (OwnPa w.heap.size wr (.slice va R.length vc) R) := OwnE.low HS.out.s.ow (by omega)
        clear hfin
        go_wp2
        (try rw [Exit.noGoto_ret])
        go_ret
        exact ⟨_, rfl, (by rw [HF.out]; exact HOw.out), HS.out.bel⟩
      · subst hO
        obtain rfl : O = [] := List.eq_nil_of_length_eq_zero Hn.out.1.symm
        obtain ⟨a, s, eA⟩ : ∃ y z, A = y :: z := (by cases h9 : A with | nil => have h8 := Hn.out.2; rw [h9] at h8; simp at h8; omega | cons y z => exact ⟨y, z, rfl⟩)
        subst eA
        obtain ⟨ab9, ao9, cc, e9, hcc, hg9, hl9, hq0, hq1⟩ := hdE HS.out.l2
        injection e9 with e8 e7 e6
        subst e8 e6
        have HcA : Hid (1 ≤ ac) := (by show _ ≤ _; omega)
        have HgA : Hid (ab9 < w.heap.size) := hg9
        have HcA0 : Hid (ab9 < wr.heap.size ∧ wr.cell? ⟨ab9, ao9, none⟩ = some (.string a.1) ∧ wr.cell? ⟨ab9, ao9 + 1, none⟩ = some (.string a.2)) := ⟨hl9, hq0, hq1⟩
        have HlA : Hid (nA = s.length + 1) := e7
        have HTA : Hid (∀ {W9 : World}, LsE atCells 2 (fun k => k < w.heap.size) W9 (.slice (some ⟨ab9, ao9, none⟩) nA ac) (a :: s) → LsE atCells 2 (fun k => k < w.heap.size) W9 (.slice (some ⟨ab9, ao9, none⟩) (s.length + 1) ac) (a :: s)) := fun h => (by rw [← HlA.out]; exact h)
        have pA1 : (0 : Int) < (nA : Int) := by omega
        have pA2 : ¬ (nA : Int) = 0 := by omega
        have pA3 : (1 : Int) ≤ (nA : Int) := by omega
        have pA4 : nA - 1 = s.length := by omega
        have pA5 : 0 < nA := by omega
        clear e7 hcc hg9 hl9 hq0 hq1 hA
        go_upto_region 7 with fail
        refine wp_region_held_drew (S := fun W' => Below wr.heap.size wr W') (by kernel_rfl) (Below.refl _ _).drew (fun hHeld => ?_)
        obtain ⟨Ub1u0, eW⟩ : ∃ X, X = wr.drew := ⟨_, rfl⟩
        have hb : Below wr.heap.size wr Ub1u0 := by rw [eW]; exact (Below.refl _ _).drew
        replace HS : Hid (WlS w (w.heap.size + 2) (w.heap.size + 1) w.heap.size k (.slice va R.length vc) (R) (.slice oa 0 oc) ([]) (.slice (some ⟨ab9, ao9, none⟩) nA ac) (a :: s) Ub1u0) := HS.out.below hb
        rw [← eW] at hHeld ⊢
        clear eW hb
        refine tkW 0 (some 37) (v := ?_) ?_ hHeld ?_
        rotate_left
        · (intro ww _; go_simp; try with_reducible rfl)
        refine tkW 1 (some 38) (v := ?_) ?_ hHeld ?_
        rotate_left
        · (intro ww hSw; (try dsimp only at hSw); go_simp; try with_reducible rfl)
        refine tkW 2 (some 39) (v := .bool false) ?_ hHeld ?_
        · (intro ww hSw; (try dsimp only at hSw); go_simp; (try simp); (try omega))
        refine tkW 3 (some 40) (v := ?_) ?_ hHeld ?_
        rotate_left
        · (intro ww _; go_simp; try with_reducible rfl)
        refine tkW 4 (some 41) (v := ?_) ?_ hHeld ?_
        rotate_left
        · (intro ww _; go_simp; try with_reducible rfl)
        refine tkW 5 (some 42) (v := ?_) ?_ hHeld ?_
        rotate_left
        · (intro ww hSw; (try dsimp only at hSw); go_simp; try with_reducible rfl)
        refine tkW 6 (some 43) (v := .bool false) ?_ hHeld ?_
        · (intro ww hSw; (try dsimp only at hSw); go_simp; (try simp); (try omega))
        refine tkW 7 (some 44) (v := ?_) ?_ hHeld ?_
        rotate_left
        · (intro ww _; go_simp; try with_reducible rfl)
        refine tkU 8 (some 45) hHeld ?_
        refine tkU 9 (some 46) hHeld ?_
        refine tkU 10 (some 47) hHeld ?_
        refine tkU 11 (some 48) hHeld ?_
        refine tkU 12 (some 49) hHeld ?_
        refine tkU 13 (some 50) hHeld ?_
        refine tkU 14 (some 51) hHeld ?_
        refine tkU 15 (some 52) hHeld ?_
        refine tkU 16 (some 53) hHeld ?_
        refine tkW 17 (some 54) (v := ?_) ?_ hHeld ?_
        rotate_left
        · (intro ww _; go_simp; try with_reducible rfl)
        refine tkW 18 (some 55) (v := ?_) ?_ hHeld ?_
        rotate_left
        · (intro ww _; go_simp; try with_reducible rfl)
        refine tkW 19 (some 36) (v := ?_) ?_ hHeld ?_
        rotate_left
        · (intro ww _; go_simp; try with_reducible rfl)
        refine wpAnyH_done (by kernel_rfl) ?_ _
        have hc9 : Hid (ab9 < Ub1u0.heap.size ∧ Ub1u0.cell? ⟨ab9, ao9, none⟩ = some (.string a.1) ∧ Ub1u0.cell? ⟨ab9, ao9 + 1, none⟩ = some (.string a.2)) := ⟨Nat.lt_of_lt_of_le HcA0.out.1 hHeld.size, (hHeld.cell (p := ⟨ab9, ao9, none⟩) HcA0.out.1).trans HcA0.out.2.1, (hHeld.cell (p := ⟨ab9, ao9 + 1, none⟩) HcA0.out.1).trans HcA0.out.2.2⟩
        clear HcA0
        have HcA0 := hc9
        clear hc9
        have Hlow9 : Hid (w.heap.size + 2 ≤ Ub1u0.heap.size) := Nat.le_trans Hlow.out hHeld.size
        clear Hlow
        have Hlow := Hlow9
        clear Hlow9
        clear hHeld
        go_upto_region 10 with fail
        refine wp_region_held_drew (S := fun W' => Below Ub1u0.heap.size Ub1u0 W') (by kernel_rfl) (Below.refl _ _).drew (fun hHeld => ?_)
        obtain ⟨Uc2u0, eW⟩ : ∃ X, X = Ub1u0.drew := ⟨_, rfl⟩
        have hb : Below Ub1u0.heap.size Ub1u0 Uc2u0 := by rw [eW]; exact (Below.refl _ _).drew
        replace HS : Hid (WlS w (w.heap.size + 2) (w.heap.size + 1) w.heap.size k (.slice va R.length vc) (R) (.slice oa 0 oc) ([]) (.slice (some ⟨ab9, ao9, none⟩) nA ac) (a :: s) Uc2u0) := HS.out.below hb
        rw [← eW] at hHeld ⊢
        clear eW hb
        refine tkW 0 (some 68) (v := ?_) ?_ hHeld ?_
        rotate_left
        · (intro ww _; go_simp; try with_reducible rfl)
        refine tkW 1 (some 69) (v := ?_) ?_ hHeld ?_
        rotate_left
        · (intro ww hSw; (try dsimp only at hSw); go_simp; try with_reducible rfl)
        refine tkW 2 (some 70) (v := .bool true) ?_ hHeld ?_
        · (intro ww hSw; (try dsimp only at hSw); go_simp; (try simp); (try omega))
        refine tkW 3 (some 71) (v := ?_) ?_ hHeld ?_
        rotate_left
        · (intro ww _; go_simp; try with_reducible rfl)
        refine tkU 4 (some 72) hHeld ?_
        refine tkU 5 (some 73) hHeld ?_
        refine tkU 6 (some 74) hHeld ?_
        refine tkU 7 (some 75) hHeld ?_
        refine tkU 8 (some 76) hHeld ?_
        refine tkU 9 (some 77) hHeld ?_
        refine tkU 10 (some 78) hHeld ?_
        refine tkU 11 (some 79) hHeld ?_
        refine tkU 12 (some 80) hHeld ?_
        refine tkW 13 (some 81) (v := ?_) ?_ hHeld ?_
        rotate_left
        · (intro ww _; go_simp; try with_reducible rfl)
        refine tkW 14 (some 67) (v := ?_) ?_ hHeld ?_
        rotate_left
        · (intro ww _; go_simp; try with_reducible rfl)
        refine wpAnyH_done (by kernel_rfl) ?_ _
        have hc9 : Hid (ab9 < Uc2u0.heap.size ∧ Uc2u0.cell? ⟨ab9, ao9, none⟩ = some (.string a.1) ∧ Uc2u0.cell? ⟨ab9, ao9 + 1, none⟩ = some (.string a.2)) := ⟨Nat.lt_of_lt_of_le HcA0.out.1 hHeld.size, (hHeld.cell (p := ⟨ab9, ao9, none⟩) HcA0.out.1).trans HcA0.out.2.1, (hHeld.cell (p := ⟨ab9, ao9 + 1, none⟩) HcA0.out.1).trans HcA0.out.2.2⟩
        clear HcA0
        have HcA0 := hc9
        clear hc9
        have Hlow9 : Hid (w.heap.size + 2 ≤ Uc2u0.heap.size) := Nat.le_trans Hlow.out hHeld.size
        clear Hlow
        have Hlow := Hlow9
        clear Hlow9
        clear hHeld
        have q0 : Uc2u0.cell? ⟨ab9, ao9, none⟩ = some (.string a.1) := HcA0.out.2.1
        have q1 : Uc2u0.cell? ⟨ab9, ao9 + 1, none⟩ = some (.string a.2) := HcA0.out.2.2
        go_wp2_with fail
        clear q0 q1
        refine (set_any (w.heap.size + 2) (w.heap.size + 1) w.heap.size k _ R a _ HS.out.s (by have := HRl.out; omega) Hlow.out).mono ?_
        rintro e WA ⟨⟨u9, rfl⟩, v9, hs9, ht9⟩
        have HP : Hid (WlS w (w.heap.size + 2) (w.heap.size + 1) w.heap.size k v9 (R ++ [pS k a]) (.slice oa 0 oc) ([]) (.slice (some ⟨ab9, ao9, none⟩) nA ac) (a :: s) WA) := HS.out.touch hs9 ht9
        clear hs9 ht9 HS
        have HW2 : Hid (wrA k O0 A0 = (R ++ [pS k a]) ++ wrA k ([]) (s)) := (by show _ = _; rw [HW.out]; rw [wrA, List.append_assoc]; rfl)
        by_cases hcA : ac = 1
        · have hrA := ((tlE (HTA.out HP.out.l2)).1 hcA)
          have HzA : Hid (s = []) := hrA.1
          replace hrA := hrA.2
          have HCA := hide9 hcA
          subst hcA
          have HP2 : Hid (WlS w (w.heap.size + 2) (w.heap.size + 1) w.heap.size k v9 (R ++ [pS k a]) (.slice oa 0 oc) ([]) (.slice (some ⟨ab9, ao9, none⟩) (nA - 1) 0) (s) WA) := ⟨HP.out.s, HP.out.l1, (by rw [pA4]; rw [HzA.out]; exact LsE.nil _ _ _), HP.out.bel, HP.out.lo⟩
          clear HP hrA
          go_wp2
          go_roundg (0 + (nA - 1))
          case rel => exact ⟨_, 0, _, _, (nA - 1), _, [], s, R ++ [pS k a], v9, by go_num, by go_num, rfl, ⟨Hn.out.1, pA4⟩, HP2, HW2⟩
          case measure => have := HlA.out; omega
        · have hrA := ((tlE (HTA.out HP.out.l2)).2 hcA)
          have c1A : ¬ (ac : Int) = 1 := by omega
          have c2A : (1 : Int) ≤ (ac : Int) := by have := HcA.out; omega
          have HP2 : Hid (WlS w (w.heap.size + 2) (w.heap.size + 1) w.heap.size k v9 (R ++ [pS k a]) (.slice oa 0 oc) ([]) (.slice (some ⟨ab9, ao9 + 2, none⟩) (nA - 1) (ac - 1)) (s) WA) := ⟨HP.out.s, HP.out.l1, (by rw [pA4]; exact hrA), HP.out.bel, HP.out.lo⟩
          clear HP hrA
          go_wp2
          go_roundg (0 + (nA - 1))
          case rel => exact ⟨_, 0, _, _, (nA - 1), _, [], s, R ++ [pS k a], v9, by go_num, by go_num, rfl, ⟨Hn.out.1, pA4⟩, HP2, HW2⟩
          case measure => have := HlA.out; omega
    · by_cases hA : nA = 0
      · obtain ⟨o, r, eO⟩ : ∃ y z, O = y :: z := (by cases h9 : O with | nil => have h8 := Hn.out.1; rw [h9] at h8; simp at h8; omega | cons y z => exact ⟨y, z, rfl⟩)
        subst eO
        obtain ⟨ob9, oo9, cc, e9, hcc, hg9, hl9, hq0, hq1⟩ := hdE HS.out.l1
        injection e9 with e8 e7 e6
        subst e8 e6
        have HcO : Hid (1 ≤ oc) := (by show _ ≤ _; omega)
        have HgO : Hid (ob9 < w.heap.size) := hg9
        have HcO0 : Hid (ob9 < wr.heap.size ∧ wr.cell? ⟨ob9, oo9, none⟩ = some (.string o.1) ∧ wr.cell? ⟨ob9, oo9 + 1, none⟩ = some (.string o.2)) := ⟨hl9, hq0, hq1⟩
        have HlO : Hid (nO = r.length + 1) := e7
        have HTO : Hid (∀ {W9 : World}, LsE atCells 2 (fun k => k < w.heap.size) W9 (.slice (some ⟨ob9, oo9, none⟩) nO oc) (o :: r) → LsE atCells 2 (fun k => k < w.heap.size) W9 (.slice (some ⟨ob9, oo9, none⟩) (r.length + 1) oc) (o :: r)) := fun h => (by rw [← HlO.out]; exact h)
        have pO1 : (0 : Int) < (nO : Int) := by omega
        have pO2 : ¬ (nO : Int) = 0 := by omega
        have pO3 : (1 : Int) ≤ (nO : Int) := by omega
        have pO4 : nO - 1 = r.length := by omega
        have pO5 : 0 < nO := by omega
        clear e7 hcc hg9 hl9 hq0 hq1 hO
        subst hA
        obtain rfl : A = [] := List.eq_nil_of_length_eq_zero Hn.out.2.symm
        go_upto_region 7 with fail
        refine wp_region_held_drew (S := fun W' => Below wr.heap.size wr W') (by kernel_rfl) (Below.refl _ _).drew (fun hHeld => ?_)
        obtain ⟨Ue3u0, eW⟩ : ∃ X, X = wr.drew := ⟨_, rfl⟩
        have hb : Below wr.heap.size wr Ue3u0 := by rw [eW]; exact (Below.refl _ _).drew
        replace HS : Hid (WlS w (w.heap.size + 2) (w.heap.size + 1) w.heap.size k (.slice va R.length vc) (R) (.slice (some ⟨ob9, oo9, none⟩) nO oc) (o :: r) (.slice aa 0 ac) ([]) Ue3u0) := HS.out.below hb
        rw [← eW] at hHeld ⊢
        clear eW hb
        refine tkW 0 (some 37) (v := ?_) ?_ hHeld ?_
        rotate_left
        · (intro ww _; go_simp; try with_reducible rfl)
        refine tkW 1 (some 38) (v := ?_) ?_ hHeld ?_
        rotate_left
        · (intro ww hSw; (try dsimp only at hSw); go_simp; try with_reducible rfl)
        refine tkW 2 (some 39) (v := .bool true) ?_ hHeld ?_
        · (intro ww hSw; (try dsimp only at hSw); go_simp; (try simp); (try omega))
        refine tkW 3 (some 40) (v := ?_) ?_ hHeld ?_
        rotate_left
        · (intro ww _; go_simp; try with_reducible rfl)
        refine tkU 4 (some 41) hHeld ?_
        refine tkU 5 (some 42) hHeld ?_
        refine tkU 6 (some 43) hHeld ?_
        refine tkU 7 (some 44) hHeld ?_
        refine tkU 8 (some 45) hHeld ?_
        refine tkU 9 (some 46) hHeld ?_
        refine tkU 10 (some 47) hHeld ?_
        refine tkU 11 (some 48) hHeld ?_
        refine tkU 12 (some 49) hHeld ?_
        refine tkU 13 (some 50) hHeld ?_
        refine tkU 14 (some 51) hHeld ?_
        refine tkU 15 (some 52) hHeld ?_
        refine tkU 16 (some 53) hHeld ?_
        refine tkU 17 (some 54) hHeld ?_
        refine tkW 18 (some 55) (v := ?_) ?_ hHeld ?_
        rotate_left
        · (intro ww _; go_simp; try with_reducible rfl)
        refine tkW 19 (some 36) (v := ?_) ?_ hHeld ?_
        rotate_left
        · (intro ww _; go_simp; try with_reducible rfl)
        refine wpAnyH_done (by kernel_rfl) ?_ _
        have hc9 : Hid (ob9 < Ue3u0.heap.size ∧ Ue3u0.cell? ⟨ob9, oo9, none⟩ = some (.string o.1) ∧ Ue3u0.cell? ⟨ob9, oo9 + 1, none⟩ = some (.string o.2)) := ⟨Nat.lt_of_lt_of_le HcO0.out.1 hHeld.size, (hHeld.cell (p := ⟨ob9, oo9, none⟩) HcO0.out.1).trans HcO0.out.2.1, (hHeld.cell (p := ⟨ob9, oo9 + 1, none⟩) HcO0.out.1).trans HcO0.out.2.2⟩
        clear HcO0
        have HcO0 := hc9
        clear hc9
        have Hlow9 : Hid (w.heap.size + 2 ≤ Ue3u0.heap.size) := Nat.le_trans Hlow.out hHeld.size
        clear Hlow
        have Hlow := Hlow9
        clear Hlow9
        clear hHeld
        go_upto_region 8 with fail
        have HS0 : Hid (WlS w (w.heap.size + 2) (w.heap.size + 1) w.heap.size k (.slice va R.length vc) (R) (.slice (some ⟨ob9, oo9, none⟩) nO oc) (o :: r) (.slice aa 0 ac) ([]) Ue3u0) := HS
        refine wp_region_held_drew (S := fun W' => KeepsS (fun j => j < w.heap.size ∨ j = w.heap.size) Ue3u0 W') (by kernel_rfl) (KeepsS.of_below (Below.refl Ue3u0.heap.size Ue3u0).drew (fun j q => by have := row_lt HS0.out.s.kx; omega)) (fun hHeld => ?_)
        obtain ⟨Ud4u0, eW⟩ : ∃ X, X = Ue3u0.drew := ⟨_, rfl⟩
        have hb : Below Ue3u0.heap.size Ue3u0 Ud4u0 := by rw [eW]; exact (Below.refl _ _).drew
        replace HS : Hid (WlS w (w.heap.size + 2) (w.heap.size + 1) w.heap.size k (.slice va R.length vc) (R) (.slice (some ⟨ob9, oo9, none⟩) nO oc) (o :: r) (.slice aa 0 ac) ([]) Ud4u0) := HS.out.below hb
        rw [← eW] at hHeld ⊢
        clear eW hb
        refine tkW 1 (some 57) (v := ?_) ?_ hHeld ?_
        rotate_left
        · (intro ww hSw; (try dsimp only at hSw); obtain ⟨y0, y1⟩ := row2d ((hSw.2 w.heap.size (.inr rfl)).trans HS0.out.s.kx); go_simp; try with_reducible rfl)
        refine tkW 2 (some 58) (v := ?_) ?_ hHeld ?_
        rotate_left
        · (intro ww _; go_simp; try with_reducible rfl)
        refine tkW 3 (some 59) (v := ?_) ?_ hHeld ?_
        rotate_left
        · (intro ww hSw; (try dsimp only at hSw); go_simp; try with_reducible rfl)
        refine tkW 4 (some 60) (v := ?_) ?_ hHeld ?_
        rotate_left
        · (intro ww _; go_simp; try with_reducible rfl)
        refine tkW 5 (some 61) (v := ?_) ?_ hHeld ?_
        rotate_left
        · (intro ww hSw; (try dsimp only at hSw); have q0 : ww.cell? ⟨ob9, oo9, none⟩ = some (.string o.1) := (hSw.cell (p := ⟨ob9, oo9, none⟩) (.inl HgO.out)).trans HcO0.out.2.1; go_simp; try with_reducible rfl)
        refine tkW 6 (some 62) (v := ?_) ?_ hHeld ?_
        rotate_left
        · (intro ww hSw; (try dsimp only at hSw); go_simp; try with_reducible rfl)
        refine wpAnyH_ready (rs := [0, 7]) (by kernel_rfl) (by simp) ?_
        refine AllReadyH.cons (o := ⟨some 56, _, _, _, _, _⟩) rfl (fun K hK => ?_) (AllReadyH.cons (o := ⟨some 63, _, _, _, _, _⟩) rfl (fun K hK => ?_) AllReadyH.nil)
        · have q0 : Ud4u0.cell? ⟨w.heap.size + 1, 0, none⟩ = some (.slice va R.length vc) := (by rw [cell_of_row _ _ _ _ _ _ HS.out.s.o]; rfl)
          go_simp
          refine hK.out _ _ (hHeld) (fun hHeld2 => ?_)
          clear hK K hHeld
          have hHeld := hHeld2
          clear hHeld2
          (try simp only [Act.put, List.setIfInBounds_toArray, List.set_cons_zero, List.set_cons_succ])
          clear q0
          refine wpAnyH_ready (rs := [7]) (by kernel_rfl) (by simp) ?_
          refine AllReadyH.cons (o := ⟨some 63, _, _, _, _, _⟩) rfl (fun K hK => ?_) AllReadyH.nil
          have hbx : Below Ud4u0.heap.size Ud4u0 (Ud4u0.alloc (.cells #[.int .i64 9, .int .i64 k.1, .int .i64 k.2, .int .i64 0, .int .i64 0, .int .i64 0, .int .i64 0, .string o.1, .string ⟨#[]⟩] 45)) := (Below.refl _ _).alloc (Nat.le_refl _) _
          go_simp
          refine hK.out _ _ (hHeld.trans (KeepsS.of_below hbx (fun j q => by have := row_lt HS.out.s.kx; omega))) (fun hHeld2 => ?_)
          clear hK K hHeld
          have hHeld := hHeld2
          clear hHeld2
          (try simp only [Act.put, List.setIfInBounds_toArray, List.set_cons_zero, List.set_cons_succ])
          obtain ⟨Ud4u2, eW⟩ : ∃ X, X = Ud4u0.alloc (.cells #[.int .i64 9, .int .i64 k.1, .int .i64 k.2, .int .i64 0, .int .i64 0, .int .i64 0, .int .i64 0, .string o.1, .string ⟨#[]⟩] 45) := ⟨_, rfl⟩
          have hb : Below Ud4u0.heap.size Ud4u0 Ud4u2 := by rw [eW]; exact (Below.refl _ _).alloc (Nat.le_refl _) _
          replace HS : Hid (WlS w (w.heap.size + 2) (w.heap.size + 1) w.heap.size k (.slice va R.length vc) (R) (.slice (some ⟨ob9, oo9, none⟩) nO oc) (o :: r) (.slice aa 0 ac) ([]) Ud4u2) := HS.out.below hb
          clear hbx
          have HVb : Hid (Ud4u2.heap[Ud4u0.heap.size]? = some (.cells (paCells (pC k o)).toArray 45)) := by rw [eW]; exact heap_alloc_new _ _
          rw [← eW] at hHeld ⊢
          clear eW
          obtain ⟨qb, eqb⟩ : ∃ b, b = Ud4u0.heap.size := ⟨_, rfl⟩
          rw [← eqb] at HVb ⊢
          clear eqb
          clear hb
          refine wpAnyH_ready (rs := [8]) (by kernel_rfl) (by simp) ?_
          refine AllReadyH.cons (o := ⟨some 64, _, _, _, _, _⟩) rfl (fun K hK => ?_) AllReadyH.nil
          refine step_app1 rfl _ _ (by rfl) (w.heap.size + 2) (.slice va R.length vc) R (by rfl) HS.out.s.ow qb (pC k o) (by rfl) HVb.out (by have := HRl.out; omega) (by have := Hlow.out; have := hHeld.1; omega) ?_
          intro g3 c3 Ud4u3 ho3 hg3
          obtain ⟨hp1, hp2⟩ := HS.out.s.push hg3 ho3
          have HP : Hid (WlS w (w.heap.size + 2) (w.heap.size + 1) w.heap.size k (.slice (some ⟨g3, 0, none⟩) (R.length + 1) c3) (R ++ [pC k o]) (.slice (some ⟨ob9, oo9, none⟩) nO oc) (o :: r) (.slice aa 0 ac) ([]) (Ud4u3.setCell ⟨w.heap.size + 1, 0, none⟩ (.slice (some ⟨g3, 0, none⟩) (R.length + 1) c3))) := HS.out.touch hp1 hp2
          have hob : Ud4u3.heap[w.heap.size + 1]? = some (.cells #[(.slice va R.length vc)] 31) := (hg3.block _ (row_lt HS.out.s.o) (fun e => by have := (OwnE.lt HS.out.s.ow _ e.symm).1; omega)).trans HS.out.s.o
          have HOb := hide9 hob
          have hkp : KeepsS (fun j => j < w.heap.size ∨ j = w.heap.size) Ue3u0 Ud4u3 := hHeld.trans ⟨hg3.size, fun j q => hg3.block j (by have := row_lt HS.out.s.kx; omega) (fun e => by have := (OwnE.lt HS.out.s.ow _ e.symm).1; omega)⟩
          clear hp1 hp2 hob ho3 hg3
          refine hK.out _ _ (hkp) (fun hHeld2 => ?_)
          clear hK K hHeld
          have hHeld := hHeld2
          clear hHeld2
          (try simp only [Act.put, List.setIfInBounds_toArray, List.set_cons_zero, List.set_cons_succ])
          clear hkp HS HVb
          refine wpAnyH_ready (rs := [9]) (by kernel_rfl) (by simp) ?_
          refine AllReadyH.cons (o := ⟨none, _, _, _, _, _⟩) rfl (fun K hK => ?_) AllReadyH.nil
          have q0 : Ud4u3.cell? ⟨w.heap.size + 1, 0, none⟩ = some (.slice va R.length vc) := (by rw [cell_of_row _ _ _ _ _ _ HOb.out]; rfl)
          have q1 := frozen_of_row Ud4u3 (w.heap.size + 1) 0 _ _ HOb.out
          have hkp : KeepsS (fun j => j < w.heap.size ∨ j = w.heap.size) Ue3u0 (Ud4u3.setCell ⟨w.heap.size + 1, 0, none⟩ (.slice (some ⟨g3, 0, none⟩) (R.length + 1) c3)) := hHeld.trans ⟨(grownBy_setCell _ _ _ _).size, fun j q => RowKit.Below.heap_setCell _ _ _ _ (by show j ≠ w.heap.size + 1; omega)⟩
          go_simp
          refine hK.out _ _ (hkp) (fun hHeld2 => ?_)
          clear hK K hHeld
          have hHeld := hHeld2
          clear hHeld2
          (try simp only [Act.put, List.setIfInBounds_toArray, List.set_cons_zero, List.set_cons_succ])
          clear q0 q1 hkp HOb
          refine wpAnyH_done (by kernel_rfl) ?_ _
          clear hHeld
          obtain ⟨WA, eWA⟩ : ∃ X, X = Ud4u3.setCell ⟨w.heap.size + 1, 0, none⟩ (.slice (some ⟨g3, 0, none⟩) (R.length + 1) c3) := ⟨_, rfl⟩
          rw [← eWA] at HP ⊢
          clear eWA
          have HW2 : Hid (wrA k O0 A0 = (R ++ [pC k o]) ++ wrA k (r) ([])) := (by show _ = _; rw [HW.out]; rw [wrA, List.append_assoc]; rfl)
          by_cases hcO : oc = 1
          · have hrO := ((tlE (HTO.out HP.out.l1)).1 hcO)
            have HzO : Hid (r = []) := hrO.1
            replace hrO := hrO.2
            have HCO := hide9 hcO
            subst hcO
            have HP2 : Hid (WlS w (w.heap.size + 2) (w.heap.size + 1) w.heap.size k (.slice (some ⟨g3, 0, none⟩) (R.length + 1) c3) (R ++ [pC k o]) (.slice (some ⟨ob9, oo9, none⟩) (nO - 1) 0) (r) (.slice aa 0 ac) ([]) WA) := ⟨HP.out.s, (by rw [pO4]; rw [HzO.out]; exact LsE.nil _ _ _), HP.out.l2, HP.out.bel, HP.out.lo⟩
            clear HP hrO
            go_wp2
            go_roundg ((nO - 1) + 0)
            case rel => exact ⟨_, (nO - 1), _, _, 0, _, r, [], R ++ [pC k o], (.slice (some ⟨g3, 0, none⟩) (R.length + 1) c3), by go_num, by go_num, rfl, ⟨pO4, Hn.out.2⟩, HP2, HW2⟩
            case measure => have := HlO.out; omega
          · have hrO := ((tlE (HTO.out HP.out.l1)).2 hcO)
            have c1O : ¬ (oc : Int) = 1 := by omega
            have c2O : (1 : Int) ≤ (oc : Int) := by have := HcO.out; omega
            have HP2 : Hid (WlS w (w.heap.size + 2) (w.heap.size + 1) w.heap.size k (.slice (some ⟨g3, 0, none⟩) (R.length + 1) c3) (R ++ [pC k o]) (.slice (some ⟨ob9, oo9 + 2, none⟩) (nO - 1) (oc - 1)) (r) (.slice aa 0 ac) ([]) WA) := ⟨HP.out.s, (by rw [pO4]; exact hrO), HP.out.l2, HP.out.bel, HP.out.lo⟩
            clear HP hrO
            go_wp2
            go_roundg ((nO - 1) + 0)
            case rel => exact ⟨_, (nO - 1), _, _, 0, _, r, [], R ++ [pC k o], (.slice (some ⟨g3, 0, none⟩) (R.length + 1) c3), by go_num, by go_num, rfl, ⟨pO4, Hn.out.2⟩, HP2, HW2⟩
            case measure => have := HlO.out; omega
        · have hbx : Below Ud4u0.heap.size Ud4u0 (Ud4u0.alloc (.cells #[.int .i64 9, .int .i64 k.1, .int .i64 k.2, .int .i64 0, .int .i64 0, .int .i64 0, .int .i64 0, .string o.1, .string ⟨#[]⟩] 45)) := (Below.refl _ _).alloc (Nat.le_refl _) _
          go_simp
          refine hK.out _ _ (hHeld.trans (KeepsS.of_below hbx (fun j q => by have := row_lt HS.out.s.kx; omega))) (fun hHeld2 => ?_)
          clear hK K hHeld
          have hHeld := hHeld2
          clear hHeld2
          (try simp only [Act.put, List.setIfInBounds_toArray, List.set_cons_zero, List.set_cons_succ])
          obtain ⟨Ud4u5, eW⟩ : ∃ X, X = Ud4u0.alloc (.cells #[.int .i64 9, .int .i64 k.1, .int .i64 k.2, .int .i64 0, .int .i64 0, .int .i64 0, .int .i64 0, .string o.1, .string ⟨#[]⟩] 45) := ⟨_, rfl⟩
          have hb : Below Ud4u0.heap.size Ud4u0 Ud4u5 := by rw [eW]; exact (Below.refl _ _).alloc (Nat.le_refl _) _
          replace HS : Hid (WlS w (w.heap.size + 2) (w.heap.size + 1) w.heap.size k (.slice va R.length vc) (R) (.slice (some ⟨ob9, oo9, none⟩) nO oc) (o :: r) (.slice aa 0 ac) ([]) Ud4u5) := HS.out.below hb
          clear hbx
          have HVb : Hid (Ud4u5.heap[Ud4u0.heap.size]? = some (.cells (paCells (pC k o)).toArray 45)) := by rw [eW]; exact heap_alloc_new _ _
          rw [← eW] at hHeld ⊢
          clear eW
          obtain ⟨qb, eqb⟩ : ∃ b, b = Ud4u0.heap.size := ⟨_, rfl⟩
          rw [← eqb] at HVb ⊢
          clear eqb
          clear hb
          refine wpAnyH_ready (rs := [0]) (by kernel_rfl) (by simp) ?_
          refine AllReadyH.cons (o := ⟨some 56, _, _, _, _, _⟩) rfl (fun K hK => ?_) AllReadyH.nil
          have q0 : Ud4u5.cell? ⟨w.heap.size + 1, 0, none⟩ = some (.slice va R.length vc) := (by rw [cell_of_row _ _ _ _ _ _ HS.out.s.o]; rfl)
          go_simp
          refine hK.out _ _ (hHeld) (fun hHeld2 => ?_)
          clear hK K hHeld
          have hHeld := hHeld2
          clear hHeld2
          (try simp only [Act.put, List.setIfInBounds_toArray, List.set_cons_zero, List.set_cons_succ])
          clear q0
          refine wpAnyH_ready (rs := [8]) (by kernel_rfl) (by simp) ?_
          refine AllReadyH.cons (o := ⟨some 64, _, _, _, _, _⟩) rfl (fun K hK => ?_) AllReadyH.nil
          refine step_app1 rfl _ _ (by rfl) (w.heap.size + 2) (.slice va R.length vc) R (by rfl) HS.out.s.ow qb (pC k o) (by rfl) HVb.out (by have := HRl.out; omega) (by have := Hlow.out; have := hHeld.1; omega) ?_
          intro g3 c3 Ud4u7 ho3 hg3
          obtain ⟨hp1, hp2⟩ := HS.out.s.push hg3 ho3
          have HP : Hid (WlS w (w.heap.size + 2) (w.heap.size + 1) w.heap.size k (.slice (some ⟨g3, 0, none⟩) (R.length + 1) c3) (R ++ [pC k o]) (.slice (some ⟨ob9, oo9, none⟩) nO oc) (o :: r) (.slice aa 0 ac) ([]) (Ud4u7.setCell ⟨w.heap.size + 1, 0, none⟩ (.slice (some ⟨g3, 0, none⟩) (R.length + 1) c3))) := HS.out.touch hp1 hp2
          have hob : Ud4u7.heap[w.heap.size + 1]? = some (.cells #[(.slice va R.length vc)] 31) := (hg3.block _ (row_lt HS.out.s.o) (fun e => by have := (OwnE.lt HS.out.s.ow _ e.symm).1; omega)).trans HS.out.s.o
          have HOb := hide9 hob
          have hkp : KeepsS (fun j => j < w.heap.size ∨ j = w.heap.size) Ue3u0 Ud4u7 := hHeld.trans ⟨hg3.size, fun j q => hg3.block j (by have := row_lt HS.out.s.kx; omega) (fun e => by have := (OwnE.lt HS.out.s.ow _ e.symm).1; omega)⟩
          clear hp1 hp2 hob ho3 hg3
          refine hK.out _ _ (hkp) (fun hHeld2 => ?_)
          clear hK K hHeld
          have hHeld := hHeld2
          clear hHeld2
          (try simp only [Act.put, List.setIfInBounds_toArray, List.set_cons_zero, List.set_cons_succ])
          clear hkp HS HVb
          refine wpAnyH_ready (rs := [9]) (by kernel_rfl) (by simp) ?_
          refine AllReadyH.cons (o := ⟨none, _, _, _, _, _⟩) rfl (fun K hK => ?_) AllReadyH.nil
          have q0 : Ud4u7.cell? ⟨w.heap.size + 1, 0, none⟩ = some (.slice va R.length vc) := (by rw [cell_of_row _ _ _ _ _ _ HOb.out]; rfl)
          have q1 := frozen_of_row Ud4u7 (w.heap.size + 1) 0 _ _ HOb.out
          have hkp : KeepsS (fun j => j < w.heap.size ∨ j = w.heap.size) Ue3u0 (Ud4u7.setCell ⟨w.heap.size + 1, 0, none⟩ (.slice (some ⟨g3, 0, none⟩) (R.length + 1) c3)) := hHeld.trans ⟨(grownBy_setCell _ _ _ _).size, fun j q => RowKit.Below.heap_setCell _ _ _ _ (by show j ≠ w.heap.size + 1; omega)⟩
          go_simp
          refine hK.out _ _ (hkp) (fun hHeld2 => ?_)
          clear hK K hHeld
          have hHeld := hHeld2
          clear hHeld2
          (try simp only [Act.put, List.setIfInBounds_toArray, List.set_cons_zero, List.set_cons_succ])
          clear q0 q1 hkp HOb
          refine wpAnyH_done (by kernel_rfl) ?_ _
          clear hHeld
          obtain ⟨WA, eWA⟩ : ∃ X, X = Ud4u7.setCell ⟨w.heap.size + 1, 0, none⟩ (.slice (some ⟨g3, 0, none⟩) (R.length + 1) c3) := ⟨_, rfl⟩
          rw [← eWA] at HP ⊢
          clear eWA
          have HW2 : Hid (wrA k O0 A0 = (R ++ [pC k o]) ++ wrA k (r) ([])) := (by show _ = _; rw [HW.out]; rw [wrA, List.append_assoc]; rfl)
          by_cases hcO : oc = 1
          · have hrO := ((tlE (HTO.out HP.out.l1)).1 hcO)
            have HzO : Hid (r = []) := hrO.1
            replace hrO := hrO.2
            have HCO := hide9 hcO
            subst hcO
            have HP2 : Hid (WlS w (w.heap.size + 2) (w.heap.size + 1) w.heap.size k (.slice (some ⟨g3, 0, none⟩) (R.length + 1) c3) (R ++ [pC k o]) (.slice (some ⟨ob9, oo9, none⟩) (nO - 1) 0) (r) (.slice aa 0 ac) ([]) WA) := ⟨HP.out.s, (by rw [pO4]; rw [HzO.out]; exact LsE.nil _ _ _), HP.out.l2, HP.out.bel, HP.out.lo⟩
            clear HP hrO
            go_wp2
            go_roundg ((nO - 1) + 0)
            case rel => exact ⟨_, (nO - 1), _, _, 0, _, r, [], R ++ [pC k o], (.slice (some ⟨g3, 0, none⟩) (R.length + 1) c3), by go_num, by go_num, rfl, ⟨pO4, Hn.out.2⟩, HP2, HW2⟩
            case measure => have := HlO.out; omega
          · have hrO := ((tlE (HTO.out HP.out.l1)).2 hcO)
            have c1O : ¬ (oc : Int) = 1 := by omega
            have c2O : (1 : Int) ≤ (oc : Int) := by have := HcO.out; omega
            have HP2 : Hid (WlS w (w.heap.size + 2) (w.heap.size + 1) w.heap.size k (.slice (some ⟨g3, 0, none⟩) (R.length + 1) c3) (R ++ [pC k o]) (.slice (some ⟨ob9, oo9 + 2, none⟩) (nO - 1) (oc - 1)) (r) (.slice aa 0 ac) ([]) WA) := ⟨HP.out.s, (by rw [pO4]; exact hrO), HP.out.l2, HP.out.bel, HP.out.lo⟩
            clear HP hrO
            go_wp2
            go_roundg ((nO - 1) + 0)
            case rel => exact ⟨_, (nO - 1), _, _, 0, _, r, [], R ++ [pC k o], (.slice (some ⟨g3, 0, none⟩) (R.length + 1) c3), by go_num, by go_num, rfl, ⟨pO4, Hn.out.2⟩, HP2, HW2⟩
            case measure => have := HlO.out; omega
      · obtain ⟨o, r, eO⟩ : ∃ y z, O = y :: z := (by cases h9 : O with | nil => have h8 := Hn.out.1; rw [h9] at h8; simp at h8; omega | cons y z => exact ⟨y, z, rfl⟩)
        subst eO
        obtain ⟨ob9, oo9, cc, e9, hcc, hg9, hl9, hq0, hq1⟩ := hdE HS.out.l1
        injection e9 with e8 e7 e6
        subst e8 e6
        have HcO : Hid (1 ≤ oc) := (by show _ ≤ _; omega)
        have HgO : Hid (ob9 < w.heap.size) := hg9
        have HcO0 : Hid (ob9 < wr.heap.size ∧ wr.cell? ⟨ob9, oo9, none⟩ = some (.string o.1) ∧ wr.cell? ⟨ob9, oo9 + 1, none⟩ = some (.string o.2)) := ⟨hl9, hq0, hq1⟩
        have HlO : Hid (nO = r.length + 1) := e7
        have HTO : Hid (∀ {W9 : World}, LsE atCells 2 (fun k => k < w.heap.size) W9 (.slice (some ⟨ob9, oo9, none⟩) nO oc) (o :: r) → LsE atCells 2 (fun k => k < w.heap.size) W9 (.slice (some ⟨ob9, oo9, none⟩) (r.length + 1) oc) (o :: r)) := fun h => (by rw [← HlO.out]; exact h)
        have pO1 : (0 : Int) < (nO : Int) := by omega
        have pO2 : ¬ (nO : Int) = 0 := by omega
        have pO3 : (1 : Int) ≤ (nO : Int) := by omega
        have pO4 : nO - 1 = r.length := by omega
        have pO5 : 0 < nO := by omega
        clear e7 hcc hg9 hl9 hq0 hq1 hO
        obtain ⟨a, s, eA⟩ : ∃ y z, A = y :: z := (by cases h9 : A with | nil => have h8 := Hn.out.2; rw [h9] at h8; simp at h8; omega | cons y z => exact ⟨y, z, rfl⟩)
        subst eA
        obtain ⟨ab9, ao9, cc, e9, hcc, hg9, hl9, hq0, hq1⟩ := hdE HS.out.l2
        injection e9 with e8 e7 e6
        subst e8 e6
        have HcA : Hid (1 ≤ ac) := (by show _ ≤ _; omega)
        have HgA : Hid (ab9 < w.heap.size) := hg9
        have HcA0 : Hid (ab9 < wr.heap.size ∧ wr.cell? ⟨ab9, ao9, none⟩ = some (.string a.1) ∧ wr.cell? ⟨ab9, ao9 + 1, none⟩ = some (.string a.2)) := ⟨hl9, hq0, hq1⟩
        have HlA : Hid (nA = s.length + 1) := e7
        have HTA : Hid (∀ {W9 : World}, LsE atCells 2 (fun k => k < w.heap.size) W9 (.slice (some ⟨ab9, ao9, none⟩) nA ac) (a :: s) → LsE atCells 2 (fun k => k < w.heap.size) W9 (.slice (some ⟨ab9, ao9, none⟩) (s.length + 1) ac) (a :: s)) := fun h => (by rw [← HlA.out]; exact h)
        have pA1 : (0 : Int) < (nA : Int) := by omega
        have pA2 : ¬ (nA : Int) = 0 := by omega
        have pA3 : (1 : Int) ≤ (nA : Int) := by omega
        have pA4 : nA - 1 = s.length := by omega
        have pA5 : 0 < nA := by omega
        clear e7 hcc hg9 hl9 hq0 hq1 hA
        obtain ⟨lt, elt⟩ : ∃ b, b = ltT o.1 a.1 := ⟨_, rfl⟩
        have Hlt := hide9 elt
        clear elt
        have Hlt1 := Hlt
        go_upto_region 7 with fail
        cases lt with
        | true =>
          refine wp_region_held_drew (S := fun W' => Below wr.heap.size wr W') (by kernel_rfl) (Below.refl _ _).drew (fun hHeld => ?_)
          obtain ⟨Ug5u0, eW⟩ : ∃ X, X = wr.drew := ⟨_, rfl⟩
          have hb : Below wr.heap.size wr Ug5u0 := by rw [eW]; exact (Below.refl _ _).drew
          replace HS : Hid (WlS w (w.heap.size + 2) (w.heap.size + 1) w.heap.size k (.slice va R.length vc) (R) (.slice (some ⟨ob9, oo9, none⟩) nO oc) (o :: r) (.slice (some ⟨ab9, ao9, none⟩) nA ac) (a :: s) Ug5u0) := HS.out.below hb
          rw [← eW] at hHeld ⊢
          clear eW hb
          refine tkW 0 (some 37) (v := ?_) ?_ hHeld ?_
          rotate_left
          · (intro ww _; go_simp; try with_reducible rfl)
          refine tkW 1 (some 38) (v := ?_) ?_ hHeld ?_
          rotate_left
          · (intro ww hSw; (try dsimp only at hSw); go_simp; try with_reducible rfl)
          refine tkW 2 (some 39) (v := .bool false) ?_ hHeld ?_
          · (intro ww hSw; (try dsimp only at hSw); go_simp; (try simp); (try omega))
          refine tkW 3 (some 40) (v := ?_) ?_ hHeld ?_
          rotate_left
          · (intro ww _; go_simp; try with_reducible rfl)
          refine tkW 4 (some 41) (v := ?_) ?_ hHeld ?_
          rotate_left
          · (intro ww _; go_simp; try with_reducible rfl)
          refine tkW 5 (some 42) (v := ?_) ?_ hHeld ?_
          rotate_left
          · (intro ww hSw; (try dsimp only at hSw); go_simp; try with_reducible rfl)
          refine tkW 6 (some 43) (v := .bool true) ?_ hHeld ?_
          · (intro ww hSw; (try dsimp only at hSw); go_simp; (try simp); (try omega))
          refine tkW 7 (some 44) (v := ?_) ?_ hHeld ?_
          rotate_left
          · (intro ww _; go_simp; try with_reducible rfl)
          refine tkW 8 (some 45) (v := ?_) ?_ hHeld ?_
          rotate_left
          · (intro ww _; go_simp; try with_reducible rfl)
          refine tkW 9 (some 46) (v := ?_) ?_ hHeld ?_
          rotate_left
          · (intro ww hSw; (try dsimp only at hSw); go_simp; try with_reducible rfl)
          refine tkW 10 (some 47) (v := ?_) ?_ hHeld ?_
          rotate_left
          · (intro ww _; go_simp; try with_reducible rfl)
          refine tkW 11 (some 48) (v := ?_) ?_ hHeld ?_
          rotate_left
          · (intro ww hSw; (try dsimp only at hSw); have q0 : ww.cell? ⟨ob9, oo9, none⟩ = some (.string o.1) := (hSw.cell (p := ⟨ob9, oo9, none⟩) HcO0.out.1).trans HcO0.out.2.1; go_simp; try with_reducible rfl)
          refine tkW 12 (some 49) (v := ?_) ?_ hHeld ?_
          rotate_left
          · (intro ww _; go_simp; try with_reducible rfl)
          refine tkW 13 (some 50) (v := ?_) ?_ hHeld ?_
          rotate_left
          · (intro ww hSw; (try dsimp only at hSw); go_simp; try with_reducible rfl)
          refine tkW 14 (some 51) (v := ?_) ?_ hHeld ?_
          rotate_left
          · (intro ww _; go_simp; try with_reducible rfl)
          refine tkW 15 (some 52) (v := ?_) ?_ hHeld ?_
          rotate_left
          · (intro ww hSw; (try dsimp only at hSw); have q0 : ww.cell? ⟨ab9, ao9, none⟩ = some (.string a.1) := (hSw.cell (p := ⟨ab9, ao9, none⟩) HcA0.out.1).trans HcA0.out.2.1; go_simp; try with_reducible rfl)
          refine tkW 16 (some 53) (v := .bool true) ?_ hHeld ?_
          · (intro ww hSw; (try dsimp only at hSw); go_simp; rw [txt_less]; exact Hlt.out.symm)
          refine tkW 17 (some 54) (v := ?_) ?_ hHeld ?_
          rotate_left
          · (intro ww _; go_simp; try with_reducible rfl)
          refine tkW 18 (some 55) (v := ?_) ?_ hHeld ?_
          rotate_left
          · (intro ww _; go_simp; try with_reducible rfl)
          refine tkW 19 (some 36) (v := ?_) ?_ hHeld ?_
          rotate_left
          · (intro ww _; go_simp; try with_reducible rfl)
          refine wpAnyH_done (by kernel_rfl) ?_ _
          have hc9 : Hid (ob9 < Ug5u0.heap.size ∧ Ug5u0.cell? ⟨ob9, oo9, none⟩ = some (.string o.1) ∧ Ug5u0.cell? ⟨ob9, oo9 + 1, none⟩ = some (.string o.2)) := ⟨Nat.lt_of_lt_of_le HcO0.out.1 hHeld.size, (hHeld.cell (p := ⟨ob9, oo9, none⟩) HcO0.out.1).trans HcO0.out.2.1, (hHeld.cell (p := ⟨ob9, oo9 + 1, none⟩) HcO0.out.1).trans HcO0.out.2.2⟩
          clear HcO0
          have HcO0 := hc9
          clear hc9
          have hc9 : Hid (ab9 < Ug5u0.heap.size ∧ Ug5u0.cell? ⟨ab9, ao9, none⟩ = some (.string a.1) ∧ Ug5u0.cell? ⟨ab9, ao9 + 1, none⟩ = some (.string a.2)) := ⟨Nat.lt_of_lt_of_le HcA0.out.1 hHeld.size, (hHeld.cell (p := ⟨ab9, ao9, none⟩) HcA0.out.1).trans HcA0.out.2.1, (hHeld.cell (p := ⟨ab9, ao9 + 1, none⟩) HcA0.out.1).trans HcA0.out.2.2⟩
          clear HcA0
          have HcA0 := hc9
          clear hc9
          have Hlow9 : Hid (w.heap.size + 2 ≤ Ug5u0.heap.size) := Nat.le_trans Hlow.out hHeld.size
          clear Hlow
          have Hlow := Hlow9
          clear Hlow9
          clear hHeld
          go_upto_region 8 with fail
          have HS0 : Hid (WlS w (w.heap.size + 2) (w.heap.size + 1) w.heap.size k (.slice va R.length vc) (R) (.slice (some ⟨ob9, oo9, none⟩) nO oc) (o :: r) (.slice (some ⟨ab9, ao9, none⟩) nA ac) (a :: s) Ug5u0) := HS
          refine wp_region_held_drew (S := fun W' => KeepsS (fun j => j < w.heap.size ∨ j = w.heap.size) Ug5u0 W') (by kernel_rfl) (KeepsS.of_below (Below.refl Ug5u0.heap.size Ug5u0).drew (fun j q => by have := row_lt HS0.out.s.kx; omega)) (fun hHeld => ?_)
          obtain ⟨Uf6u0, eW⟩ : ∃ X, X = Ug5u0.drew := ⟨_, rfl⟩
          have hb : Below Ug5u0.heap.size Ug5u0 Uf6u0 := by rw [eW]; exact (Below.refl _ _).drew
          replace HS : Hid (WlS w (w.heap.size + 2) (w.heap.size + 1) w.heap.size k (.slice va R.length vc) (R) (.slice (some ⟨ob9, oo9, none⟩) nO oc) (o :: r) (.slice (some ⟨ab9, ao9, none⟩) nA ac) (a :: s) Uf6u0) := HS.out.below hb
          rw [← eW] at hHeld ⊢
          clear eW hb
          refine tkW 1 (some 57) (v := ?_) ?_ hHeld ?_
          rotate_left
          · (intro ww hSw; (try dsimp only at hSw); obtain ⟨y0, y1⟩ := row2d ((hSw.2 w.heap.size (.inr rfl)).trans HS0.out.s.kx); go_simp; try with_reducible rfl)
          refine tkW 2 (some 58) (v := ?_) ?_ hHeld ?_
          rotate_left
          · (intro ww _; go_simp; try with_reducible rfl)
          refine tkW 3 (some 59) (v := ?_) ?_ hHeld ?_
          rotate_left
          · (intro ww hSw; (try dsimp only at hSw); go_simp; try with_reducible rfl)
          refine tkW 4 (some 60) (v := ?_) ?_ hHeld ?_
          rotate_left
          · (intro ww _; go_simp; try with_reducible rfl)
          refine tkW 5 (some 61) (v := ?_) ?_ hHeld ?_
          rotate_left
          · (intro ww hSw; (try dsimp only at hSw); have q0 : ww.cell? ⟨ob9, oo9, none⟩ = some (.string o.1) := (hSw.cell (p := ⟨ob9, oo9, none⟩) (.inl HgO.out)).trans HcO0.out.2.1; go_simp; try with_reducible rfl)
          refine tkW 6 (some 62) (v := ?_) ?_ hHeld ?_
          rotate_left
          · (intro ww hSw; (try dsimp only at hSw); go_simp; try with_reducible rfl)
          refine wpAnyH_ready (rs := [0, 7]) (by kernel_rfl) (by simp) ?_
          refine AllReadyH.cons (o := ⟨some 56, _, _, _, _, _⟩) rfl (fun K hK => ?_) (AllReadyH.cons (o := ⟨some 63, _, _, _, _, _⟩) rfl (fun K hK => ?_) AllReadyH.nil)
          · have q0 : Uf6u0.cell? ⟨w.heap.size + 1, 0, none⟩ = some (.slice va R.length vc) := (by rw [cell_of_row _ _ _ _ _ _ HS.out.s.o]; rfl)
            go_simp
            refine hK.out _ _ (hHeld) (fun hHeld2 => ?_)
            clear hK K hHeld
            have hHeld := hHeld2
            clear hHeld2
            (try simp only [Act.put, List.setIfInBounds_toArray, List.set_cons_zero, List.set_cons_succ])
            clear q0
            refine wpAnyH_ready (rs := [7]) (by kernel_rfl) (by simp) ?_
            refine AllReadyH.cons (o := ⟨some 63, _, _, _, _, _⟩) rfl (fun K hK => ?_) AllReadyH.nil
            have hbx : Below Uf6u0.heap.size Uf6u0 (Uf6u0.alloc (.cells #[.int .i64 9, .int .i64 k.1, .int .i64 k.2, .int .i64 0, .int .i64 0, .int .i64 0, .int .i64 0, .string o.1, .string ⟨#[]⟩] 45)) := (Below.refl _ _).alloc (Nat.le_refl _) _
            go_simp
            refine hK.out _ _ (hHeld.trans (KeepsS.of_below hbx (fun j q => by have := row_lt HS.out.s.kx; omega))) (fun hHeld2 => ?_)
            clear hK K hHeld
            have hHeld := hHeld2
            clear hHeld2
            (try simp only [Act.put, List.setIfInBounds_toArray, List.set_cons_zero, List.set_cons_succ])
            obtain ⟨Uf6u2, eW⟩ : ∃ X, X = Uf6u0.alloc (.cells #[.int .i64 9, .int .i64 k.1, .int .i64 k.2, .int .i64 0, .int .i64 0, .int .i64 0, .int .i64 0, .string o.1, .string ⟨#[]⟩] 45) := ⟨_, rfl⟩
            have hb : Below Uf6u0.heap.size Uf6u0 Uf6u2 := by rw [eW]; exact (Below.refl _ _).alloc (Nat.le_refl _) _
            replace HS : Hid (WlS w (w.heap.size + 2) (w.heap.size + 1) w.heap.size k (.slice va R.length vc) (R) (.slice (some ⟨ob9, oo9, none⟩) nO oc) (o :: r) (.slice (some ⟨ab9, ao9, none⟩) nA ac) (a :: s) Uf6u2) := HS.out.below hb
            clear hbx
            have HVb : Hid (Uf6u2.heap[Uf6u0.heap.size]? = some (.cells (paCells (pC k o)).toArray 45)) := by rw [eW]; exact heap_alloc_new _ _
            rw [← eW] at hHeld ⊢
            clear eW
            obtain ⟨qb, eqb⟩ : ∃ b, b = Uf6u0.heap.size := ⟨_, rfl⟩
            rw [← eqb] at HVb ⊢
            clear eqb
            clear hb
            refine wpAnyH_ready (rs := [8]) (by kernel_rfl) (by simp) ?_
            refine AllReadyH.cons (o := ⟨some 64, _, _, _, _, _⟩) rfl (fun K hK => ?_) AllReadyH.nil
            refine step_app1 rfl _ _ (by rfl) (w.heap.size + 2) (.slice va R.length vc) R (by rfl) HS.out.s.ow qb (pC k o) (by rfl) HVb.out (by have := HRl.out; omega) (by have := Hlow.out; have := hHeld.1; omega) ?_
            intro g3 c3 Uf6u3 ho3 hg3
            obtain ⟨hp1, hp2⟩ := HS.out.s.push hg3 ho3
            have HP : Hid (WlS w (w.heap.size + 2) (w.heap.size + 1) w.heap.size k (.slice (some ⟨g3, 0, none⟩) (R.length + 1) c3) (R ++ [pC k o]) (.slice (some ⟨ob9, oo9, none⟩) nO oc) (o :: r) (.slice (some ⟨ab9, ao9, none⟩) nA ac) (a :: s) (Uf6u3.setCell ⟨w.heap.size + 1, 0, none⟩ (.slice (some ⟨g3, 0, none⟩) (R.length + 1) c3))) := HS.out.touch hp1 hp2
            have hob : Uf6u3.heap[w.heap.size + 1]? = some (.cells #[(.slice va R.length vc)] 31) := (hg3.block _ (row_lt HS.out.s.o) (fun e => by have := (OwnE.lt HS.out.s.ow _ e.symm).1; omega)).trans HS.out.s.o
            have HOb := hide9 hob
            have hkp : KeepsS (fun j => j < w.heap.size ∨ j = w.heap.size) Ug5u0 Uf6u3 := hHeld.trans ⟨hg3.size, fun j q => hg3.block j (by have := row_lt HS.out.s.kx; omega) (fun e => by have := (OwnE.lt HS.out.s.ow _ e.symm).1; omega)⟩
            clear hp1 hp2 hob ho3 hg3
            refine hK.out _ _ (hkp) (fun hHeld2 => ?_)
            clear hK K hHeld
            have hHeld := hHeld2
            clear hHeld2
            (try simp only [Act.put, List.setIfInBounds_toArray, List.set_cons_zero, List.set_cons_succ])
            clear hkp HS HVb
            refine wpAnyH_ready (rs := [9]) (by kernel_rfl) (by simp) ?_
            refine AllReadyH.cons (o := ⟨none, _, _, _, _, _⟩) rfl (fun K hK => ?_) AllReadyH.nil
            have q0 : Uf6u3.cell? ⟨w.heap.size + 1, 0, none⟩ = some (.slice va R.length vc) := (by rw [cell_of_row _ _ _ _ _ _ HOb.out]; rfl)
            have q1 := frozen_of_row Uf6u3 (w.heap.size + 1) 0 _ _ HOb.out
            have hkp : KeepsS (fun j => j < w.heap.size ∨ j = w.heap.size) Ug5u0 (Uf6u3.setCell ⟨w.heap.size + 1, 0, none⟩ (.slice (some ⟨g3, 0, none⟩) (R.length + 1) c3)) := hHeld.trans ⟨(grownBy_setCell _ _ _ _).size, fun j q => RowKit.Below.heap_setCell _ _ _ _ (by show j ≠ w.heap.size + 1; omega)⟩
            go_simp
            refine hK.out _ _ (hkp) (fun hHeld2 => ?_)
            clear hK K hHeld
            have hHeld := hHeld2
            clear hHeld2
            (try simp only [Act.put, List.setIfInBounds_toArray, List.set_cons_zero, List.set_cons_succ])
            clear q0 q1 hkp HOb
            refine wpAnyH_done (by kernel_rfl) ?_ _
            clear hHeld
            obtain ⟨WA, eWA⟩ : ∃ X, X = Uf6u3.setCell ⟨w.heap.size + 1, 0, none⟩ (.slice (some ⟨g3, 0, none⟩) (R.length + 1) c3) := ⟨_, rfl⟩
            rw [← eWA] at HP ⊢
            clear eWA
            have HW2 : Hid (wrA k O0 A0 = (R ++ [pC k o]) ++ wrA k (r) (a :: s)) := (by show _ = _; rw [HW.out]; rw [wrA, if_pos Hlt1.out.symm, List.append_assoc]; rfl)
            by_cases hcO : oc = 1
            · have hrO := ((tlE (HTO.out HP.out.l1)).1 hcO)
              have HzO : Hid (r = []) := hrO.1
              replace hrO := hrO.2
              have HCO := hide9 hcO
              subst hcO
              have HP2 : Hid (WlS w (w.heap.size + 2) (w.heap.size + 1) w.heap.size k (.slice (some ⟨g3, 0, none⟩) (R.length + 1) c3) (R ++ [pC k o]) (.slice (some ⟨ob9, oo9, none⟩) (nO - 1) 0) (r) (.slice (some ⟨ab9, ao9, none⟩) nA ac) (a :: s) WA) := ⟨HP.out.s, (by rw [pO4]; rw [HzO.out]; exact LsE.nil _ _ _), HP.out.l2, HP.out.bel, HP.out.lo⟩
              clear HP hrO
              go_wp2
              go_roundg ((nO - 1) + nA)
              case rel => exact ⟨_, (nO - 1), _, _, nA, _, r, a :: s, R ++ [pC k o], (.slice (some ⟨g3, 0, none⟩) (R.length + 1) c3), by go_num, by go_num, rfl, ⟨pO4, Hn.out.2⟩, HP2, HW2⟩
              case measure => have := HlO.out; have := HlA.out; omega
            · have hrO := ((tlE (HTO.out HP.out.l1)).2 hcO)
              have c1O : ¬ (oc : Int) = 1 := by omega
              have c2O : (1 : Int) ≤ (oc : Int) := by have := HcO.out; omega
              have HP2 : Hid (WlS w (w.heap.size + 2) (w.heap.size + 1) w.heap.size k (.slice (some ⟨g3, 0, none⟩) (R.length + 1) c3) (R ++ [pC k o]) (.slice (some ⟨ob9, oo9 + 2, none⟩) (nO - 1) (oc - 1)) (r) (.slice (some ⟨ab9, ao9, none⟩) nA ac) (a :: s) WA) := ⟨HP.out.s, (by rw [pO4]; exact hrO), HP.out.l2, HP.out.bel, HP.out.lo⟩
              clear HP hrO
              go_wp2
              go_roundg ((nO - 1) + nA)
              case rel => exact ⟨_, (nO - 1), _, _, nA, _, r, a :: s, R ++ [pC k o], (.slice (some ⟨g3, 0, none⟩) (R.length + 1) c3), by go_num, by go_num, rfl, ⟨pO4, Hn.out.2⟩, HP2, HW2⟩
              case measure => have := HlO.out; have := HlA.out; omega
          · have hbx : Below Uf6u0.heap.size Uf6u0 (Uf6u0.alloc (.cells #[.int .i64 9, .int .i64 k.1, .int .i64 k.2, .int .i64 0, .int .i64 0, .int .i64 0, .int .i64 0, .string o.1, .string ⟨#[]⟩] 45)) := (Below.refl _ _).alloc (Nat.le_refl _) _
            go_simp
            refine hK.out _ _ (hHeld.trans (KeepsS.of_below hbx (fun j q => by have := row_lt HS.out.s.kx; omega))) (fun hHeld2 => ?_)
            clear hK K hHeld
            have hHeld := hHeld2
            clear hHeld2
            (try simp only [Act.put, List.setIfInBounds_toArray, List.set_cons_zero, List.set_cons_succ])
            obtain ⟨Uf6u5, eW⟩ : ∃ X, X = Uf6u0.alloc (.cells #[.int .i64 9, .int .i64 k.1, .int .i64 k.2, .int .i64 0, .int .i64 0, .int .i64 0, .int .i64 0, .string o.1, .string ⟨#[]⟩] 45) := ⟨_, rfl⟩
            have hb : Below Uf6u0.heap.size Uf6u0 Uf6u5 := by rw [eW]; exact (Below.refl _ _).alloc (Nat.le_refl _) _
            replace HS : Hid (WlS w (w.heap.size + 2) (w.heap.size + 1) w.heap.size k (.slice va R.length vc) (R) (.slice (some ⟨ob9, oo9, none⟩) nO oc) (o :: r) (.slice (some ⟨ab9, ao9, none⟩) nA ac) (a :: s) Uf6u5) := HS.out.below hb
            clear hbx
            have HVb : Hid (Uf6u5.heap[Uf6u0.heap.size]? = some (.cells (paCells (pC k o)).toArray 45)) := by rw [eW]; exact heap_alloc_new _ _
            rw [← eW] at hHeld ⊢
            clear eW
            obtain ⟨qb, eqb⟩ : ∃ b, b = Uf6u0.heap.size := ⟨_, rfl⟩
            rw [← eqb] at HVb ⊢
            clear eqb
            clear hb
            refine wpAnyH_ready (rs := [0]) (by kernel_rfl) (by simp) ?_
            refine AllReadyH.cons (o := ⟨some 56, _, _, _, _, _⟩) rfl (fun K hK => ?_) AllReadyH.nil
            have q0 : Uf6u5.cell? ⟨w.heap.size + 1, 0, none⟩ = some (.slice va R.length vc) := (by rw [cell_of_row _ _ _ _ _ _ HS.out.s.o]; rfl)
            go_simp
            refine hK.out _ _ (hHeld) (fun hHeld2 => ?_)
            clear hK K hHeld
            have hHeld := hHeld2
            clear hHeld2
            (try simp only [Act.put, List.setIfInBounds_toArray, List.set_cons_zero, List.set_cons_succ])
            clear q0
            refine wpAnyH_ready (rs := [8]) (by kernel_rfl) (by simp) ?_
            refine AllReadyH.cons (o := ⟨some 64, _, _, _, _, _⟩) rfl (fun K hK => ?_) AllReadyH.nil
            refine step_app1 rfl _ _ (by rfl) (w.heap.size + 2) (.slice va R.length vc) R (by rfl) HS.out.s.ow qb (pC k o) (by rfl) HVb.out (by have := HRl.out; omega) (by have := Hlow.out; have := hHeld.1; omega) ?_
            intro g3 c3 Uf6u7 ho3 hg3
            obtain ⟨hp1, hp2⟩ := HS.out.s.push hg3 ho3
            have HP : Hid (WlS w (w.heap.size + 2) (w.heap.size + 1) w.heap.size k (.slice (some ⟨g3, 0, none⟩) (R.length + 1) c3) (R ++ [pC k o]) (.slice (some ⟨ob9, oo9, none⟩) nO oc) (o :: r) (.slice (some ⟨ab9, ao9, none⟩) nA ac) (a :: s) (Uf6u7.setCell ⟨w.heap.size + 1, 0, none⟩ (.slice (some ⟨g3, 0, none⟩) (R.length + 1) c3))) := HS.out.touch hp1 hp2
            have hob : Uf6u7.heap[w.heap.size + 1]? = some (.cells #[(.slice va R.length vc)] 31) := (hg3.block _ (row_lt HS.out.s.o) (fun e => by have := (OwnE.lt HS.out.s.ow _ e.symm).1; omega)).trans HS.out.s.o
            have HOb := hide9 hob
            have hkp : KeepsS (fun j => j < w.heap.size ∨ j = w.heap.size) Ug5u0 Uf6u7 := hHeld.trans ⟨hg3.size, fun j q => hg3.block j (by have := row_lt HS.out.s.kx; omega) (fun e => by have := (OwnE.lt HS.out.s.ow _ e.symm).1; omega)⟩
            clear hp1 hp2 hob ho3 hg3
            refine hK.out _ _ (hkp) (fun hHeld2 => ?_)
            clear hK K hHeld
            have hHeld := hHeld2
            clear hHeld2
            (try simp only [Act.put, List.setIfInBounds_toArray, List.set_cons_zero, List.set_cons_succ])
            clear hkp HS HVb
            refine wpAnyH_ready (rs := [9]) (by kernel_rfl) (by simp) ?_
            refine AllReadyH.cons (o := ⟨none, _, _, _, _, _⟩) rfl (fun K hK => ?_) AllReadyH.nil
            have q0 : Uf6u7.cell? ⟨w.heap.size + 1, 0, none⟩ = some (.slice va R.length vc) := (by rw [cell_of_row _ _ _ _ _ _ HOb.out]; rfl)
            have q1 := frozen_of_row Uf6u7 (w.heap.size + 1) 0 _ _ HOb.out
            have hkp : KeepsS (fun j => j < w.heap.size ∨ j = w.heap.size) Ug5u0 (Uf6u7.setCell ⟨w.heap.size + 1, 0, none⟩ (.slice (some ⟨g3, 0, none⟩) (R.length + 1) c3)) := hHeld.trans ⟨(grownBy_setCell _ _ _ _).size, fun j q => RowKit.Below.heap_setCell _ _ _ _ (by show j ≠ w.heap.size + 1; omega)⟩
            go_simp
            refine hK.out _ _ (hkp) (fun hHeld2 => ?_)
            clear hK K hHeld
            have hHeld := hHeld2
            clear hHeld2
            (try simp only [Act.put, List.setIfInBounds_toArray, List.set_cons_zero, List.set_cons_succ])
            clear q0 q1 hkp HOb
            refine wpAnyH_done (by kernel_rfl) ?_ _
            clear hHeld
            obtain ⟨WA, eWA⟩ : ∃ X, X = Uf6u7.setCell ⟨w.heap.size + 1, 0, none⟩ (.slice (some ⟨g3, 0, none⟩) (R.length + 1) c3) := ⟨_, rfl⟩
            rw [← eWA] at HP ⊢
            clear eWA
            have HW2 : Hid (wrA k O0 A0 = (R ++ [pC k o]) ++ wrA k (r) (a :: s)) := (by show _ = _; rw [HW.out]; rw [wrA, if_pos Hlt1.out.symm, List.append_assoc]; rfl)
            by_cases hcO : oc = 1
            · have hrO := ((tlE (HTO.out HP.out.l1)).1 hcO)
              have HzO : Hid (r = []) := hrO.1
              replace hrO := hrO.2
              have HCO := hide9 hcO
              subst hcO
              have HP2 : Hid (WlS w (w.heap.size + 2) (w.heap.size + 1) w.heap.size k (.slice (some ⟨g3, 0, none⟩) (R.length + 1) c3) (R ++ [pC k o]) (.slice (some ⟨ob9, oo9, none⟩) (nO - 1) 0) (r) (.slice (some ⟨ab9, ao9, none⟩) nA ac) (a :: s) WA) := ⟨HP.out.s, (by rw [pO4]; rw [HzO.out]; exact LsE.nil _ _ _), HP.out.l2, HP.out.bel, HP.out.lo⟩
              clear HP hrO
              go_wp2
              go_roundg ((nO - 1) + nA)
              case rel => exact ⟨_, (nO - 1), _, _, nA, _, r, a :: s, R ++ [pC k o], (.slice (some ⟨g3, 0, none⟩) (R.length + 1) c3), by go_num, by go_num, rfl, ⟨pO4, Hn.out.2⟩, HP2, HW2⟩
              case measure => have := HlO.out; have := HlA.out; omega
            · have hrO := ((tlE (HTO.out HP.out.l1)).2 hcO)
              have c1O : ¬ (oc : Int) = 1 := by omega
              have c2O : (1 : Int) ≤ (oc : Int) := by have := HcO.out; omega
              have HP2 : Hid (WlS w (w.heap.size + 2) (w.heap.size + 1) w.heap.size k (.slice (some ⟨g3, 0, none⟩) (R.length + 1) c3) (R ++ [pC k o]) (.slice (some ⟨ob9, oo9 + 2, none⟩) (nO - 1) (oc - 1)) (r) (.slice (some ⟨ab9, ao9, none⟩) nA ac) (a :: s) WA) := ⟨HP.out.s, (by rw [pO4]; exact hrO), HP.out.l2, HP.out.bel, HP.out.lo⟩
              clear HP hrO
              go_wp2
              go_roundg ((nO - 1) + nA)
              case rel => exact ⟨_, (nO - 1), _, _, nA, _, r, a :: s, R ++ [pC k o], (.slice (some ⟨g3, 0, none⟩) (R.length + 1) c3), by go_num, by go_num, rfl, ⟨pO4, Hn.out.2⟩, HP2, HW2⟩
              case measure => have := HlO.out; have := HlA.out; omega
        | false =>
          refine wp_region_held_drew (S := fun W' => Below wr.heap.size wr W') (by kernel_rfl) (Below.refl _ _).drew (fun hHeld => ?_)
          obtain ⟨Ul7u0, eW⟩ : ∃ X, X = wr.drew := ⟨_, rfl⟩
          have hb : Below wr.heap.size wr Ul7u0 := by rw [eW]; exact (Below.refl _ _).drew
          replace HS : Hid (WlS w (w.heap.size + 2) (w.heap.size + 1) w.heap.size k (.slice va R.length vc) (R) (.slice (some ⟨ob9, oo9, none⟩) nO oc) (o :: r) (.slice (some ⟨ab9, ao9, none⟩) nA ac) (a :: s) Ul7u0) := HS.out.below hb
          rw [← eW] at hHeld ⊢
          clear eW hb
          refine tkW 0 (some 37) (v := ?_) ?_ hHeld ?_
          rotate_left
          · (intro ww _; go_simp; try with_reducible rfl)
          refine tkW 1 (some 38) (v := ?_) ?_ hHeld ?_
          rotate_left
          · (intro ww hSw; (try dsimp only at hSw); go_simp; try with_reducible rfl)
          refine tkW 2 (some 39) (v := .bool false) ?_ hHeld ?_
          · (intro ww hSw; (try dsimp only at hSw); go_simp; (try simp); (try omega))
          refine tkW 3 (some 40) (v := ?_) ?_ hHeld ?_
          rotate_left
          · (intro ww _; go_simp; try with_reducible rfl)
          refine tkW 4 (some 41) (v := ?_) ?_ hHeld ?_
          rotate_left
          · (intro ww _; go_simp; try with_reducible rfl)
          refine tkW 5 (some 42) (v := ?_) ?_ hHeld ?_
          rotate_left
          · (intro ww hSw; (try dsimp only at hSw); go_simp; try with_reducible rfl)
          refine tkW 6 (some 43) (v := .bool true) ?_ hHeld ?_
          · (intro ww hSw; (try dsimp only at hSw); go_simp; (try simp); (try omega))
          refine tkW 7 (some 44) (v := ?_) ?_ hHeld ?_
          rotate_left
          · (intro ww _; go_simp; try with_reducible rfl)
          refine tkW 8 (some 45) (v := ?_) ?_ hHeld ?_
          rotate_left
          · (intro ww _; go_simp; try with_reducible rfl)
          refine tkW 9 (some 46) (v := ?_) ?_ hHeld ?_
          rotate_left
          · (intro ww hSw; (try dsimp only at hSw); go_simp; try with_reducible rfl)
          refine tkW 10 (some 47) (v := ?_) ?_ hHeld ?_
          rotate_left
          · (intro ww _; go_simp; try with_reducible rfl)
          refine tkW 11 (some 48) (v := ?_) ?_ hHeld ?_
          rotate_left
          · (intro ww hSw; (try dsimp only at hSw); have q0 : ww.cell? ⟨ob9, oo9, none⟩ = some (.string o.1) := (hSw.cell (p := ⟨ob9, oo9, none⟩) HcO0.out.1).trans HcO0.out.2.1; go_simp; try with_reducible rfl)
          refine tkW 12 (some 49) (v := ?_) ?_ hHeld ?_
          rotate_left
          · (intro ww _; go_simp; try with_reducible rfl)
          refine tkW 13 (some 50) (v := ?_) ?_ hHeld ?_
          rotate_left
          · (intro ww hSw; (try dsimp only at hSw); go_simp; try with_reducible rfl)
          refine tkW 14 (some 51) (v := ?_) ?_ hHeld ?_
          rotate_left
          · (intro ww _; go_simp; try with_reducible rfl)
          refine tkW 15 (some 52) (v := ?_) ?_ hHeld ?_
          rotate_left
          · (intro ww hSw; (try dsimp only at hSw); have q0 : ww.cell? ⟨ab9, ao9, none⟩ = some (.string a.1) := (hSw.cell (p := ⟨ab9, ao9, none⟩) HcA0.out.1).trans HcA0.out.2.1; go_simp; try with_reducible rfl)
          refine tkW 16 (some 53) (v := .bool false) ?_ hHeld ?_
          · (intro ww hSw; (try dsimp only at hSw); go_simp; rw [txt_less]; exact Hlt.out.symm)
          refine tkW 17 (some 54) (v := ?_) ?_ hHeld ?_
          rotate_left
          · (intro ww _; go_simp; try with_reducible rfl)
          refine tkW 18 (some 55) (v := ?_) ?_ hHeld ?_
          rotate_left
          · (intro ww _; go_simp; try with_reducible rfl)
          refine tkW 19 (some 36) (v := ?_) ?_ hHeld ?_
          rotate_left
          · (intro ww _; go_simp; try with_reducible rfl)
          refine wpAnyH_done (by kernel_rfl) ?_ _
          have hc9 : Hid (ob9 < Ul7u0.heap.size ∧ Ul7u0.cell? ⟨ob9, oo9, none⟩ = some (.string o.1) ∧ Ul7u0.cell? ⟨ob9, oo9 + 1, none⟩ = some (.string o.2)) := ⟨Nat.lt_of_lt_of_le HcO0.out.1 hHeld.size, (hHeld.cell (p := ⟨ob9, oo9, none⟩) HcO0.out.1).trans HcO0.out.2.1, (hHeld.cell (p := ⟨ob9, oo9 + 1, none⟩) HcO0.out.1).trans HcO0.out.2.2⟩
          clear HcO0
          have HcO0 := hc9
          clear hc9
          have hc9 : Hid (ab9 < Ul7u0.heap.size ∧ Ul7u0.cell? ⟨ab9, ao9, none⟩ = some (.string a.1) ∧ Ul7u0.cell? ⟨ab9, ao9 + 1, none⟩ = some (.string a.2)) := ⟨Nat.lt_of_lt_of_le HcA0.out.1 hHeld.size, (hHeld.cell (p := ⟨ab9, ao9, none⟩) HcA0.out.1).trans HcA0.out.2.1, (hHeld.cell (p := ⟨ab9, ao9 + 1, none⟩) HcA0.out.1).trans HcA0.out.2.2⟩
          clear HcA0
          have HcA0 := hc9
          clear hc9
          have Hlow9 : Hid (w.heap.size + 2 ≤ Ul7u0.heap.size) := Nat.le_trans Hlow.out hHeld.size
          clear Hlow
          have Hlow := Hlow9
          clear Hlow9
          clear hHeld
          clear Hlt
          obtain ⟨lt, elt⟩ : ∃ b, b = ltT a.1 o.1 := ⟨_, rfl⟩
          have Hlt := hide9 elt
          clear elt
          have Hlt2 := Hlt
          go_upto_region 10 with fail
          cases lt with
          | true =>
            refine wp_region_held_drew (S := fun W' => Below Ul7u0.heap.size Ul7u0 W') (by kernel_rfl) (Below.refl _ _).drew (fun hHeld => ?_)
            obtain ⟨Uh8u0, eW⟩ : ∃ X, X = Ul7u0.drew := ⟨_, rfl⟩
            have hb : Below Ul7u0.heap.size Ul7u0 Uh8u0 := by rw [eW]; exact (Below.refl _ _).drew
            replace HS : Hid (WlS w (w.heap.size + 2) (w.heap.size + 1) w.heap.size k (.slice va R.length vc) (R) (.slice (some ⟨ob9, oo9, none⟩) nO oc) (o :: r) (.slice (some ⟨ab9, ao9, none⟩) nA ac) (a :: s) Uh8u0) := HS.out.below hb
            rw [← eW] at hHeld ⊢
            clear eW hb
            refine tkW 0 (some 68) (v := ?_) ?_ hHeld ?_
            rotate_left
            · (intro ww _; go_simp; try with_reducible rfl)
            refine tkW 1 (some 69) (v := ?_) ?_ hHeld ?_
            rotate_left
            · (intro ww hSw; (try dsimp only at hSw); go_simp; try with_reducible rfl)
            refine tkW 2 (some 70) (v := .bool false) ?_ hHeld ?_
            · (intro ww hSw; (try dsimp only at hSw); go_simp; (try simp); (try omega))
            refine tkW 3 (some 71) (v := ?_) ?_ hHeld ?_
            rotate_left
            · (intro ww _; go_simp; try with_reducible rfl)
            refine tkW 4 (some 72) (v := ?_) ?_ hHeld ?_
            rotate_left
            · (intro ww _; go_simp; try with_reducible rfl)
            refine tkW 5 (some 73) (v := ?_) ?_ hHeld ?_
            rotate_left
            · (intro ww hSw; (try dsimp only at hSw); go_simp; try with_reducible rfl)
            refine tkW 6 (some 74) (v := ?_) ?_ hHeld ?_
            rotate_left
            · (intro ww _; go_simp; try with_reducible rfl)
            refine tkW 7 (some 75) (v := ?_) ?_ hHeld ?_
            rotate_left
            · (intro ww hSw; (try dsimp only at hSw); have q0 : ww.cell? ⟨ab9, ao9, none⟩ = some (.string a.1) := (hSw.cell (p := ⟨ab9, ao9, none⟩) HcA0.out.1).trans HcA0.out.2.1; go_simp; try with_reducible rfl)
            refine tkW 8 (some 76) (v := ?_) ?_ hHeld ?_
            rotate_left
            · (intro ww _; go_simp; try with_reducible rfl)
            refine tkW 9 (some 77) (v := ?_) ?_ hHeld ?_
            rotate_left
            · (intro ww hSw; (try dsimp only at hSw); go_simp; try with_reducible rfl)
            refine tkW 10 (some 78) (v := ?_) ?_ hHeld ?_
            rotate_left
            · (intro ww _; go_simp; try with_reducible rfl)
            refine tkW 11 (some 79) (v := ?_) ?_ hHeld ?_
            rotate_left
            · (intro ww hSw; (try dsimp only at hSw); have q0 : ww.cell? ⟨ob9, oo9, none⟩ = some (.string o.1) := (hSw.cell (p := ⟨ob9, oo9, none⟩) HcO0.out.1).trans HcO0.out.2.1; go_simp; try with_reducible rfl)
            refine tkW 12 (some 80) (v := .bool true) ?_ hHeld ?_
            · (intro ww hSw; (try dsimp only at hSw); go_simp; rw [txt_less]; exact Hlt.out.symm)
            refine tkW 13 (some 81) (v := ?_) ?_ hHeld ?_
            rotate_left
            · (intro ww _; go_simp; try with_reducible rfl)
            refine tkW 14 (some 67) (v := ?_) ?_ hHeld ?_
            rotate_left
            · (intro ww _; go_simp; try with_reducible rfl)
            refine wpAnyH_done (by kernel_rfl) ?_ _
            have hc9 : Hid (ob9 < Uh8u0.heap.size ∧ Uh8u0.cell? ⟨ob9, oo9, none⟩ = some (.string o.1) ∧ Uh8u0.cell? ⟨ob9, oo9 + 1, none⟩ = some (.string o.2)) := ⟨Nat.lt_of_lt_of_le HcO0.out.1 hHeld.size, (hHeld.cell (p := ⟨ob9, oo9, none⟩) HcO0.out.1).trans HcO0.out.2.1, (hHeld.cell (p := ⟨ob9, oo9 + 1, none⟩) HcO0.out.1).trans HcO0.out.2.2⟩
            clear HcO0
            have HcO0 := hc9
            clear hc9
            have hc9 : Hid (ab9 < Uh8u0.heap.size ∧ Uh8u0.cell? ⟨ab9, ao9, none⟩ = some (.string a.1) ∧ Uh8u0.cell? ⟨ab9, ao9 + 1, none⟩ = some (.string a.2)) := ⟨Nat.lt_of_lt_of_le HcA0.out.1 hHeld.size, (hHeld.cell (p := ⟨ab9, ao9, none⟩) HcA0.out.1).trans HcA0.out.2.1, (hHeld.cell (p := ⟨ab9, ao9 + 1, none⟩) HcA0.out.1).trans HcA0.out.2.2⟩
            clear HcA0
            have HcA0 := hc9
            clear hc9
            have Hlow9 : Hid (w.heap.size + 2 ≤ Uh8u0.heap.size) := Nat.le_trans Hlow.out hHeld.size
            clear Hlow
            have Hlow := Hlow9
            clear Hlow9
            clear hHeld
            have q0 : Uh8u0.cell? ⟨ab9, ao9, none⟩ = some (.string a.1) := HcA0.out.2.1
            have q1 : Uh8u0.cell? ⟨ab9, ao9 + 1, none⟩ = some (.string a.2) := HcA0.out.2.2
            go_wp2_with fail
            clear q0 q1
            refine (set_any (w.heap.size + 2) (w.heap.size + 1) w.heap.size k _ R a _ HS.out.s (by have := HRl.out; omega) Hlow.out).mono ?_
            rintro e WA ⟨⟨u9, rfl⟩, v9, hs9, ht9⟩
            have HP : Hid (WlS w (w.heap.size + 2) (w.heap.size + 1) w.heap.size k v9 (R ++ [pS k a]) (.slice (some ⟨ob9, oo9, none⟩) nO oc) (o :: r) (.slice (some ⟨ab9, ao9, none⟩) nA ac) (a :: s) WA) := HS.out.touch hs9 ht9
            clear hs9 ht9 HS
            have HW2 : Hid (wrA k O0 A0 = (R ++ [pS k a]) ++ wrA k (o :: r) (s)) := (by show _ = _; rw [HW.out]; rw [wrA, if_neg (by rw [← Hlt1.out]; simp), if_pos Hlt2.out.symm, List.append_assoc]; rfl)
            by_cases hcA : ac = 1
            · have hrA := ((tlE (HTA.out HP.out.l2)).1 hcA)
              have HzA : Hid (s = []) := hrA.1
              replace hrA := hrA.2
              have HCA := hide9 hcA
              subst hcA
              have HP2 : Hid (WlS w (w.heap.size + 2) (w.heap.size + 1) w.heap.size k v9 (R ++ [pS k a]) (.slice (some ⟨ob9, oo9, none⟩) nO oc) (o :: r) (.slice (some ⟨ab9, ao9, none⟩) (nA - 1) 0) (s) WA) := ⟨HP.out.s, HP.out.l1, (by rw [pA4]; rw [HzA.out]; exact LsE.nil _ _ _), HP.out.bel, HP.out.lo⟩
              clear HP hrA
              go_wp2
              go_roundg (nO + (nA - 1))
              case rel => exact ⟨_, nO, _, _, (nA - 1), _, o :: r, s, R ++ [pS k a], v9, by go_num, by go_num, rfl, ⟨Hn.out.1, pA4⟩, HP2, HW2⟩
              case measure => have := HlO.out; have := HlA.out; omega
            · have hrA := ((tlE (HTA.out HP.out.l2)).2 hcA)
              have c1A : ¬ (ac : Int) = 1 := by omega
              have c2A : (1 : Int) ≤ (ac : Int) := by have := HcA.out; omega
              have HP2 : Hid (WlS w (w.heap.size + 2) (w.heap.size + 1) w.heap.size k v9 (R ++ [pS k a]) (.slice (some ⟨ob9, oo9, none⟩) nO oc) (o :: r) (.slice (some ⟨ab9, ao9 + 2, none⟩) (nA - 1) (ac - 1)) (s) WA) := ⟨HP.out.s, HP.out.l1, (by rw [pA4]; exact hrA), HP.out.bel, HP.out.lo⟩
              clear HP hrA
              go_wp2
              go_roundg (nO + (nA - 1))
              case rel => exact ⟨_, nO, _, _, (nA - 1), _, o :: r, s, R ++ [pS k a], v9, by go_num, by go_num, rfl, ⟨Hn.out.1, pA4⟩, HP2, HW2⟩
              case measure => have := HlO.out; have := HlA.out; omega
          | false =>
            refine wp_region_held_drew (S := fun W' => Below Ul7u0.heap.size Ul7u0 W') (by kernel_rfl) (Below.refl _ _).drew (fun hHeld => ?_)
            obtain ⟨Uk9u0, eW⟩ : ∃ X, X = Ul7u0.drew := ⟨_, rfl⟩
            have hb : Below Ul7u0.heap.size Ul7u0 Uk9u0 := by rw [eW]; exact (Below.refl _ _).drew
            replace HS : Hid (WlS w (w.heap.size + 2) (w.heap.size + 1) w.heap.size k (.slice va R.length vc) (R) (.slice (some ⟨ob9, oo9, none⟩) nO oc) (o :: r) (.slice (some ⟨ab9, ao9, none⟩) nA ac) (a :: s) Uk9u0) := HS.out.below hb
            rw [← eW] at hHeld ⊢
            clear eW hb
            refine tkW 0 (some 68) (v := ?_) ?_ hHeld ?_
            rotate_left
            · (intro ww _; go_simp; try with_reducible rfl)
            refine tkW 1 (some 69) (v := ?_) ?_ hHeld ?_
            rotate_left
            · (intro ww hSw; (try dsimp only at hSw); go_simp; try with_reducible rfl)
            refine tkW 2 (some 70) (v := .bool false) ?_ hHeld ?_
            · (intro ww hSw; (try dsimp only at hSw); go_simp; (try simp); (try omega))
            refine tkW 3 (some 71) (v := ?_) ?_ hHeld ?_
            rotate_left
            · (intro ww _; go_simp; try with_reducible rfl)
            refine tkW 4 (some 72) (v := ?_) ?_ hHeld ?_
            rotate_left
            · (intro ww _; go_simp; try with_reducible rfl)
            refine tkW 5 (some 73) (v := ?_) ?_ hHeld ?_
            rotate_left
            · (intro ww hSw; (try dsimp only at hSw); go_simp; try with_reducible rfl)
            refine tkW 6 (some 74) (v := ?_) ?_ hHeld ?_
            rotate_left
            · (intro ww _; go_simp; try with_reducible rfl)
            refine tkW 7 (some 75) (v := ?_) ?_ hHeld ?_
            rotate_left
            · (intro ww hSw; (try dsimp only at hSw); have q0 : ww.cell? ⟨ab9, ao9, none⟩ = some (.string a.1) := (hSw.cell (p := ⟨ab9, ao9, none⟩) HcA0.out.1).trans HcA0.out.2.1; go_simp; try with_reducible rfl)
            refine tkW 8 (some 76) (v := ?_) ?_ hHeld ?_
            rotate_left
            · (intro ww _; go_simp; try with_reducible rfl)
            refine tkW 9 (some 77) (v := ?_) ?_ hHeld ?_
            rotate_left
            · (intro ww hSw; (try dsimp only at hSw); go_simp; try with_reducible rfl)
            refine tkW 10 (some 78) (v := ?_) ?_ hHeld ?_
            rotate_left
            · (intro ww _; go_simp; try with_reducible rfl)
            refine tkW 11 (some 79) (v := ?_) ?_ hHeld ?_
            rotate_left
            · (intro ww hSw; (try dsimp only at hSw); have q0 : ww.cell? ⟨ob9, oo9, none⟩ = some (.string o.1) := (hSw.cell (p := ⟨ob9, oo9, none⟩) HcO0.out.1).trans HcO0.out.2.1; go_simp; try with_reducible rfl)
            refine tkW 12 (some 80) (v := .bool false) ?_ hHeld ?_
            · (intro ww hSw; (try dsimp only at hSw); go_simp; rw [txt_less]; exact Hlt.out.symm)
            refine tkW 13 (some 81) (v := ?_) ?_ hHeld ?_
            rotate_left
            · (intro ww _; go_simp; try with_reducible rfl)
            refine tkW 14 (some 67) (v := ?_) ?_ hHeld ?_
            rotate_left
            · (intro ww _; go_simp; try with_reducible rfl)
            refine wpAnyH_done (by kernel_rfl) ?_ _
            have hc9 : Hid (ob9 < Uk9u0.heap.size ∧ Uk9u0.cell? ⟨ob9, oo9, none⟩ = some (.string o.1) ∧ Uk9u0.cell? ⟨ob9, oo9 + 1, none⟩ = some (.string o.2)) := ⟨Nat.lt_of_lt_of_le HcO0.out.1 hHeld.size, (hHeld.cell (p := ⟨ob9, oo9, none⟩) HcO0.out.1).trans HcO0.out.2.1, (hHeld.cell (p := ⟨ob9, oo9 + 1, none⟩) HcO0.out.1).trans HcO0.out.2.2⟩
            clear HcO0
            have HcO0 := hc9
            clear hc9
            have hc9 : Hid (ab9 < Uk9u0.heap.size ∧ Uk9u0.cell? ⟨ab9, ao9, none⟩ = some (.string a.1) ∧ Uk9u0.cell? ⟨ab9, ao9 + 1, none⟩ = some (.string a.2)) := ⟨Nat.lt_of_lt_of_le HcA0.out.1 hHeld.size, (hHeld.cell (p := ⟨ab9, ao9, none⟩) HcA0.out.1).trans HcA0.out.2.1, (hHeld.cell (p := ⟨ab9, ao9 + 1, none⟩) HcA0.out.1).trans HcA0.out.2.2⟩
            clear HcA0
            have HcA0 := hc9
            clear hc9
            have Hlow9 : Hid (w.heap.size + 2 ≤ Uk9u0.heap.size) := Nat.le_trans Hlow.out hHeld.size
            clear Hlow
            have Hlow := Hlow9
            clear Hlow9
            clear hHeld
            obtain ⟨eq9, eeq⟩ : ∃ b, b = decide (o.2 = a.2) := ⟨_, rfl⟩
            have Heq : Hid (decide (o.2 = a.2) = eq9) := eeq.symm
            clear eeq
            go_upto_region 4 with fail
            cases eq9 with
            | false =>
              refine wp_region_held_drew (S := fun W' => Below Uk9u0.heap.size Uk9u0 W') (by kernel_rfl) (Below.refl _ _).drew (fun hHeld => ?_)
              obtain ⟨Ui10u0, eW⟩ : ∃ X, X = Uk9u0.drew := ⟨_, rfl⟩
              have hb : Below Uk9u0.heap.size Uk9u0 Ui10u0 := by rw [eW]; exact (Below.refl _ _).drew
              replace HS : Hid (WlS w (w.heap.size + 2) (w.heap.size + 1) w.heap.size k (.slice va R.length vc) (R) (.slice (some ⟨ob9, oo9, none⟩) nO oc) (o :: r) (.slice (some ⟨ab9, ao9, none⟩) nA ac) (a :: s) Ui10u0) := HS.out.below hb
              rw [← eW] at hHeld ⊢
              clear eW hb
              refine tkW 0 (some 18) (v := ?_) ?_ hHeld ?_
              rotate_left
              · (intro ww _; go_simp; try with_reducible rfl)
              refine tkW 1 (some 19) (v := ?_) ?_ hHeld ?_
              rotate_left
              · (intro ww hSw; (try dsimp only at hSw); go_simp; try with_reducible rfl)
              refine tkW 2 (some 20) (v := ?_) ?_ hHeld ?_
              rotate_left
              · (intro ww _; go_simp; try with_reducible rfl)
              refine tkW 3 (some 21) (v := ?_) ?_ hHeld ?_
              rotate_left
              · (intro ww hSw; (try dsimp only at hSw); have q0 : ww.cell? ⟨ob9, oo9 + 1, none⟩ = some (.string o.2) := (hSw.cell (p := ⟨ob9, oo9 + 1, none⟩) HcO0.out.1).trans HcO0.out.2.2; go_simp; try with_reducible rfl)
              refine tkW 4 (some 22) (v := ?_) ?_ hHeld ?_
              rotate_left
              · (intro ww _; go_simp; try with_reducible rfl)
              refine tkW 5 (some 23) (v := ?_) ?_ hHeld ?_
              rotate_left
              · (intro ww hSw; (try dsimp only at hSw); go_simp; try with_reducible rfl)
              refine tkW 6 (some 24) (v := ?_) ?_ hHeld ?_
              rotate_left
              · (intro ww _; go_simp; try with_reducible rfl)
              refine tkW 7 (some 25) (v := ?_) ?_ hHeld ?_
              rotate_left
              · (intro ww hSw; (try dsimp only at hSw); have q0 : ww.cell? ⟨ab9, ao9 + 1, none⟩ = some (.string a.2) := (hSw.cell (p := ⟨ab9, ao9 + 1, none⟩) HcA0.out.1).trans HcA0.out.2.2; go_simp; try with_reducible rfl)
              refine tkW 8 (some 26) (v := .bool true) ?_ hHeld ?_
              · (intro ww hSw; (try dsimp only at hSw); have hT9 := txtD o.2 a.2; rw [Heq.out] at hT9; go_simp; try simpa using hT9)
              refine wpAnyH_done (by kernel_rfl) ?_ _
              have hc9 : Hid (ob9 < Ui10u0.heap.size ∧ Ui10u0.cell? ⟨ob9, oo9, none⟩ = some (.string o.1) ∧ Ui10u0.cell? ⟨ob9, oo9 + 1, none⟩ = some (.string o.2)) := ⟨Nat.lt_of_lt_of_le HcO0.out.1 hHeld.size, (hHeld.cell (p := ⟨ob9, oo9, none⟩) HcO0.out.1).trans HcO0.out.2.1, (hHeld.cell (p := ⟨ob9, oo9 + 1, none⟩) HcO0.out.1).trans HcO0.out.2.2⟩
              clear HcO0
              have HcO0 := hc9
              clear hc9
              have hc9 : Hid (ab9 < Ui10u0.heap.size ∧ Ui10u0.cell? ⟨ab9, ao9, none⟩ = some (.string a.1) ∧ Ui10u0.cell? ⟨ab9, ao9 + 1, none⟩ = some (.string a.2)) := ⟨Nat.lt_of_lt_of_le HcA0.out.1 hHeld.size, (hHeld.cell (p := ⟨ab9, ao9, none⟩) HcA0.out.1).trans HcA0.out.2.1, (hHeld.cell (p := ⟨ab9, ao9 + 1, none⟩) HcA0.out.1).trans HcA0.out.2.2⟩
              clear HcA0
              have HcA0 := hc9
              clear hc9
              have Hlow9 : Hid (w.heap.size + 2 ≤ Ui10u0.heap.size) := Nat.le_trans Hlow.out hHeld.size
              clear Hlow
              have Hlow := Hlow9
              clear Hlow9
              clear hHeld
              have q0 : Ui10u0.cell? ⟨ab9, ao9, none⟩ = some (.string a.1) := HcA0.out.2.1
              have q1 : Ui10u0.cell? ⟨ab9, ao9 + 1, none⟩ = some (.string a.2) := HcA0.out.2.2
              go_wp2_with fail
              clear q0 q1
              refine (set_any (w.heap.size + 2) (w.heap.size + 1) w.heap.size k _ R a _ HS.out.s (by have := HRl.out; omega) Hlow.out).mono ?_
              rintro e WA ⟨⟨u9, rfl⟩, v9, hs9, ht9⟩
              have HP : Hid (WlS w (w.heap.size + 2) (w.heap.size + 1) w.heap.size k v9 (R ++ [pS k a]) (.slice (some ⟨ob9, oo9, none⟩) nO oc) (o :: r) (.slice (some ⟨ab9, ao9, none⟩) nA ac) (a :: s) WA) := HS.out.touch hs9 ht9
              clear hs9 ht9 HS
              have HW2 : Hid (wrA k O0 A0 = (R ++ [pS k a]) ++ wrA k (r) (s)) := (by show _ = _; rw [HW.out]; rw [wrA, if_neg (by rw [← Hlt1.out]; simp), if_neg (by rw [← Hlt2.out]; simp), if_neg (of_decide_eq_false Heq.out), List.append_assoc])
              by_cases hcO : oc = 1
              · have hrO := ((tlE (HTO.out HP.out.l1)).1 hcO)
                have HzO : Hid (r = []) := hrO.1
                replace hrO := hrO.2
                have HCO := hide9 hcO
                subst hcO
                by_cases hcA : ac = 1
                · have hrA := ((tlE (HTA.out HP.out.l2)).1 hcA)
                  have HzA : Hid (s = []) := hrA.1
                  replace hrA := hrA.2
                  have HCA := hide9 hcA
                  subst hcA
                  have HP2 : Hid (WlS w (w.heap.size + 2) (w.heap.size + 1) w.heap.size k v9 (R ++ [pS k a]) (.slice (some ⟨ob9, oo9, none⟩) (nO - 1) 0) (r) (.slice (some ⟨ab9, ao9, none⟩) (nA - 1) 0) (s) WA) := ⟨HP.out.s, (by rw [pO4]; rw [HzO.out]; exact LsE.nil _ _ _), (by rw [pA4]; rw [HzA.out]; exact LsE.nil _ _ _), HP.out.bel, HP.out.lo⟩
                  clear HP hrO hrA
                  go_upto_region 6 with fail
                  refine wp_region_held_drew (S := fun W' => Below WA.heap.size WA W') (by kernel_rfl) (Below.refl _ _).drew (fun hHeld => ?_)
                  obtain ⟨Uz1q11u0, eW⟩ : ∃ X, X = WA.drew := ⟨_, rfl⟩
                  have hb : Below WA.heap.size WA Uz1q11u0 := by rw [eW]; exact (Below.refl _ _).drew
                  replace HP2 : Hid (WlS w (w.heap.size + 2) (w.heap.size + 1) w.heap.size k v9 (R ++ [pS k a]) (.slice (some ⟨ob9, oo9, none⟩) (nO - 1) 0) (r) (.slice (some ⟨ab9, ao9, none⟩) (nA - 1) 0) (s) Uz1q11u0) := HP2.out.below hb
                  rw [← eW] at hHeld ⊢
                  clear eW hb
                  refine tkW 0 (some 32) (v := ?_) ?_ hHeld ?_
                  rotate_left
                  · (intro ww _; go_simp; try with_reducible rfl)
                  refine tkW 1 (some 33) (v := ?_) ?_ hHeld ?_
                  rotate_left
                  · (intro ww hSw; (try dsimp only at hSw); go_simp; try with_reducible rfl)
                  refine tkW 2 (some 34) (v := ?_) ?_ hHeld ?_
                  rotate_left
                  · (intro ww _; go_simp; try with_reducible rfl)
                  refine tkW 3 (some 35) (v := ?_) ?_ hHeld ?_
                  rotate_left
                  · (intro ww hSw; (try dsimp only at hSw); go_simp; try with_reducible rfl)
                  refine tkW 4 (some 1) (v := ?_) ?_ hHeld ?_
                  rotate_left
                  · (intro ww _; go_simp; try with_reducible rfl)
                  refine tkW 5 (some 2) (v := ?_) ?_ hHeld ?_
                  rotate_left
                  · (intro ww _; go_simp; try with_reducible rfl)
                  refine wpAnyH_done (by kernel_rfl) ?_ _
                  clear hHeld
                  go_wp2
                  go_roundg ((nO - 1) + (nA - 1))
                  case rel => exact ⟨_, (nO - 1), _, _, (nA - 1), _, r, s, R ++ [pS k a], v9, by go_num, by go_num, rfl, ⟨pO4, pA4⟩, HP2, HW2⟩
                  case measure => have := HlO.out; have := HlA.out; omega
                · have hrA := ((tlE (HTA.out HP.out.l2)).2 hcA)
                  have c1A : ¬ (ac : Int) = 1 := by omega
                  have c2A : (1 : Int) ≤ (ac : Int) := by have := HcA.out; omega
                  have HP2 : Hid (WlS w (w.heap.size + 2) (w.heap.size + 1) w.heap.size k v9 (R ++ [pS k a]) (.slice (some ⟨ob9, oo9, none⟩) (nO - 1) 0) (r) (.slice (some ⟨ab9, ao9 + 2, none⟩) (nA - 1) (ac - 1)) (s) WA) := ⟨HP.out.s, (by rw [pO4]; rw [HzO.out]; exact LsE.nil _ _ _), (by rw [pA4]; exact hrA), HP.out.bel, HP.out.lo⟩
                  clear HP hrO hrA
                  go_upto_region 6 with fail
                  refine wp_region_held_drew (S := fun W' => Below WA.heap.size WA W') (by kernel_rfl) (Below.refl _ _).drew (fun hHeld => ?_)
                  obtain ⟨Uz2q12u0, eW⟩ : ∃ X, X = WA.drew := ⟨_, rfl⟩
                  have hb : Below WA.heap.size WA Uz2q12u0 := by rw [eW]; exact (Below.refl _ _).drew
                  replace HP2 : Hid (WlS w (w.heap.size + 2) (w.heap.size + 1) w.heap.size k v9 (R ++ [pS k a]) (.slice (some ⟨ob9, oo9, none⟩) (nO - 1) 0) (r) (.slice (some ⟨ab9, ao9 + 2, none⟩) (nA - 1) (ac - 1)) (s) Uz2q12u0) := HP2.out.below hb
                  rw [← eW] at hHeld ⊢
                  clear eW hb
                  refine tkW 0 (some 32) (v := ?_) ?_ hHeld ?_
                  rotate_left
                  · (intro ww _; go_simp; try with_reducible rfl)
                  refine tkW 1 (some 33) (v := ?_) ?_ hHeld ?_
                  rotate_left
                  · (intro ww hSw; (try dsimp only at hSw); go_simp; try with_reducible rfl)
                  refine tkW 2 (some 34) (v := ?_) ?_ hHeld ?_
                  rotate_left
                  · (intro ww _; go_simp; try with_reducible rfl)
                  refine tkW 3 (some 35) (v := ?_) ?_ hHeld ?_
                  rotate_left
                  · (intro ww hSw; (try dsimp only at hSw); go_simp; try with_reducible rfl)
                  refine tkW 4 (some 1) (v := ?_) ?_ hHeld ?_
                  rotate_left
                  · (intro ww _; go_simp; try with_reducible rfl)
                  refine tkW 5 (some 2) (v := ?_) ?_ hHeld ?_
                  rotate_left
                  · (intro ww _; go_simp; try with_reducible rfl)
                  refine wpAnyH_done (by kernel_rfl) ?_ _
                  clear hHeld
                  go_wp2
                  go_roundg ((nO - 1) + (nA - 1))
                  case rel => exact ⟨_, (nO - 1), _, _, (nA - 1), _, r, s, R ++ [pS k a], v9, by go_num, by go_num, rfl, ⟨pO4, pA4⟩, HP2, HW2⟩
                  case measure => have := HlO.out; have := HlA.out; omega
              · have hrO := ((tlE (HTO.out HP.out.l1)).2 hcO)
                have c1O : ¬ (oc : Int) = 1 := by omega
                have c2O : (1 : Int) ≤ (oc : Int) := by have := HcO.out; omega
                by_cases hcA : ac = 1
                · have hrA := ((tlE (HTA.out HP.out.l2)).1 hcA)
                  have HzA : Hid (s = []) := hrA.1
                  replace hrA := hrA.2
                  have HCA := hide9 hcA
                  subst hcA
                  have HP2 : Hid (WlS w (w.heap.size + 2) (w.heap.size + 1) w.heap.size k v9 (R ++ [pS k a]) (.slice (some ⟨ob9, oo9 + 2, none⟩) (nO - 1) (oc - 1)) (r) (.slice (some ⟨ab9, ao9, none⟩) (nA - 1) 0) (s) WA) := ⟨HP.out.s, (by rw [pO4]; exact hrO), (by rw [pA4]; rw [HzA.out]; exact LsE.nil _ _ _), HP.out.bel, HP.out.lo⟩
                  clear HP hrO hrA
                  go_upto_region 6 with fail
                  refine wp_region_held_drew (S := fun W' => Below WA.heap.size WA W') (by kernel_rfl) (Below.refl _ _).drew (fun hHeld => ?_)
                  obtain ⟨Uz3q13u0, eW⟩ : ∃ X, X = WA.drew := ⟨_, rfl⟩
                  have hb : Below WA.heap.size WA Uz3q13u0 := by rw [eW]; exact (Below.refl _ _).drew
                  replace HP2 : Hid (WlS w (w.heap.size + 2) (w.heap.size + 1) w.heap.size k v9 (R ++ [pS k a]) (.slice (some ⟨ob9, oo9 + 2, none⟩) (nO - 1) (oc - 1)) (r) (.slice (some ⟨ab9, ao9, none⟩) (nA - 1) 0) (s) Uz3q13u0) := HP2.out.below hb
                  rw [← eW] at hHeld ⊢
                  clear eW hb
                  refine tkW 0 (some 32) (v := ?_) ?_ hHeld ?_
                  rotate_left
                  · (intro ww _; go_simp; try with_reducible rfl)
                  refine tkW 1 (some 33) (v := ?_) ?_ hHeld ?_
                  rotate_left
                  · (intro ww hSw; (try dsimp only at hSw); go_simp; try with_reducible rfl)
                  refine tkW 2 (some 34) (v := ?_) ?_ hHeld ?_
                  rotate_left
                  · (intro ww _; go_simp; try with_reducible rfl)
                  refine tkW 3 (some 35) (v := ?_) ?_ hHeld ?_
                  rotate_left
                  · (intro ww hSw; (try dsimp only at hSw); go_simp; try with_reducible rfl)
                  refine tkW 4 (some 1) (v := ?_) ?_ hHeld ?_
                  rotate_left
                  · (intro ww _; go_simp; try with_reducible rfl)
                  refine tkW 5 (some 2) (v := ?_) ?_ hHeld ?_
                  rotate_left
                  · (intro ww _; go_simp; try with_reducible rfl)
                  refine wpAnyH_done (by kernel_rfl) ?_ _
                  clear hHeld
                  go_wp2
                  go_roundg ((nO - 1) + (nA - 1))
                  case rel => exact ⟨_, (nO - 1), _, _, (nA - 1), _, r, s, R ++ [pS k a], v9, by go_num, by go_num, rfl, ⟨pO4, pA4⟩, HP2, HW2⟩
                  case measure => have := HlO.out; have := HlA.out; omega
                · have hrA := ((tlE (HTA.out HP.out.l2)).2 hcA)
                  have c1A : ¬ (ac : Int) = 1 := by omega
                  have c2A : (1 : Int) ≤ (ac : Int) := by have := HcA.out; omega
                  have HP2 : Hid (WlS w (w.heap.size + 2) (w.heap.size + 1) w.heap.size k v9 (R ++ [pS k a]) (.slice (some ⟨ob9, oo9 + 2, none⟩) (nO - 1) (oc - 1)) (r) (.slice (some ⟨ab9, ao9 + 2, none⟩) (nA - 1) (ac - 1)) (s) WA) := ⟨HP.out.s, (by rw [pO4]; exact hrO), (by rw [pA4]; exact hrA), HP.out.bel, HP.out.lo⟩
                  clear HP hrO hrA
                  go_upto_region 6 with fail
                  refine wp_region_held_drew (S := fun W' => Below WA.heap.size WA W') (by kernel_rfl) (Below.refl _ _).drew (fun hHeld => ?_)
                  obtain ⟨Uz4q14u0, eW⟩ : ∃ X, X = WA.drew := ⟨_, rfl⟩
                  have hb : Below WA.heap.size WA Uz4q14u0 := by rw [eW]; exact (Below.refl _ _).drew
                  replace HP2 : Hid (WlS w (w.heap.size + 2) (w.heap.size + 1) w.heap.size k v9 (R ++ [pS k a]) (.slice (some ⟨ob9, oo9 + 2, none⟩) (nO - 1) (oc - 1)) (r) (.slice (some ⟨ab9, ao9 + 2, none⟩) (nA - 1) (ac - 1)) (s) Uz4q14u0) := HP2.out.below hb
                  rw [← eW] at hHeld ⊢
                  clear eW hb
                  refine tkW 0 (some 32) (v := ?_) ?_ hHeld ?_
                  rotate_left
                  · (intro ww _; go_simp; try with_reducible rfl)
                  refine tkW 1 (some 33) (v := ?_) ?_ hHeld ?_
                  rotate_left
                  · (intro ww hSw; (try dsimp only at hSw); go_simp; try with_reducible rfl)
                  refine tkW 2 (some 34) (v := ?_) ?_ hHeld ?_
                  rotate_left
                  · (intro ww _; go_simp; try with_reducible rfl)
                  refine tkW 3 (some 35) (v := ?_) ?_ hHeld ?_
                  rotate_left
                  · (intro ww hSw; (try dsimp only at hSw); go_simp; try with_reducible rfl)
                  refine tkW 4 (some 1) (v := ?_) ?_ hHeld ?_
                  rotate_left
                  · (intro ww _; go_simp; try with_reducible rfl)
                  refine tkW 5 (some 2) (v := ?_) ?_ hHeld ?_
                  rotate_left
                  · (intro ww _; go_simp; try with_reducible rfl)
                  refine wpAnyH_done (by kernel_rfl) ?_ _
                  clear hHeld
                  go_wp2
                  go_roundg ((nO - 1) + (nA - 1))
                  case rel => exact ⟨_, (nO - 1), _, _, (nA - 1), _, r, s, R ++ [pS k a], v9, by go_num, by go_num, rfl, ⟨pO4, pA4⟩, HP2, HW2⟩
                  case measure => have := HlO.out; have := HlA.out; omega
            | true =>
              refine wp_region_held_drew (S := fun W' => Below Uk9u0.heap.size Uk9u0 W') (by kernel_rfl) (Below.refl _ _).drew (fun hHeld => ?_)
              obtain ⟨Uj15u0, eW⟩ : ∃ X, X = Uk9u0.drew := ⟨_, rfl⟩
              have hb : Below Uk9u0.heap.size Uk9u0 Uj15u0 := by rw [eW]; exact (Below.refl _ _).drew
              replace HS : Hid (WlS w (w.heap.size + 2) (w.heap.size + 1) w.heap.size k (.slice va R.length vc) (R) (.slice (some ⟨ob9, oo9, none⟩) nO oc) (o :: r) (.slice (some ⟨ab9, ao9, none⟩) nA ac) (a :: s) Uj15u0) := HS.out.below hb
              rw [← eW] at hHeld ⊢
              clear eW hb
              refine tkW 0 (some 18) (v := ?_) ?_ hHeld ?_
              rotate_left
              · (intro ww _; go_simp; try with_reducible rfl)
              refine tkW 1 (some 19) (v := ?_) ?_ hHeld ?_
              rotate_left
              · (intro ww hSw; (try dsimp only at hSw); go_simp; try with_reducible rfl)
              refine tkW 2 (some 20) (v := ?_) ?_ hHeld ?_
              rotate_left
              · (intro ww _; go_simp; try with_reducible rfl)
              refine tkW 3 (some 21) (v := ?_) ?_ hHeld ?_
              rotate_left
              · (intro ww hSw; (try dsimp only at hSw); have q0 : ww.cell? ⟨ob9, oo9 + 1, none⟩ = some (.string o.2) := (hSw.cell (p := ⟨ob9, oo9 + 1, none⟩) HcO0.out.1).trans HcO0.out.2.2; go_simp; try with_reducible rfl)
              refine tkW 4 (some 22) (v := ?_) ?_ hHeld ?_
              rotate_left
              · (intro ww _; go_simp; try with_reducible rfl)
              refine tkW 5 (some 23) (v := ?_) ?_ hHeld ?_
              rotate_left
              · (intro ww hSw; (try dsimp only at hSw); go_simp; try with_reducible rfl)
              refine tkW 6 (some 24) (v := ?_) ?_ hHeld ?_
              rotate_left
              · (intro ww _; go_simp; try with_reducible rfl)
              refine tkW 7 (some 25) (v := ?_) ?_ hHeld ?_
              rotate_left
              · (intro ww hSw; (try dsimp only at hSw); have q0 : ww.cell? ⟨ab9, ao9 + 1, none⟩ = some (.string a.2) := (hSw.cell (p := ⟨ab9, ao9 + 1, none⟩) HcA0.out.1).trans HcA0.out.2.2; go_simp; try with_reducible rfl)
              refine tkW 8 (some 26) (v := .bool false) ?_ hHeld ?_
              · (intro ww hSw; (try dsimp only at hSw); have hT9 := txtD o.2 a.2; rw [Heq.out] at hT9; go_simp; try simpa using hT9)
              refine wpAnyH_done (by kernel_rfl) ?_ _
              have hc9 : Hid (ob9 < Uj15u0.heap.size ∧ Uj15u0.cell? ⟨ob9, oo9, none⟩ = some (.string o.1) ∧ Uj15u0.cell? ⟨ob9, oo9 + 1, none⟩ = some (.string o.2)) := ⟨Nat.lt_of_lt_of_le HcO0.out.1 hHeld.size, (hHeld.cell (p := ⟨ob9, oo9, none⟩) HcO0.out.1).trans HcO0.out.2.1, (hHeld.cell (p := ⟨ob9, oo9 + 1, none⟩) HcO0.out.1).trans HcO0.out.2.2⟩
              clear HcO0
              have HcO0 := hc9
              clear hc9
              have hc9 : Hid (ab9 < Uj15u0.heap.size ∧ Uj15u0.cell? ⟨ab9, ao9, none⟩ = some (.string a.1) ∧ Uj15u0.cell? ⟨ab9, ao9 + 1, none⟩ = some (.string a.2)) := ⟨Nat.lt_of_lt_of_le HcA0.out.1 hHeld.size, (hHeld.cell (p := ⟨ab9, ao9, none⟩) HcA0.out.1).trans HcA0.out.2.1, (hHeld.cell (p := ⟨ab9, ao9 + 1, none⟩) HcA0.out.1).trans HcA0.out.2.2⟩
              clear HcA0
              have HcA0 := hc9
              clear hc9
              have Hlow9 : Hid (w.heap.size + 2 ≤ Uj15u0.heap.size) := Nat.le_trans Hlow.out hHeld.size
              clear Hlow
              have Hlow := Hlow9
              clear Hlow9
              clear hHeld
              have HP : Hid (WlS w (w.heap.size + 2) (w.heap.size + 1) w.heap.size k (.slice va R.length vc) (R) (.slice (some ⟨ob9, oo9, none⟩) nO oc) (o :: r) (.slice (some ⟨ab9, ao9, none⟩) nA ac) (a :: s) Uj15u0) := HS
              clear HS
              have HW2 : Hid (wrA k O0 A0 = (R) ++ wrA k (r) (s)) := (by show _ = _; rw [HW.out]; rw [wrA, if_neg (by rw [← Hlt1.out]; simp), if_neg (by rw [← Hlt2.out]; simp), if_pos (of_decide_eq_true Heq.out), List.nil_append])
              by_cases hcO : oc = 1
              · have hrO := ((tlE (HTO.out HP.out.l1)).1 hcO)
                have HzO : Hid (r = []) := hrO.1
                replace hrO := hrO.2
                have HCO := hide9 hcO
                subst hcO
                by_cases hcA : ac = 1
                · have hrA := ((tlE (HTA.out HP.out.l2)).1 hcA)
                  have HzA : Hid (s = []) := hrA.1
                  replace hrA := hrA.2
                  have HCA := hide9 hcA
                  subst hcA
                  have HP2 : Hid (WlS w (w.heap.size + 2) (w.heap.size + 1) w.heap.size k (.slice va R.length vc) (R) (.slice (some ⟨ob9, oo9, none⟩) (nO - 1) 0) (r) (.slice (some ⟨ab9, ao9, none⟩) (nA - 1) 0) (s) Uj15u0) := ⟨HP.out.s, (by rw [pO4]; rw [HzO.out]; exact LsE.nil _ _ _), (by rw [pA4]; rw [HzA.out]; exact LsE.nil _ _ _), HP.out.bel, HP.out.lo⟩
                  clear HP hrO hrA
                  go_upto_region 6 with fail
                  refine wp_region_held_drew (S := fun W' => Below Uj15u0.heap.size Uj15u0 W') (by kernel_rfl) (Below.refl _ _).drew (fun hHeld => ?_)
                  obtain ⟨Uz5q16u0, eW⟩ : ∃ X, X = Uj15u0.drew := ⟨_, rfl⟩
                  have hb : Below Uj15u0.heap.size Uj15u0 Uz5q16u0 := by rw [eW]; exact (Below.refl _ _).drew
                  replace HP2 : Hid (WlS w (w.heap.size + 2) (w.heap.size + 1) w.heap.size k (.slice va R.length vc) (R) (.slice (some ⟨ob9, oo9, none⟩) (nO - 1) 0) (r) (.slice (some ⟨ab9, ao9, none⟩) (nA - 1) 0) (s) Uz5q16u0) := HP2.out.below hb
                  rw [← eW] at hHeld ⊢
                  clear eW hb
                  refine tkW 0 (some 32) (v := ?_) ?_ hHeld ?_
                  rotate_left
                  · (intro ww _; go_simp; try with_reducible rfl)
                  refine tkW 1 (some 33) (v := ?_) ?_ hHeld ?_
                  rotate_left
                  · (intro ww hSw; (try dsimp only at hSw); go_simp; try with_reducible rfl)
                  refine tkW 2 (some 34) (v := ?_) ?_ hHeld ?_
                  rotate_left
                  · (intro ww _; go_simp; try with_reducible rfl)
                  refine tkW 3 (some 35) (v := ?_) ?_ hHeld ?_
                  rotate_left
                  · (intro ww hSw; (try dsimp only at hSw); go_simp; try with_reducible rfl)
                  refine tkW 4 (some 1) (v := ?_) ?_ hHeld ?_
                  rotate_left
                  · (intro ww _; go_simp; try with_reducible rfl)
                  refine tkW 5 (some 2) (v := ?_) ?_ hHeld ?_
                  rotate_left
                  · (intro ww _; go_simp; try with_reducible rfl)
                  refine wpAnyH_done (by kernel_rfl) ?_ _
                  clear hHeld
                  go_wp2
                  go_roundg ((nO - 1) + (nA - 1))
                  case rel => exact ⟨_, (nO - 1), _, _, (nA - 1), _, r, s, R, (.slice va R.length vc), by go_num, by go_num, rfl, ⟨pO4, pA4⟩, HP2, HW2⟩
                  case measure => have := HlO.out; have := HlA.out; omega
                · have hrA := ((tlE (HTA.out HP.out.l2)).2 hcA)
                  have c1A : ¬ (ac : Int) = 1 := by omega
                  have c2A : (1 : Int) ≤ (ac : Int) := by have := HcA.out; omega
                  have HP2 : Hid (WlS w (w.heap.size + 2) (w.heap.size + 1) w.heap.size k (.slice va R.length vc) (R) (.slice (some ⟨ob9, oo9, none⟩) (nO - 1) 0) (r) (.slice (some ⟨ab9, ao9 + 2, none⟩) (nA - 1) (ac - 1)) (s) Uj15u0) := ⟨HP.out.s, (by rw [pO4]; rw [HzO.out]; exact LsE.nil _ _ _), (by rw [pA4]; exact hrA), HP.out.bel, HP.out.lo⟩
                  clear HP hrO hrA
                  go_upto_region 6 with fail
                  refine wp_region_held_drew (S := fun W' => Below Uj15u0.heap.size Uj15u0 W') (by kernel_rfl) (Below.refl _ _).drew (fun hHeld => ?_)
                  obtain ⟨Uz6q17u0, eW⟩ : ∃ X, X = Uj15u0.drew := ⟨_, rfl⟩
                  have hb : Below Uj15u0.heap.size Uj15u0 Uz6q17u0 := by rw [eW]; exact (Below.refl _ _).drew
                  replace HP2 : Hid (WlS w (w.heap.size + 2) (w.heap.size + 1) w.heap.size k (.slice va R.length vc) (R) (.slice (some ⟨ob9, oo9, none⟩) (nO - 1) 0) (r) (.slice (some ⟨ab9, ao9 + 2, none⟩) (nA - 1) (ac - 1)) (s) Uz6q17u0) := HP2.out.below hb
                  rw [← eW] at hHeld ⊢
                  clear eW hb
                  refine tkW 0 (some 32) (v := ?_) ?_ hHeld ?_
                  rotate_left
                  · (intro ww _; go_simp; try with_reducible rfl)
                  refine tkW 1 (some 33) (v := ?_) ?_ hHeld ?_
                  rotate_left
                  · (intro ww hSw; (try dsimp only at hSw); go_simp; try with_reducible rfl)
                  refine tkW 2 (some 34) (v := ?_) ?_ hHeld ?_
                  rotate_left
                  · (intro ww _; go_simp; try with_reducible rfl)
                  refine tkW 3 (some 35) (v := ?_) ?_ hHeld ?_
                  rotate_left
                  · (intro ww hSw; (try dsimp only at hSw); go_simp; try with_reducible rfl)
                  refine tkW 4 (some 1) (v := ?_) ?_ hHeld ?_
                  rotate_left
                  · (intro ww _; go_simp; try with_reducible rfl)
                  refine tkW 5 (some 2) (v := ?_) ?_ hHeld ?_
                  rotate_left
                  · (intro ww _; go_simp; try with_reducible rfl)
                  refine wpAnyH_done (by kernel_rfl) ?_ _
                  clear hHeld
                  go_wp2
                  go_roundg ((nO - 1) + (nA - 1))
                  case rel => exact ⟨_, (nO - 1), _, _, (nA - 1), _, r, s, R, (.slice va R.length vc), by go_num, by go_num, rfl, ⟨pO4, pA4⟩, HP2, HW2⟩
                  case measure => have := HlO.out; have := HlA.out; omega
              · have hrO := ((tlE (HTO.out HP.out.l1)).2 hcO)
                have c1O : ¬ (oc : Int) = 1 := by omega
                have c2O : (1 : Int) ≤ (oc : Int) := by have := HcO.out; omega
                by_cases hcA : ac = 1
                · have hrA := ((tlE (HTA.out HP.out.l2)).1 hcA)
                  have HzA : Hid (s = []) := hrA.1
                  replace hrA := hrA.2
                  have HCA := hide9 hcA
                  subst hcA
                  have HP2 : Hid (WlS w (w.heap.size + 2) (w.heap.size + 1) w.heap.size k (.slice va R.length vc) (R) (.slice (some ⟨ob9, oo9 + 2, none⟩) (nO - 1) (oc - 1)) (r) (.slice (some ⟨ab9, ao9, none⟩) (nA - 1) 0) (s) Uj15u0) := ⟨HP.out.s, (by rw [pO4]; exact hrO), (by rw [pA4]; rw [HzA.out]; exact LsE.nil _ _ _), HP.out.bel, HP.out.lo⟩
                  clear HP hrO hrA
                  go_upto_region 6 with fail
                  refine wp_region_held_drew (S := fun W' => Below Uj15u0.heap.size Uj15u0 W') (by kernel_rfl) (Below.refl _ _).drew (fun hHeld => ?_)
                  obtain ⟨Uz7q18u0, eW⟩ : ∃ X, X = Uj15u0.drew := ⟨_, rfl⟩
                  have hb : Below Uj15u0.heap.size Uj15u0 Uz7q18u0 := by rw [eW]; exact (Below.refl _ _).drew
                  replace HP2 : Hid (WlS w (w.heap.size + 2) (w.heap.size + 1) w.heap.size k (.slice va R.length vc) (R) (.slice (some ⟨ob9, oo9 + 2, none⟩) (nO - 1) (oc - 1)) (r) (.slice (some ⟨ab9, ao9, none⟩) (nA - 1) 0) (s) Uz7q18u0) := HP2.out.below hb
                  rw [← eW] at hHeld ⊢
                  clear eW hb
                  refine tkW 0 (some 32) (v := ?_) ?_ hHeld ?_
                  rotate_left
                  · (intro ww _; go_simp; try with_reducible rfl)
                  refine tkW 1 (some 33) (v := ?_) ?_ hHeld ?_
                  rotate_left
                  · (intro ww hSw; (try dsimp only at hSw); go_simp; try with_reducible rfl)
                  refine tkW 2 (some 34) (v := ?_) ?_ hHeld ?_
                  rotate_left
                  · (intro ww _; go_simp; try with_reducible rfl)
                  refine tkW 3 (some 35) (v := ?_) ?_ hHeld ?_
                  rotate_left
                  · (intro ww hSw; (try dsimp only at hSw); go_simp; try with_reducible rfl)
                  refine tkW 4 (some 1) (v := ?_) ?_ hHeld ?_
                  rotate_left
                  · (intro ww _; go_simp; try with_reducible rfl)
                  refine tkW 5 (some 2) (v := ?_) ?_ hHeld ?_
                  rotate_left
                  · (intro ww _; go_simp; try with_reducible rfl)
                  refine wpAnyH_done (by kernel_rfl) ?_ _
                  clear hHeld
                  go_wp2
                  go_roundg ((nO - 1) + (nA - 1))
                  case rel => exact ⟨_, (nO - 1), _, _, (nA - 1), _, r, s, R, (.slice va R.length vc), by go_num, by go_num, rfl, ⟨pO4, pA4⟩, HP2, HW2⟩
                  case measure => have := HlO.out; have := HlA.out; omega
                · have hrA := ((tlE (HTA.out HP.out.l2)).2 hcA)
                  have c1A : ¬ (ac : Int) = 1 := by omega
                  have c2A : (1 : Int) ≤ (ac : Int) := by have := HcA.out; omega
                  have HP2 : Hid (WlS w (w.heap.size + 2) (w.heap.size + 1) w.heap.size k (.slice va R.length vc) (R) (.slice (some ⟨ob9, oo9 + 2, none⟩) (nO - 1) (oc - 1)) (r) (.slice (some ⟨ab9, ao9 + 2, none⟩) (nA - 1) (ac - 1)) (s) Uj15u0) := ⟨HP.out.s, (by rw [pO4]; exact hrO), (by rw [pA4]; exact hrA), HP.out.bel, HP.out.lo⟩
                  clear HP hrO hrA
                  go_upto_region 6 with fail
                  refine wp_region_held_drew (S := fun W' => Below Uj15u0.heap.size Uj15u0 W') (by kernel_rfl) (Below.refl _ _).drew (fun hHeld => ?_)
                  obtain ⟨Uz8q19u0, eW⟩ : ∃ X, X = Uj15u0.drew := ⟨_, rfl⟩
                  have hb : Below Uj15u0.heap.size Uj15u0 Uz8q19u0 := by rw [eW]; exact (Below.refl _ _).drew
                  replace HP2 : Hid (WlS w (w.heap.size + 2) (w.heap.size + 1) w.heap.size k (.slice va R.length vc) (R) (.slice (some ⟨ob9, oo9 + 2, none⟩) (nO - 1) (oc - 1)) (r) (.slice (some ⟨ab9, ao9 + 2, none⟩) (nA - 1) (ac - 1)) (s) Uz8q19u0) := HP2.out.below hb
                  rw [← eW] at hHeld ⊢
                  clear eW hb
                  refine tkW 0 (some 32) (v := ?_) ?_ hHeld ?_
                  rotate_left
                  · (intro ww _; go_simp; try with_reducible rfl)
                  refine tkW 1 (some 33) (v := ?_) ?_ hHeld ?_
                  rotate_left
                  · (intro ww hSw; (try dsimp only at hSw); go_simp; try with_reducible rfl)
                  refine tkW 2 (some 34) (v := ?_) ?_ hHeld ?_
                  rotate_left
                  · (intro ww _; go_simp; try with_reducible rfl)
                  refine tkW 3 (some 35) (v := ?_) ?_ hHeld ?_
                  rotate_left
                  · (intro ww hSw; (try dsimp only at hSw); go_simp; try with_reducible rfl)
                  refine tkW 4 (some 1) (v := ?_) ?_ hHeld ?_
                  rotate_left
                  · (intro ww _; go_simp; try with_reducible rfl)
                  refine tkW 5 (some 2) (v := ?_) ?_ hHeld ?_
                  rotate_left
                  · (intro ww _; go_simp; try with_reducible rfl)
                  refine wpAnyH_done (by kernel_rfl) ?_ _
                  clear hHeld
                  go_wp2
                  go_roundg ((nO - 1) + (nA - 1))
                  case rel => exact ⟨_, (nO - 1), _, _, (nA - 1), _, r, s, R, (.slice va R.length vc), by go_num, by go_num, rfl, ⟨pO4, pA4⟩, HP2, HW2⟩
                  case measure => have := HlO.out; have := HlA.out; omega
end Go.Proofs.Ythhnglpkfcmjiaa
