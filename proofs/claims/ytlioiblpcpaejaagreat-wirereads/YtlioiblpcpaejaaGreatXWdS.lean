/- What the document's Check of a frame does. -/
import Derived.Test.YtlioiblpcpaejaaGreatXWdC
import Derived.Test.YtlioiblpcpaejaaGreatXH
import Derived.Deep.RegionHeld
namespace Go.Proofs.YtlioiblpcpaejaaGreat
open Go.RowKit
set_option linter.unusedVariables false
set_option linter.unusedSimpArgs false

theorem kept_no {kd : Int} {n : Nat} {mo : Bool} {m : Nat} (h : (kd = 1 ∧ (0 < n ∨ mo = true ∨ m = 0)) ∨ (kd = 2 ∧ (mo = true ∨ 0 < m))) : keptB kd n mo m = false := by unfold keptB; rw [decide_eq_true h]; rfl
theorem kept_yes {kd : Int} {n : Nat} {mo : Bool} {m : Nat} (h : ¬ ((kd = 1 ∧ (0 < n ∨ mo = true ∨ m = 0)) ∨ (kd = 2 ∧ (mo = true ∨ 0 < m)))) : keptB kd n mo m = true := by unfold keptB; rw [decide_eq_false h]; rfl
theorem rangeAt_belowC {w W : World} {b o : Nat} {c : Ch} {dv : Value} (h : w.rangeAt b o (chCells c dv)) (hb : Below w.heap.size w W) : W.rangeAt b o (chCells c dv) := fun j v hj => by
  have h0 := h 0 _ rfl
  have hlt : b < w.heap.size := by
    rcases Nat.lt_or_ge b w.heap.size with h' | h'
    · exact h'
    · simp [World.cell?, h'] at h0
  exact (hb.cell (p := ⟨b, o + j, none⟩) hlt).trans (h j v hj)

set_option maxRecDepth 100000 in
set_option maxHeartbeats 8000000 in
theorem refCheckFr_any (kd fm : Int) (a1 : Option Addr) (cl : List Int) (cc : Nat) (mo : Bool) (a2 : Option Addr) (L : List Ch) (ch : Nat) (w : World) (h1 : IsI w (.slice a1 cl.length cc) cl) (h2 : IsH w (.slice a2 L.length ch) L) :
    Calls Tryz.prog 47 #[.agg #[.int .i64 kd, .int .i64 fm, .slice a1 cl.length cc, .bool mo, .slice a2 L.length ch]] w fun e w' => e = .returned (.int .i64 (checkFr ⟨kd, fm, cl, mo, L⟩)) ∧ Below w.heap.size w w' := by
  have K0 := KeptC.start w [.int .i64 kd, .int .i64 fm, .slice a1 cl.length cc, .bool mo, .slice a2 L.length ch] 26
  have H1 : Hid (IsI w (.slice a1 cl.length cc) cl) := h1
  obtain ⟨a2', ch', e2, hc2, hl2, r2⟩ := h2
  cases e2
  have HR : Hid (L = [] ∨ ∃ b o, a2 = some ⟨b, o, none⟩ ∧ ChsAt w b o L) := r2
  have HQ : Hid (checkFr ⟨kd, fm, cl, mo, L⟩ = if headFr ⟨kd, fm, cl, mo, L⟩ = 0 then firstE L else headFr ⟨kd, fm, cl, mo, L⟩) := checkFr_head ⟨kd, fm, cl, mo, L⟩
  have HH : Hid (headFr ⟨kd, fm, cl, mo, L⟩ = _) := headFr_eq kd fm cl mo L
  clear h1 r2
  by_cases x1 : kd < 1
  · skip
    have hh : headFr ⟨kd, fm, cl, mo, L⟩ = 1 := by rw [HH.out, if_neg (by omega)]
    have HE : Hid (checkFr ⟨kd, fm, cl, mo, L⟩ = 1) := by show _ = _; rw [HQ.out, if_neg (by rw [hh]; decide), hh]
    clear hh
    go_enter Tryz.func47, Tryz.ntmps47
    go_wp2
    go_ret
    exact ⟨ret_i HE.out.symm, K0.2.2⟩
  by_cases x2 : 3 < kd
  · skip
    have hh : headFr ⟨kd, fm, cl, mo, L⟩ = 1 := by rw [HH.out, if_neg (by omega)]
    have HE : Hid (checkFr ⟨kd, fm, cl, mo, L⟩ = 1) := by show _ = _; rw [HQ.out, if_neg (by rw [hh]; decide), hh]
    clear hh
    go_enter Tryz.func47, Tryz.ntmps47
    go_wp2
    go_ret
    exact ⟨ret_i HE.out.symm, K0.2.2⟩
  by_cases x3 : fm < 0
  · skip
    have hh : headFr ⟨kd, fm, cl, mo, L⟩ = 1 := by rw [HH.out, if_neg (by omega)]
    have HE : Hid (checkFr ⟨kd, fm, cl, mo, L⟩ = 1) := by show _ = _; rw [HQ.out, if_neg (by rw [hh]; decide), hh]
    clear hh
    go_enter Tryz.func47, Tryz.ntmps47
    go_wp2
    go_ret
    exact ⟨ret_i HE.out.symm, K0.2.2⟩
  by_cases x4 : 64 ≤ fm
  · skip
    have hh : headFr ⟨kd, fm, cl, mo, L⟩ = 1 := by rw [HH.out, if_neg (by omega)]
    have HE : Hid (checkFr ⟨kd, fm, cl, mo, L⟩ = 1) := by show _ = _; rw [HQ.out, if_neg (by rw [hh]; decide), hh]
    clear hh
    go_enter Tryz.func47, Tryz.ntmps47
    go_wp2
    go_ret
    exact ⟨ret_i HE.out.symm, K0.2.2⟩
  have HK : Hid (1 ≤ kd ∧ kd ≤ 3 ∧ 0 ≤ fm ∧ fm < 64) := by show _ ∧ _; omega
  obtain ⟨k_0, k_1, k_2, k_3, k_4⟩ := K0.five
  go_enter Tryz.func47, Tryz.ntmps47
  go_wp2_with fail
  refine (refCheck_any _ cl _ (H1.out.below K0.2.2)).mono ?_
  rintro e w' ⟨rfl, hw⟩
  replace hw := hw.symm
  subst hw
  by_cases k3 : checkL cl = 0
  · have HK3 : Hid (checkL cl = 0) := k3
    rw [k3]
    clear k3
    go_upto_region 5 with fail
    clear k_0 k_1 k_2 k_3 k_4
    refine wp_region_held_drew (S := fun W' => KeptC w w.heap.size [.int .i64 kd, .int .i64 fm, .slice a1 cl.length cc, .bool mo, .slice a2 L.length ch] W') (by kernel_rfl) K0.drew (fun hHeld => ?_)
    refine wpAnyH_take (i := 0) (oi := ⟨some 29, _, _, _, _, _⟩) (v := ?vh0) rfl (by kernel_rfl) (by kernel_rfl) (by kernel_rfl) (fun _ _ _ h => h) (Or.inl ⟨by rfl, ?hyh0⟩) hHeld ?resth0
    case hyh0 => (intro w hSw; (try dsimp only at hSw); obtain ⟨hc0, hc1, hc2, hc3, hc4⟩ := hSw.five; go_simp; try with_reducible rfl)
    simp only [Act.put, List.setIfInBounds_toArray, List.set_cons_zero, List.set_cons_succ]
    refine wpAnyH_take (i := 1) (oi := ⟨some 30, _, _, _, _, _⟩) (v := ?vh1) rfl (by kernel_rfl) (by kernel_rfl) (by kernel_rfl) (fun _ _ _ h => h) (Or.inl ⟨by rfl, ?hyh1⟩) hHeld ?resth1
    case hyh1 => (intro w hSw; (try dsimp only at hSw); obtain ⟨hc0, hc1, hc2, hc3, hc4⟩ := hSw.five; go_simp; try with_reducible rfl)
    simp only [Act.put, List.setIfInBounds_toArray, List.set_cons_zero, List.set_cons_succ]
    refine wpAnyH_take (i := 4) (oi := ⟨some 33, _, _, _, _, _⟩) (v := ?vh4) rfl (by kernel_rfl) (by kernel_rfl) (by kernel_rfl) (fun _ _ _ h => h) (Or.inl ⟨by rfl, ?hyh4⟩) hHeld ?resth4
    case hyh4 => (intro w hSw; (try dsimp only at hSw); obtain ⟨hc0, hc1, hc2, hc3, hc4⟩ := hSw.five; go_simp; try with_reducible rfl)
    simp only [Act.put, List.setIfInBounds_toArray, List.set_cons_zero, List.set_cons_succ]
    refine wpAnyH_take (i := 5) (oi := ⟨some 34, _, _, _, _, _⟩) (v := ?vh5) rfl (by kernel_rfl) (by kernel_rfl) (by kernel_rfl) (fun _ _ _ h => h) (Or.inl ⟨by rfl, ?hyh5⟩) hHeld ?resth5
    case hyh5 => (intro w hSw; (try dsimp only at hSw); obtain ⟨hc0, hc1, hc2, hc3, hc4⟩ := hSw.five; go_simp; try with_reducible rfl)
    simp only [Act.put, List.setIfInBounds_toArray, List.set_cons_zero, List.set_cons_succ]
    refine wpAnyH_take (i := 6) (oi := ⟨some 35, _, _, _, _, _⟩) (v := ?vh6) rfl (by kernel_rfl) (by kernel_rfl) (by kernel_rfl) (fun _ _ _ h => h) (Or.inl ⟨by rfl, ?hyh6⟩) hHeld ?resth6
    case hyh6 => (intro w hSw; (try dsimp only at hSw); obtain ⟨hc0, hc1, hc2, hc3, hc4⟩ := hSw.five; go_simp; try with_reducible rfl)
    simp only [Act.put, List.setIfInBounds_toArray, List.set_cons_zero, List.set_cons_succ]
    refine wpAnyH_ready (rs := [2]) (by kernel_rfl) (by simp) ?_
    refine AllReadyH.cons (o := ⟨some 31, _, _, _, _, _⟩) rfl (fun K hK => ?_) AllReadyH.nil
    go_simp
    refine (refTrim_any _ cl _ (H1.out.below hHeld.2.2)).mono ?_
    rintro e w2 ⟨v2, rfl, ho2, hb⟩
    obtain ⟨a3, c3, e3⟩ := ho2.form
    subst e3
    clear ho2
    (try go_wp2_with fail)
    refine hK.out _ _ (hHeld.step hb) (fun hHeld2 => ?_)
    clear hK K hHeld
    have hHeld := hHeld2
    clear hHeld2
    (try simp only [Act.put, List.setIfInBounds_toArray, List.set_cons_zero, List.set_cons_succ])
    refine wpAnyH_take (i := 3) (oi := ⟨some 32, _, _, _, _, _⟩) (v := ?vh3) rfl (by kernel_rfl) (by kernel_rfl) (by kernel_rfl) (fun _ _ _ h => h) (Or.inl ⟨by rfl, ?hyh3⟩) hHeld ?resth3
    case hyh3 => (intro w hSw; (try dsimp only at hSw); obtain ⟨hc0, hc1, hc2, hc3, hc4⟩ := hSw.five; go_simp; try with_reducible rfl)
    simp only [Act.put, List.setIfInBounds_toArray, List.set_cons_zero, List.set_cons_succ]
    refine wpAnyH_take (i := 7) (oi := ⟨some 36, _, _, _, _, _⟩) (v := ?vh7) rfl (by kernel_rfl) (by kernel_rfl) (by kernel_rfl) (fun _ _ _ h => h) (Or.inl ⟨by rfl, ?hyh7⟩) hHeld ?resth7
    case hyh7 => (intro w hSw; (try dsimp only at hSw); obtain ⟨hc0, hc1, hc2, hc3, hc4⟩ := hSw.five; go_simp; try with_reducible rfl)
    simp only [Act.put, List.setIfInBounds_toArray, List.set_cons_zero, List.set_cons_succ]
    refine wpAnyH_done (by kernel_rfl) ?_ _
    have K2 := hHeld
    clear hHeld K0
    obtain ⟨k_0, k_1, k_2, k_3, k_4⟩ := K2.five
    by_cases k4 : (trimL cl).length = cl.length
    · have HK4 : Hid ((trimL cl).length = cl.length) := k4
      rw [k4]
      clear k4
      have q4 : ((cl.length : Int) != (cl.length : Int)) = false := by simp
      by_cases k5 : L.length ≤ 64
      · have q5 : ¬ (64 : Int) < (L.length : Int) := by omega
        have HK5 : Hid (L.length ≤ 64) := k5
        clear k5
        go_upto_region 9 with fail
        go_cut [74] from 4 (fun b W => b = .bool (!keptB kd cl.length mo L.length) ∧ KeptC w w.heap.size [.int .i64 kd, .int .i64 fm, .slice a1 cl.length cc, .bool mo, .slice a2 L.length ch] W)
        case first =>
          by_cases z1 : kd = 1
          · subst z1
            by_cases hn : cl.length = 0
            · have HN0 : Hid (cl.length = 0) := hn
              have qn : decide ((0 : Int) < (cl.length : Int)) = false := decide_eq_false (by omega)
              have qn2 : decide (0 < cl.length) = false := decide_eq_false (by omega)
              cases mo
              · by_cases hm : L.length = 0
                · skip
                  have HB : Hid (keptB 1 cl.length false L.length = false) := by first | exact kept_no (.inl ⟨rfl, by omega⟩) | exact kept_no (.inl ⟨rfl, .inr (.inl rfl)⟩) | exact kept_no (.inl ⟨rfl, .inr (.inr (by omega))⟩) | exact kept_no (.inr ⟨rfl, .inl rfl⟩) | exact kept_no (.inr ⟨rfl, .inr (by omega)⟩) | exact kept_no (.inl ⟨rfl, .inl (by omega)⟩) | exact kept_yes (by rintro (⟨h, h2 | h2 | h2⟩ | ⟨h, h2 | h2⟩) <;> first | omega | cases h2)
                  have qm : ((L.length : Int) == 0) = true := by simp [hm]
                  clear hm hn
                  go_wp2
                  go_meet
                  case rel => exact ⟨by rw [HB.out]; first | rfl | (simp; omega), K2⟩
                · skip
                  have HB : Hid (keptB 1 cl.length false L.length = true) := by first | exact kept_no (.inl ⟨rfl, by omega⟩) | exact kept_no (.inl ⟨rfl, .inr (.inl rfl)⟩) | exact kept_no (.inl ⟨rfl, .inr (.inr (by omega))⟩) | exact kept_no (.inr ⟨rfl, .inl rfl⟩) | exact kept_no (.inr ⟨rfl, .inr (by omega)⟩) | exact kept_no (.inl ⟨rfl, .inl (by omega)⟩) | exact kept_yes (by rintro (⟨h, h2 | h2 | h2⟩ | ⟨h, h2 | h2⟩) <;> first | omega | cases h2)
                  have qm : ((L.length : Int) == 0) = false := by simp [hm]
                  clear hm hn
                  go_wp2
                  go_meet
                  case rel => exact ⟨by rw [HB.out]; first | rfl | (simp; omega), K2⟩
              · skip
                have HB : Hid (keptB 1 cl.length true L.length = false) := by first | exact kept_no (.inl ⟨rfl, by omega⟩) | exact kept_no (.inl ⟨rfl, .inr (.inl rfl)⟩) | exact kept_no (.inl ⟨rfl, .inr (.inr (by omega))⟩) | exact kept_no (.inr ⟨rfl, .inl rfl⟩) | exact kept_no (.inr ⟨rfl, .inr (by omega)⟩) | exact kept_no (.inl ⟨rfl, .inl (by omega)⟩) | exact kept_yes (by rintro (⟨h, h2 | h2 | h2⟩ | ⟨h, h2 | h2⟩) <;> first | omega | cases h2)
                clear hn
                go_wp2
                go_meet
                case rel => exact ⟨by rw [HB.out]; first | rfl | (simp; omega), K2⟩
            · cases mo
              · skip
                have HB : Hid (keptB 1 cl.length false L.length = false) := by first | exact kept_no (.inl ⟨rfl, by omega⟩) | exact kept_no (.inl ⟨rfl, .inr (.inl rfl)⟩) | exact kept_no (.inl ⟨rfl, .inr (.inr (by omega))⟩) | exact kept_no (.inr ⟨rfl, .inl rfl⟩) | exact kept_no (.inr ⟨rfl, .inr (by omega)⟩) | exact kept_no (.inl ⟨rfl, .inl (by omega)⟩) | exact kept_yes (by rintro (⟨h, h2 | h2 | h2⟩ | ⟨h, h2 | h2⟩) <;> first | omega | cases h2)
                have qn : decide ((0 : Int) < (cl.length : Int)) = true := decide_eq_true (by omega)
                have qn2 : decide (0 < cl.length) = true := decide_eq_true (by omega)
                have qn3 : 0 < cl.length := by omega
                clear hn
                go_wp2
                go_meet
                case rel => exact ⟨by rw [HB.out]; first | rfl | (simp; omega), K2⟩
              · skip
                have HB : Hid (keptB 1 cl.length true L.length = false) := by first | exact kept_no (.inl ⟨rfl, by omega⟩) | exact kept_no (.inl ⟨rfl, .inr (.inl rfl)⟩) | exact kept_no (.inl ⟨rfl, .inr (.inr (by omega))⟩) | exact kept_no (.inr ⟨rfl, .inl rfl⟩) | exact kept_no (.inr ⟨rfl, .inr (by omega)⟩) | exact kept_no (.inl ⟨rfl, .inl (by omega)⟩) | exact kept_yes (by rintro (⟨h, h2 | h2 | h2⟩ | ⟨h, h2 | h2⟩) <;> first | omega | cases h2)
                have qn : decide ((0 : Int) < (cl.length : Int)) = true := decide_eq_true (by omega)
                have qn2 : decide (0 < cl.length) = true := decide_eq_true (by omega)
                have qn3 : 0 < cl.length := by omega
                clear hn
                go_wp2
                go_meet
                case rel => exact ⟨by rw [HB.out]; first | rfl | (simp; omega), K2⟩
          by_cases z2 : kd = 2
          · subst z2
            cases mo
            · by_cases hm : L.length = 0
              · skip
                have HB : Hid (keptB 2 cl.length false L.length = true) := by first | exact kept_no (.inl ⟨rfl, by omega⟩) | exact kept_no (.inl ⟨rfl, .inr (.inl rfl)⟩) | exact kept_no (.inl ⟨rfl, .inr (.inr (by omega))⟩) | exact kept_no (.inr ⟨rfl, .inl rfl⟩) | exact kept_no (.inr ⟨rfl, .inr (by omega)⟩) | exact kept_no (.inl ⟨rfl, .inl (by omega)⟩) | exact kept_yes (by rintro (⟨h, h2 | h2 | h2⟩ | ⟨h, h2 | h2⟩) <;> first | omega | cases h2)
                have qm : decide ((0 : Int) < (L.length : Int)) = false := decide_eq_false (by omega)
                have qm2 : decide (0 < L.length) = false := decide_eq_false (by omega)
                clear hm z1
                go_wp2
                go_meet
                case rel => exact ⟨by rw [HB.out]; first | rfl | (simp; omega), K2⟩
              · skip
                have HB : Hid (keptB 2 cl.length false L.length = false) := by first | exact kept_no (.inl ⟨rfl, by omega⟩) | exact kept_no (.inl ⟨rfl, .inr (.inl rfl)⟩) | exact kept_no (.inl ⟨rfl, .inr (.inr (by omega))⟩) | exact kept_no (.inr ⟨rfl, .inl rfl⟩) | exact kept_no (.inr ⟨rfl, .inr (by omega)⟩) | exact kept_no (.inl ⟨rfl, .inl (by omega)⟩) | exact kept_yes (by rintro (⟨h, h2 | h2 | h2⟩ | ⟨h, h2 | h2⟩) <;> first | omega | cases h2)
                have qm : (0 : Int) < (L.length : Int) := by omega
                clear hm z1
                go_wp2
                go_meet
                case rel => exact ⟨by rw [HB.out]; first | rfl | (simp; omega), K2⟩
            · skip
              have HB : Hid (keptB 2 cl.length true L.length = false) := by first | exact kept_no (.inl ⟨rfl, by omega⟩) | exact kept_no (.inl ⟨rfl, .inr (.inl rfl)⟩) | exact kept_no (.inl ⟨rfl, .inr (.inr (by omega))⟩) | exact kept_no (.inr ⟨rfl, .inl rfl⟩) | exact kept_no (.inr ⟨rfl, .inr (by omega)⟩) | exact kept_no (.inl ⟨rfl, .inl (by omega)⟩) | exact kept_yes (by rintro (⟨h, h2 | h2 | h2⟩ | ⟨h, h2 | h2⟩) <;> first | omega | cases h2)
              clear z1
              go_wp2
              go_meet
              case rel => exact ⟨by rw [HB.out]; first | rfl | (simp; omega), K2⟩
          · skip
            have HB : Hid (keptB kd cl.length mo L.length = true) := by show _ = _; unfold keptB; simp [z1, z2]
            have y1 : (kd == 1) = false := by simp [z1]
            have y2 : (kd == 2) = false := by simp [z2]
            clear z1 z2
            go_wp2
            go_meet
            case rel => exact ⟨by rw [HB.out]; first | rfl | (simp; omega), K2⟩
        case rest =>
          obtain ⟨rfl, K3⟩ := hcut
          clear k_0 k_1 k_2 k_3 k_4 K2
          cases k6 : keptB kd cl.length mo L.length
          · skip
            have HE : Hid (checkFr ⟨kd, fm, cl, mo, L⟩ = 2) := by
              have hh : headFr ⟨kd, fm, cl, mo, L⟩ = 2 := by rw [HH.out, if_pos HK.out, if_pos HK3.out, if_pos HK4.out, if_pos HK5.out, if_neg (by rw [k6]; decide)]
              show _ = _
              rw [HQ.out, if_neg (by rw [hh]; decide), hh]
            go_wp2
            go_ret
            exact ⟨ret_i HE.out.symm, K3.2.2⟩
          · skip
            have HE : Hid (checkFr ⟨kd, fm, cl, mo, L⟩ = firstE L) := by
              have hh : headFr ⟨kd, fm, cl, mo, L⟩ = 0 := by rw [HH.out, if_pos HK.out, if_pos HK3.out, if_pos HK4.out, if_pos HK5.out, if_pos k6]
              show _ = _
              rw [HQ.out, if_pos hh]
            obtain ⟨k_0, k_1, k_2, k_3, k_4⟩ := K3.five
            go_wp2
            clear k_0 k_1 k_2 k_3 k_4
            go_loopw [3] (fun i wr => ∃ k : Nat, k ≤ L.length ∧ i = .int .i64 (k : Int) ∧ (∀ j (hj : j < L.length), j < k → checkCh L[j] = 0) ∧ KeptC w w.heap.size [.int .i64 kd, .int .i64 fm, .slice a1 cl.length cc, .bool mo, .slice a2 L.length ch] wr) (fun i _ => L.length - (intOf i).toNat)
            case atStart => exact ⟨0, Nat.zero_le _, rfl, fun j _ h => absurd h (Nat.not_lt_zero _), K3⟩
            case round =>
              obtain ⟨k, hk, rfl, ht, KR⟩ := hrel
              have HT : Hid (∀ j (hj : j < L.length), j < k → checkCh L[j] = 0) := ht
              clear ht
              obtain ⟨k_0, k_1, k_2, k_3, k_4⟩ := KR.five
              by_cases hlt : k < L.length
              · obtain ⟨b1, o1, rfl, g1⟩ := HR.out.resolve_left (by intro e; subst e; simp at hlt)
                obtain ⟨a3, c3, i3, hs3, hx⟩ := ((g1.below KR.2.2) k hlt).open
                have k1 : (k : Int) < (L.length : Int) := by omega
                have k0 : (0 : Int) ≤ (k : Int) := by omega
                have HM : Hid (checkCh L[k] = 0 → ∀ j (hj : j < L.length), j < k + 1 → checkCh L[j] = 0) := fun h0 j hj hjk => by
                  rcases Nat.lt_or_eq_of_le (Nat.le_of_lt_succ hjk) with h | h
                  · exact HT.out j hj h
                  · subst h; exact h0
                have HN : Hid (checkCh L[k] ≠ 0 → firstE L = checkCh L[k]) := fun h0 => firstE_take hlt HT.out h0
                generalize L[k] = c at *
                have HX : Hid (wr.rangeAt b1 (o1 + k * 13) (chCells c (.slice a3 c.deps.length c3))) := hx
                have I3 : Hid (IsI wr (.slice a3 c.deps.length c3) c.deps) := i3
                have C1 : Hid (∀ W, IsI W (.slice a3 c.deps.length c3) c.deps → Calls Tryz.prog 64 #[.agg (chCells c (.slice a3 c.deps.length c3)).toArray] W fun e w' => e = .returned (.int .i64 (checkCh c)) ∧ Below W.heap.size W w') := fun W hW => refCheckCh_any c.ac c.ar c.seq (.slice a3 c.deps.length c3) c.kind c.nc c.nr c.pc c.pr c.fc c.fr c.name c.value c.deps hs3.1 W hW
                clear g1 i3 hs3 hx
                go_upto_region 14 with fail
                go_step
                refine wpList_plain rfl (fun K hK => ?_)
                go_simp
                refine hK _ _ ?_
                clear hK K
                refine wpList_plain rfl (fun K hK => ?_)
                go_simp
                refine hK _ _ ?_
                clear hK K
                refine wpList_plain rfl (fun K hK => ?_)
                go_simp
                refine hK _ _ ?_
                clear hK K
                refine wpList_plain rfl (fun K hK => ?_)
                go_simp
                refine hK _ _ ?_
                clear hK K
                refine wpList_load_mid rfl 57 (.tmp 85) rfl b1 (o1 + k * 13) rfl (chCells c (.slice a3 c.deps.length c3)) _ HX.out Tryz.underlying57 rfl sizeChange ?_
                (try simp only [Act.put, List.setIfInBounds_toArray, List.set_cons_zero, List.set_cons_succ])
                go_wp2_with fail
                refine (C1.out _ I3.out).mono ?_
                rintro e w3 ⟨rfl, hb3⟩
                have K4 := KR.step hb3
                have I4 : Hid (IsI w3 (.slice a3 c.deps.length c3) c.deps) := I3.out.below hb3
                have HX4 : Hid (w3.rangeAt b1 (o1 + k * 13) (chCells c (.slice a3 c.deps.length c3))) := rangeAt_belowC HX.out hb3
                clear k_0 k_1 k_2 k_3 k_4 hb3 KR I3
                by_cases hz : checkCh c = 0
                · have HM3 : Hid (∀ j (hj : j < L.length), j < k + 1 → checkCh L[j] = 0) := HM.out hz
                  rw [hz]
                  clear hz
                  go_wp2
                  go_roundw
                  case rel => exact ⟨k + 1, by omega, by go_num, HM3.out, K4⟩
                  case measure => simp [intOf]; omega
                · have HN2 : Hid (firstE L = checkCh c) := HN.out hz
                  have q : (checkCh c != 0) = true := by simp [hz]
                  clear hz HX
                  have HX := HX4
                  obtain ⟨k_0, k_1, k_2, k_3, k_4⟩ := K4.five
                  generalize checkCh c = z at *
                  go_upto_region 15 with fail
                  go_step
                  refine wpList_plain rfl (fun K hK => ?_)
                  go_simp
                  refine hK _ _ ?_
                  clear hK K
                  refine wpList_plain rfl (fun K hK => ?_)
                  go_simp
                  refine hK _ _ ?_
                  clear hK K
                  refine wpList_plain rfl (fun K hK => ?_)
                  go_simp
                  refine hK _ _ ?_
                  clear hK K
                  refine wpList_plain rfl (fun K hK => ?_)
                  go_simp
                  refine hK _ _ ?_
                  clear hK K
                  refine wpList_load_mid rfl 57 (.tmp 92) rfl b1 (o1 + k * 13) rfl (chCells c (.slice a3 c.deps.length c3)) _ HX.out Tryz.underlying57 rfl sizeChange ?_
                  (try simp only [Act.put, List.setIfInBounds_toArray, List.set_cons_zero, List.set_cons_succ])
                  go_wp2_with fail
                  refine (C1.out _ I4.out).mono ?_
                  rintro e w5 ⟨rfl, hb5⟩
                  have K5 := K4.step hb5
                  go_wp2
                  go_ret
                  exact ⟨ret_i (by rw [HE.out, HN2.out]), K5.2.2⟩
              · skip
                have HF : Hid (firstE L = 0) := firstE_all fun c hc => by
                  obtain ⟨i, hi, rfl⟩ := List.getElem_of_mem hc
                  exact HT.out i hi (by omega)
                go_wp2
                go_ret
                exact ⟨ret_i (by rw [HE.out, HF.out]), KR.2.2⟩
      · have q5 : (64 : Int) < (L.length : Int) := by omega
        have HE : Hid (checkFr ⟨kd, fm, cl, mo, L⟩ = 3) := by
          have hh : headFr ⟨kd, fm, cl, mo, L⟩ = 3 := by rw [HH.out, if_pos HK.out, if_pos HK3.out, if_pos HK4.out, if_neg k5]
          show _ = _
          rw [HQ.out, if_neg (by rw [hh]; decide), hh]
        clear k5
        go_wp2
        go_ret
        exact ⟨ret_i HE.out.symm, K2.2.2⟩
    · skip
      have HE : Hid (checkFr ⟨kd, fm, cl, mo, L⟩ = 2) := by
        have hh : headFr ⟨kd, fm, cl, mo, L⟩ = 2 := by rw [HH.out, if_pos HK.out, if_pos HK3.out, if_neg k4]
        show _ = _
        rw [HQ.out, if_neg (by rw [hh]; decide), hh]
      have q4 : (((trimL cl).length : Int) != (cl.length : Int)) = true := by simp; omega
      clear k4
      go_wp2
      go_ret
      exact ⟨ret_i HE.out.symm, K2.2.2⟩
  · skip
    have HE : Hid (checkFr ⟨kd, fm, cl, mo, L⟩ = checkL cl) := by
      have hh : headFr ⟨kd, fm, cl, mo, L⟩ = checkL cl := by rw [HH.out, if_pos HK.out, if_neg k3]
      show _ = _
      rw [HQ.out, if_neg (by rw [hh]; exact k3), hh]
    have q3 : (checkL cl != 0) = true := by simp [k3]
    have C1 : Hid (∀ W, IsI W (.slice a1 cl.length cc) cl → Calls Tryz.prog 66 #[.slice a1 cl.length cc] W fun e w' => e = .returned (.int .i64 (checkL cl)) ∧ w' = W) := fun W hW => refCheck_any _ cl W hW
    clear k3
    generalize checkL cl = z at *
    go_wp2_with fail
    refine (C1.out _ (H1.out.below K0.2.2)).mono ?_
    rintro e w' ⟨rfl, hw⟩
    replace hw := hw.symm
    subst hw
    go_wp2
    go_ret
    exact ⟨ret_i HE.out.symm, K0.2.2⟩

end Go.Proofs.YtlioiblpcpaejaaGreat
