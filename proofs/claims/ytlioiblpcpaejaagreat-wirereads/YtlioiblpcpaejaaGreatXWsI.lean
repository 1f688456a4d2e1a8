/- What the document's Open does. -/
import Derived.Test.YtlioiblpcpaejaaGreatXD
import Derived.Test.YtlioiblpcpaejaaGreatXC
namespace Go.Proofs.YtlioiblpcpaejaaGreat
open Go.RowKit
set_option linter.unusedVariables false

theorem below_drewN {k : Nat} {w w' : World} (h : Below k w w') (m : Nat) : Below k w (w'.drewN m) := ⟨h.os, h.tape, h.output, h.size, h.block⟩
theorem txt_ne {a b : List UInt8} (h : a ≠ b) : ((txt a).toList == (txt b).toList) = false := by
  apply beq_false_of_ne
  intro e
  rw [ByteArray.toList_eq, ByteArray.toList_eq] at e
  exact h (by simpa [txt] using e)

set_option maxRecDepth 100000 in
set_option maxHeartbeats 4000000 in
/-- The document's Open. -/
theorem refOpen_any (v : Value) (p : List UInt8) (w : World) (h : IsB w v p) :
    Calls Tryz.prog 17 #[v] w fun e w' => ∃ v', e = .returned (.tuple #[.int .i64 ((openL p).1 : Int), v', .int .i64 (openL p).2.2]) ∧ OwnB w.heap.size w' v' (openL p).2.1 ∧ Below w.heap.size w w' := by
  have H : Hid (IsB w v p) := h
  obtain ⟨a1, c1, rfl, hc1, hl1, r1⟩ := h
  by_cases h9 : 9 ≤ p.length
  · obtain ⟨b1, o1, rfl, g1⟩ := r1.resolve_left (by intro e; subst e; simp at h9)
    have x0 := g1 0 (by omega)
    rw [Nat.add_zero] at x0
    have HF : Hid (frameB p = ((decide (1 ≤ p[0].toNat) && decide (p[0].toNat ≤ 15)) && (decide (leL ((p.drop 1).take 4) ≤ 65536) && decide (leL ((p.drop 1).take 4) + 9 = p.length)))) := frameB_long h9
    have HS4 : Hid (∀ m, IsB (w.drewN m) (.slice (some ⟨b1, o1 + 1, none⟩) 4 (c1 - 1)) ((p.drop 1).take 4)) := fun m => by
      have := H.out.sub 1 4 (by omega)
      rw [Option.map_some, Addr.add_lit] at this
      exact this.drewN m
    have q0 := UInt8.toNat_lt p[0]
    have qn : leL ((p.drop 1).take 4) < 4294967296 := by
      have := leL_lt ((p.drop 1).take 4)
      rw [List.length_take, List.length_drop, Nat.min_eq_left (by omega)] at this
      exact this
    have HNU : Hid (∀ v W, IsB W v ((p.drop 1).take 4) → Calls Tryz.prog 40 #[v] W fun e w' => e = .returned (.int .i64 (leL ((p.drop 1).take 4) : Int)) ∧ ∃ m, w' = W.drewN m) := fun v W hW => by
      have := refNumber_any v _ W hW (by rw [List.length_take, List.length_drop]; omega)
      rw [List.take_take, Nat.min_self] at this
      exact this
    obtain ⟨e, he⟩ : ∃ e, p.length = e + 4 := ⟨p.length - 4, by omega⟩
    have he5 : 5 ≤ e := by omega
    have HHE : Hid (p.length = e + 4) := he
    have HPZ : Hid (∀ (h0 : 0 < p.length), p[0].toNat = p[0].toNat) := fun _ => rfl
    have HNO : Hid (frameB p = false → openL p = (0, [], 2)) := openL_no
    -- BRANCH
    generalize hnn : leL ((p.drop 1).take 4) = n at *
    have HNN : Hid (leL ((p.drop 1).take 4) = n) := hnn
    have hw4 : (5 : Int) ≤ (c1 : Int) := by omega
    have hc10 : c1 ≠ 1 := by omega
    have n9 : ¬ ((p.length : Int) < 9) := by omega
    cases hf : frameB p with
    | false =>
      have HS : Hid (openL p = (0, [], 2)) := openL_no hf
      rw [hf] at HF
      clear hnn hf HNO HPZ r1 g1 he
      generalize p[0].toNat = k at *
      generalize p.length = pl at *
      by_cases hk1 : k < 1
      · have z1 : (k : Int) < 1 := by omega
        go_enter Tryz.func17, Tryz.ntmps17
        go_wp2
        go_ret3
        exact ⟨_, by rw [HS.out]; rfl, by rw [HS.out]; exact OwnB.nil0 _ _, Below.refl _ _⟩
      · have z1 : ¬ (k : Int) < 1 := by omega
        by_cases hk2 : 15 < k
        · have z2 : (15 : Int) < (k : Int) := by omega
          go_enter Tryz.func17, Tryz.ntmps17
          go_wp2
          go_ret3
          exact ⟨_, by rw [HS.out]; rfl, by rw [HS.out]; exact OwnB.nil0 _ _, Below.refl _ _⟩
        · have z2 : ¬ (15 : Int) < (k : Int) := by omega
          by_cases hn1 : 65536 < n
          · have z3 : (65536 : Int) < (n : Int) := by omega
            go_enter Tryz.func17, Tryz.ntmps17
            go_wp2_with (go_at_call 40; refine (HNU.out _ _ (HS4.out 0)).mono ?_; rintro e' w' ⟨rfl, m, rfl⟩)
            go_ret3
            exact ⟨_, by rw [HS.out]; rfl, by rw [HS.out]; exact OwnB.nil0 _ _, below_drewN (Below.refl _ _) _⟩
          · have z3 : ¬ (65536 : Int) < (n : Int) := by omega
            have z4 : ((n : Int) != (pl : Int) - 9) = true := by
              have := HF.out
              simp only [show 1 ≤ k by omega, show k ≤ 15 by omega, show n ≤ 65536 by omega, decide_true, Bool.true_and] at this
              have h2 : ¬ (n + 9 = pl) := by
                intro h3
                rw [decide_eq_true h3] at this
                cases this
              simp
              omega
            go_enter Tryz.func17, Tryz.ntmps17
            go_wp2_with (go_at_call 40; first | (refine (HNU.out _ w (HS4.out 0)).mono ?_; rintro e' w' ⟨rfl, m, rfl⟩) | (refine (HNU.out _ _ (HS4.out _)).mono ?_; rintro e' w' ⟨rfl, m2, rfl⟩))
            go_ret3
            exact ⟨_, by rw [HS.out]; rfl, by rw [HS.out]; exact OwnB.nil0 _ _, below_drewN (Below.refl _ _) _⟩
    | true =>
      have HMO := frameB_most hf
      have HFT : Hid (frameB p = true) := hf
      rw [hf] at HF
      have hF := HF.out.symm
      simp only [Bool.and_eq_true, decide_eq_true_eq] at hF
      obtain ⟨⟨hk1, hk2⟩, hn1, hn2⟩ := hF
      have z1 : ¬ (p[0].toNat : Int) < 1 := by omega
      have z2 : ¬ (15 : Int) < (p[0].toNat : Int) := by omega
      have z3 : ¬ (65536 : Int) < (n : Int) := by omega
      have z4 : ((n : Int) != (p.length : Int) - 9) = false := by simp; omega
      have hpe : (p.length : Int) - 4 = (e : Int) := by omega
      have hpe2 : p.length - e = 4 := by omega
      have hle1 : (e : Int) ≤ (p.length : Int) := by omega
      have hle2 : (e : Int) ≤ (c1 : Int) := by omega
      have hle3 : (0 : Int) ≤ (e : Int) := by omega
      have hle5 : (5 : Int) ≤ (e : Int) := by omega
      have hle6 : (0 : Int) < (p.length : Int) := by omega
      have hle7 : 0 < p.length := by omega
      have hce : c1 ≠ e := by omega
      have hce5 : c1 ≠ 5 := by omega
      have hk0 : p[0].toNat < 256 := q0
      have hwre : IntKind.i64.wrap (e : Int) = (e : Int) := by rw [IntKind.wrap_i64]; omega
      -- FACTS
      have HHd : Hid (∀ W, IsB W (.slice (some ⟨b1, o1, none⟩) p.length c1) p → IsB W (.slice (some ⟨b1, o1, none⟩) e c1) (p.take e)) := fun W hW => hW.head e (by omega)
      have HSub : Hid (∀ W, IsB W (.slice (some ⟨b1, o1, none⟩) p.length c1) p → IsB W (.slice (some ⟨b1, o1 + e, none⟩) 4 (c1 - e)) (p.drop e)) := fun W hW => by
        have h2 := hW.sub e 4 (by omega)
        rw [Option.map_some, Addr.add_lit, List.take_of_length_le (by rw [List.length_drop]; omega)] at h2
        exact h2
      have HS5 : Hid (∀ W, IsB W (.slice (some ⟨b1, o1, none⟩) p.length c1) p → IsB W (.slice (some ⟨b1, o1 + 5, none⟩) (e - 5) (c1 - 5)) ((p.drop 5).take (e - 5))) := fun W hW => by
        have h2 := hW.sub 5 (e - 5) (by omega)
        rw [Option.map_some, Addr.add_lit] at h2
        exact h2
      have HL5 : Hid (([] : List UInt8).length + ((p.drop 5).take (e - 5)).length ≤ 140737488355328) := by show _ ≤ _; rw [List.length_take, List.length_drop]; simp; omega
      have HY : Hid (fourL (sumL (p.take e)) = p.drop e → openL p = (p[0].toNat, (p.drop 5).take (e - 5), 0)) := fun hq => by
        rw [← List.drop_take]
        exact openL_yes HFT.out HHE.out (by rw [List.take_of_length_le (by rw [List.length_drop]; omega), ← hq, leL_fourL (sumL_lt _)]) (by omega)
      have HN : Hid (fourL (sumL (p.take e)) ≠ p.drop e → openL p = (0, [], 9)) := fun hq => openL_sum HFT.out HHE.out (fun h => hq (by
        rw [List.take_of_length_le (by rw [List.length_drop]; omega)] at h
        rw [← h, fourL_leL (by rw [List.length_drop]; omega)]))
      have HC : Hid (∀ W, IsB W (.slice (some ⟨b1, o1, none⟩) p.length c1) p → W.cell? ⟨b1, o1, none⟩ = some (.int .u8 (p[0].toNat : Int))) := fun W hW => by
        obtain ⟨a, c, e1, _, _, r⟩ := hW
        obtain ⟨b, o, e2, g⟩ := r.resolve_left (by intro e; rw [e] at h9; simp at h9)
        rw [e2] at e1
        injection e1 with h1 _ _
        injection h1 with h1
        injection h1 with hb ho _
        subst hb ho
        have := g 0 (by omega)
        rwa [Nat.add_zero] at this
      clear hnn hf HNO HPZ r1 g1 HF
      generalize p[0].toNat = k at *
      have hwr : IntKind.i64.wrap (k : Int) = (k : Int) := by rw [IntKind.wrap_i64]; omega
      clear he hn2
      generalize hgl : p.length = pl at *
      clear hgl
      go_enter Tryz.func17, Tryz.ntmps17
      go_wp2_with (go_at_call 40; first | (refine (HNU.out _ w (HS4.out 0)).mono ?_; rintro e' w' ⟨rfl, m, rfl⟩) | (refine (HNU.out _ _ (HS4.out _)).mono ?_; rintro e' w' ⟨rfl, m2, rfl⟩))
      refine wp_region_held_drew (S := fun W' => IsB W' (.slice (some ⟨b1, o1, none⟩) pl c1) p ∧ Below w.heap.size w W') (by kernel_rfl) ⟨(H.out.drewN _).below ((Below.refl _ _).drew), (below_drewN (Below.refl _ _) _).drew⟩ (fun hHeld => ?_)
      refine wpAnyH_take (i := 0) (oi := ⟨some 35, _, _, _, _, _⟩) (v := ?vax0) rfl (by kernel_rfl) (by kernel_rfl) (by kernel_rfl) (fun _ _ _ h => h) (Or.inl ⟨by rfl, ?hyax0⟩) hHeld ?restax0
      case hyax0 => (intro w hSw; (try dsimp only at hSw); go_simp; try with_reducible rfl)
      simp only [Act.put, List.setIfInBounds_toArray, List.set_cons_zero, List.set_cons_succ]
      refine wpAnyH_take (i := 1) (oi := ⟨some 36, _, _, _, _, _⟩) (v := ?vax1) rfl (by kernel_rfl) (by kernel_rfl) (by kernel_rfl) (fun _ _ _ h => h) (Or.inl ⟨by rfl, ?hyax1⟩) hHeld ?restax1
      case hyax1 => (intro w hSw; (try dsimp only at hSw); go_simp; try with_reducible rfl)
      simp only [Act.put, List.setIfInBounds_toArray, List.set_cons_zero, List.set_cons_succ]
      refine wpAnyH_take (i := 2) (oi := ⟨some 37, _, _, _, _, _⟩) (v := ?vax2) rfl (by kernel_rfl) (by kernel_rfl) (by kernel_rfl) (fun _ _ _ h => h) (Or.inl ⟨by rfl, ?hyax2⟩) hHeld ?restax2
      case hyax2 => (intro w hSw; (try dsimp only at hSw); go_simp; try with_reducible rfl)
      simp only [Act.put, List.setIfInBounds_toArray, List.set_cons_zero, List.set_cons_succ]
      refine wpAnyH_take (i := 3) (oi := ⟨some 38, _, _, _, _, _⟩) (v := ?vax3) rfl (by kernel_rfl) (by kernel_rfl) (by kernel_rfl) (fun _ _ _ h => h) (Or.inl ⟨by rfl, ?hyax3⟩) hHeld ?restax3
      case hyax3 => (intro w hSw; (try dsimp only at hSw); go_simp; try with_reducible rfl)
      simp only [Act.put, List.setIfInBounds_toArray, List.set_cons_zero, List.set_cons_succ]
      refine wpAnyH_take (i := 4) (oi := ⟨some 39, _, _, _, _, _⟩) (v := ?vax4) rfl (by kernel_rfl) (by kernel_rfl) (by kernel_rfl) (fun _ _ _ h => h) (Or.inl ⟨by rfl, ?hyax4⟩) hHeld ?restax4
      case hyax4 => (intro w hSw; (try dsimp only at hSw); go_simp; try with_reducible rfl)
      simp only [Act.put, List.setIfInBounds_toArray, List.set_cons_zero, List.set_cons_succ]
      refine wpAnyH_take (i := 8) (oi := ⟨some 43, _, _, _, _, _⟩) (v := ?vax8) rfl (by kernel_rfl) (by kernel_rfl) (by kernel_rfl) (fun _ _ _ h => h) (Or.inl ⟨by rfl, ?hyax8⟩) hHeld ?restax8
      case hyax8 => (intro w hSw; (try dsimp only at hSw); go_simp; try with_reducible rfl)
      simp only [Act.put, List.setIfInBounds_toArray, List.set_cons_zero, List.set_cons_succ]
      refine wpAnyH_take (i := 9) (oi := ⟨some 44, _, _, _, _, _⟩) (v := ?vax9) rfl (by kernel_rfl) (by kernel_rfl) (by kernel_rfl) (fun _ _ _ h => h) (Or.inl ⟨by rfl, ?hyax9⟩) hHeld ?restax9
      case hyax9 => (intro w hSw; (try dsimp only at hSw); go_simp; try with_reducible rfl)
      simp only [Act.put, List.setIfInBounds_toArray, List.set_cons_zero, List.set_cons_succ]
      refine wpAnyH_take (i := 10) (oi := ⟨some 45, _, _, _, _, _⟩) (v := ?vax10) rfl (by kernel_rfl) (by kernel_rfl) (by kernel_rfl) (fun _ _ _ h => h) (Or.inl ⟨by rfl, ?hyax10⟩) hHeld ?restax10
      case hyax10 => (intro w hSw; (try dsimp only at hSw); go_simp; try with_reducible rfl)
      simp only [Act.put, List.setIfInBounds_toArray, List.set_cons_zero, List.set_cons_succ]
      refine wpAnyH_take (i := 11) (oi := ⟨some 46, _, _, _, _, _⟩) (v := ?vax11) rfl (by kernel_rfl) (by kernel_rfl) (by kernel_rfl) (fun _ _ _ h => h) (Or.inl ⟨by rfl, ?hyax11⟩) hHeld ?restax11
      case hyax11 => (intro w hSw; (try dsimp only at hSw); go_simp; try with_reducible rfl)
      simp only [Act.put, List.setIfInBounds_toArray, List.set_cons_zero, List.set_cons_succ]
      refine wpAnyH_take (i := 12) (oi := ⟨some 47, _, _, _, _, _⟩) (v := ?vax12) rfl (by kernel_rfl) (by kernel_rfl) (by kernel_rfl) (fun _ _ _ h => h) (Or.inl ⟨by rfl, ?hyax12⟩) hHeld ?restax12
      case hyax12 => (intro w hSw; (try dsimp only at hSw); go_simp; try with_reducible rfl)
      simp only [Act.put, List.setIfInBounds_toArray, List.set_cons_zero, List.set_cons_succ]
      refine wpAnyH_take (i := 13) (oi := ⟨some 48, _, _, _, _, _⟩) (v := ?vax13) rfl (by kernel_rfl) (by kernel_rfl) (by kernel_rfl) (fun _ _ _ h => h) (Or.inl ⟨by rfl, ?hyax13⟩) hHeld ?restax13
      case hyax13 => (intro w hSw; (try dsimp only at hSw); have cv := conv_txt (HSub.out _ hSw.1); go_simp; try with_reducible rfl)
      simp only [Act.put, List.setIfInBounds_toArray, List.set_cons_zero, List.set_cons_succ]
      refine wpAnyH_ready (rs := [5]) (by kernel_rfl) (by simp) ?_
      refine AllReadyH.cons (o := ⟨some 40, _, _, _, _, _⟩) rfl (fun K hK => ?_) AllReadyH.nil
      go_simp
      refine (refSum_any _ (p.take e) _ (HHd.out _ hHeld.1)).mono ?_
      rintro e' w' ⟨rfl, hw⟩; replace hw := hw.symm; subst hw
      (try go_wp2_with fail)
      refine hK.out _ _ (hHeld) (fun hHeld2 => ?_)
      clear hK K hHeld
      have hHeld := hHeld2
      clear hHeld2
      (try simp only [Act.put, List.setIfInBounds_toArray, List.set_cons_zero, List.set_cons_succ])
      refine wpAnyH_ready (rs := [6]) (by kernel_rfl) (by simp) ?_
      refine AllReadyH.cons (o := ⟨some 41, _, _, _, _, _⟩) rfl (fun K hK => ?_) AllReadyH.nil
      go_simp
      refine (refFour_any _ _ (sumL_lt _)).mono ?_
      rintro e' w6 ⟨v6, rfl, ho6, hb6⟩
      (try go_wp2_with fail)
      refine hK.out _ _ (⟨hHeld.1.below hb6, hHeld.2.trans (hb6.mono hHeld.2.size)⟩) (fun hHeld2 => ?_)
      clear hK K hHeld
      have hHeld := hHeld2
      clear hHeld2
      (try simp only [Act.put, List.setIfInBounds_toArray, List.set_cons_zero, List.set_cons_succ])
      refine wpAnyH_ready (rs := [7]) (by kernel_rfl) (by simp) ?_
      refine AllReadyH.cons (o := ⟨some 42, _, _, _, _, _⟩) rfl (fun K hK => ?_) AllReadyH.nil
      have cv7 := conv_txt (ho6.isB (by rw [fourL_length]; omega))
      go_simp
      refine hK.out _ _ (hHeld) (fun hHeld2 => ?_)
      clear hK K hHeld
      have hHeld := hHeld2
      clear hHeld2
      (try simp only [Act.put, List.setIfInBounds_toArray, List.set_cons_zero, List.set_cons_succ])
      refine wpAnyH_take (i := 14) (oi := ⟨some 49, _, _, _, _, _⟩) (v := ?va_5_6_7x14) rfl (by kernel_rfl) (by kernel_rfl) (by kernel_rfl) (fun _ _ _ h => h) (Or.inl ⟨by rfl, ?hya_5_6_7x14⟩) hHeld ?resta_5_6_7x14
      case hya_5_6_7x14 => (intro w hSw; (try dsimp only at hSw); go_simp; try with_reducible rfl)
      simp only [Act.put, List.setIfInBounds_toArray, List.set_cons_zero, List.set_cons_succ]
      refine wpAnyH_done (by kernel_rfl) ?_ _
      have HBn : Hid (Below w.heap.size w w6) := hHeld.2
      have HIn : Hid (IsB w6 (.slice (some ⟨b1, o1, none⟩) pl c1) p) := hHeld.1
      clear hHeld
      by_cases hq : fourL (sumL (p.take e)) = p.drop e
      · have qq : ((txt (fourL (sumL (p.take e)))).toList == (txt (p.drop e)).toList) = true := by rw [hq]; simp
        have qz : (!((txt (fourL (sumL (p.take e)))).toList == (txt (p.drop e)).toList)) = false := by rw [qq]; rfl
        rw [qz]
        have HS : Hid (openL p = (k, (p.drop 5).take (e - 5), 0)) := HY.out hq
        clear hq
        go_wp2
        refine wp_region_held_drew (S := fun W' => W'.cell? ⟨b1, o1, none⟩ = some (.int .u8 (k : Int)) ∧ IsB W' (.slice (some ⟨b1, o1, none⟩) pl c1) p ∧ Below w.heap.size w W') (by kernel_rfl) ⟨HC.out _ (HIn.out.below (Below.refl _ _).drew), HIn.out.below (Below.refl _ _).drew, HBn.out.drew⟩ (fun hHeld => ?_)
        refine wpAnyH_take (i := 0) (oi := ⟨some 50, _, _, _, _, _⟩) (v := ?vbx0) rfl (by kernel_rfl) (by kernel_rfl) (by kernel_rfl) (fun _ _ _ h => h) (Or.inl ⟨by rfl, ?hybx0⟩) hHeld ?restbx0
        case hybx0 => (intro w hSw; (try dsimp only at hSw); go_simp; try with_reducible rfl)
        simp only [Act.put, List.setIfInBounds_toArray, List.set_cons_zero, List.set_cons_succ]
        refine wpAnyH_take (i := 1) (oi := ⟨some 51, _, _, _, _, _⟩) (v := ?vbx1) rfl (by kernel_rfl) (by kernel_rfl) (by kernel_rfl) (fun _ _ _ h => h) (Or.inl ⟨by rfl, ?hybx1⟩) hHeld ?restbx1
        case hybx1 => (intro w hSw; (try dsimp only at hSw); go_simp; try with_reducible rfl)
        simp only [Act.put, List.setIfInBounds_toArray, List.set_cons_zero, List.set_cons_succ]
        refine wpAnyH_take (i := 2) (oi := ⟨some 52, _, _, _, _, _⟩) (v := ?vbx2) rfl (by kernel_rfl) (by kernel_rfl) (by kernel_rfl) (fun _ _ _ h => h) (Or.inl ⟨by rfl, ?hybx2⟩) hHeld ?restbx2
        case hybx2 => (intro w hSw; (try dsimp only at hSw); go_simp; try with_reducible rfl)
        simp only [Act.put, List.setIfInBounds_toArray, List.set_cons_zero, List.set_cons_succ]
        refine wpAnyH_take (i := 3) (oi := ⟨some 53, _, _, _, _, _⟩) (v := ?vbx3) rfl (by kernel_rfl) (by kernel_rfl) (by kernel_rfl) (fun _ _ _ h => h) (Or.inl ⟨by rfl, ?hybx3⟩) hHeld ?restbx3
        case hybx3 => (intro w hSw; (try dsimp only at hSw); go_simp; try with_reducible rfl)
        simp only [Act.put, List.setIfInBounds_toArray, List.set_cons_zero, List.set_cons_succ]
        refine wpAnyH_take (i := 5) (oi := ⟨some 55, _, _, _, _, _⟩) (v := ?vbx5) rfl (by kernel_rfl) (by kernel_rfl) (by kernel_rfl) (fun _ _ _ h => h) (Or.inl ⟨by rfl, ?hybx5⟩) hHeld ?restbx5
        case hybx5 => (intro w hSw; (try dsimp only at hSw); go_simp; try with_reducible rfl)
        simp only [Act.put, List.setIfInBounds_toArray, List.set_cons_zero, List.set_cons_succ]
        refine wpAnyH_take (i := 6) (oi := ⟨some 56, _, _, _, _, _⟩) (v := ?vbx6) rfl (by kernel_rfl) (by kernel_rfl) (by kernel_rfl) (fun _ _ _ h => h) (Or.inl ⟨by rfl, ?hybx6⟩) hHeld ?restbx6
        case hybx6 => (intro w hSw; (try dsimp only at hSw); go_simp; try with_reducible rfl)
        simp only [Act.put, List.setIfInBounds_toArray, List.set_cons_zero, List.set_cons_succ]
        refine wpAnyH_take (i := 7) (oi := ⟨some 57, _, _, _, _, _⟩) (v := ?vbx7) rfl (by kernel_rfl) (by kernel_rfl) (by kernel_rfl) (fun _ _ _ h => h) (Or.inl ⟨by rfl, ?hybx7⟩) hHeld ?restbx7
        case hybx7 => (intro w hSw; (try dsimp only at hSw); go_simp; try with_reducible rfl)
        simp only [Act.put, List.setIfInBounds_toArray, List.set_cons_zero, List.set_cons_succ]
        refine wpAnyH_take (i := 8) (oi := ⟨some 58, _, _, _, _, _⟩) (v := ?vbx8) rfl (by kernel_rfl) (by kernel_rfl) (by kernel_rfl) (fun _ _ _ h => h) (Or.inl ⟨by rfl, ?hybx8⟩) hHeld ?restbx8
        case hybx8 => (intro w hSw; (try dsimp only at hSw); go_simp; try with_reducible rfl)
        simp only [Act.put, List.setIfInBounds_toArray, List.set_cons_zero, List.set_cons_succ]
        refine wpAnyH_take (i := 9) (oi := ⟨some 59, _, _, _, _, _⟩) (v := ?vbx9) rfl (by kernel_rfl) (by kernel_rfl) (by kernel_rfl) (fun _ _ _ h => h) (Or.inl ⟨by rfl, ?hybx9⟩) hHeld ?restbx9
        case hybx9 => (intro w hSw; (try dsimp only at hSw); go_simp; try with_reducible rfl)
        simp only [Act.put, List.setIfInBounds_toArray, List.set_cons_zero, List.set_cons_succ]
        refine wpAnyH_ready (rs := [4]) (by kernel_rfl) (by simp) ?_
        refine AllReadyH.cons (o := ⟨some 54, _, _, _, _, _⟩) rfl (fun K hK => ?_) AllReadyH.nil
        go_simp
        have hPrev := hHeld
        refine hK.out _ _ (⟨HC.out _ (hPrev.2.1.below ((Below.refl _ _).alloc (Nat.le_refl _) _)), hPrev.2.1.below ((Below.refl _ _).alloc (Nat.le_refl _) _), hPrev.2.2.alloc hPrev.2.2.size _⟩) (fun hHeld2 => ?_)
        clear hK K hHeld
        have hHeld := hHeld2
        clear hHeld2
        (try simp only [Act.put, List.setIfInBounds_toArray, List.set_cons_zero, List.set_cons_succ])
        refine wpAnyH_ready (rs := [10]) (by kernel_rfl) (by simp) ?_
        refine AllReadyH.cons (o := ⟨some 60, _, _, _, _, _⟩) rfl (fun K hK => ?_) AllReadyH.nil
        have HE0 : Hid (OwnB w6.heap.size ((w6.alloc (.cells #[] 5)).drew) (.slice (some ⟨w6.heap.size, 0, none⟩) 0 0) []) := OwnB.empty w6.drew w6.heap.size (Nat.le_refl _)
        refine step_appS (by rfl) _ _ (by rfl) w.heap.size (.slice (some ⟨w6.heap.size, 0, none⟩) 0 0) [] (by rfl) (HE0.out.cut HBn.out.size) hHeld.2.2.size ⟨b1, o1 + 5, none⟩ (e - 5) (c1 - 5) ((p.drop 5).take (e - 5)) (by rfl) (HS5.out _ hHeld.2.1) (HL5.out) ?_
        intro v7 w7 ho7 hg7
        have hbl : Below w6.heap.size w6 w7 := (((Below.refl _ w6).alloc (Nat.le_refl _) (.cells #[] 5)).drew).grown hg7 (by simp) (fun j e => by cases e; exact Nat.le_refl _)
        refine hK.out _ _ (⟨HC.out _ (HIn.out.below hbl), HIn.out.below hbl, HBn.out.trans (hbl.mono HBn.out.size)⟩) (fun hHeld2 => ?_)
        clear hK K hHeld
        have hHeld := hHeld2
        clear hHeld2
        (try simp only [Act.put, List.setIfInBounds_toArray, List.set_cons_zero, List.set_cons_succ])
        refine wpAnyH_take (i := 11) (oi := ⟨some 2, _, _, _, _, _⟩) (v := ?vb_4_10x11) rfl (by kernel_rfl) (by kernel_rfl) (by kernel_rfl) (fun _ _ _ h => h) (Or.inl ⟨by rfl, ?hyb_4_10x11⟩) hHeld ?restb_4_10x11
        case hyb_4_10x11 => (intro w hSw; (try dsimp only at hSw); go_simp; try with_reducible rfl)
        simp only [Act.put, List.setIfInBounds_toArray, List.set_cons_zero, List.set_cons_succ]
        refine wpAnyH_take (i := 12) (oi := ⟨some 3, _, _, _, _, _⟩) (v := ?vb_4_10x12) rfl (by kernel_rfl) (by kernel_rfl) (by kernel_rfl) (fun _ _ _ h => h) (Or.inl ⟨by rfl, ?hyb_4_10x12⟩) hHeld ?restb_4_10x12
        case hyb_4_10x12 => (intro w hSw; (try dsimp only at hSw); go_simp; try with_reducible rfl)
        simp only [Act.put, List.setIfInBounds_toArray, List.set_cons_zero, List.set_cons_succ]
        refine wpAnyH_take (i := 13) (oi := ⟨some 4, _, _, _, _, _⟩) (v := ?vb_4_10x13) rfl (by kernel_rfl) (by kernel_rfl) (by kernel_rfl) (fun _ _ _ h => h) (Or.inl ⟨by rfl, ?hyb_4_10x13⟩) hHeld ?restb_4_10x13
        case hyb_4_10x13 => (intro w hSw; (try dsimp only at hSw); go_simp; try with_reducible rfl)
        simp only [Act.put, List.setIfInBounds_toArray, List.set_cons_zero, List.set_cons_succ]
        refine wpAnyH_done (by kernel_rfl) ?_ _
        have HBn : Hid (Below w.heap.size w w7) := hHeld.2.2
        have HOn : Hid (OwnB w.heap.size w7 v7 ((p.drop 5).take (e - 5))) := ho7
        clear hHeld ho7 hg7 hPrev hbl
        go_wp2
        go_ret3
        exact ⟨v7, by rw [HS.out]; rfl, by rw [HS.out]; exact HOn.out, HBn.out⟩
      · have qq : ((txt (fourL (sumL (p.take e)))).toList == (txt (p.drop e)).toList) = false := txt_ne hq
        have qz : (!((txt (fourL (sumL (p.take e)))).toList == (txt (p.drop e)).toList)) = true := by rw [qq]; rfl
        rw [qz]
        have HS : Hid (openL p = (0, [], 9)) := HN.out hq
        clear hq
        go_wp2
        go_ret3
        exact ⟨_, by rw [HS.out]; rfl, by rw [HS.out]; exact OwnB.nil0 _ _, HBn.out⟩
  · have HS : Hid (openL p = (0, [], 2)) := openL_no (frameB_short h9)
    clear r1
    go_enter Tryz.func17, Tryz.ntmps17
    go_wp2
    go_ret3
    exact ⟨_, by rw [HS.out]; rfl, by rw [HS.out]; exact OwnB.nil0 _ _, Below.refl _ _⟩

end Go.Proofs.YtlioiblpcpaejaaGreat
