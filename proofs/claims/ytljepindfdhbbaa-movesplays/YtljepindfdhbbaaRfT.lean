/- told: does a tree tell what the document says? -/
import Derived.Test.YtljepindfdhbbaaRfG
import Derived.Test.YtljepindfdhbbaaWlNr
namespace Go.Proofs.Ytljepindfdhbbaa
open Go.RowKit
set_option linter.unusedVariables false
set_option linter.unusedSimpArgs false

/-- The state of told. -/
structure TdS (w : World) (tb : Nat) (F : Nat → Prop) (L : List Mv) (tv ov : Value) (D : List (Mv × Bool)) (W : World) : Prop where
  tr : TreeOk F W tb L
  to : Touch F w W
  tree : LsE plCells 6 (fun j => ¬ F j) W tv (doneT L)
  dn : LsE mcCells 7 (fun j => ¬ F j) W ov D
section
variable {w W W' : World} {tb : Nat} {F : Nat → Prop} {L : List Mv} {tv ov : Value} {D : List (Mv × Bool)}
theorem TdS.below (h : TdS w tb F L tv ov D W) (hb : Below W.heap.size W W') : TdS w tb F L tv ov D W' := ⟨h.tr.below hb, h.to.trans (Touch.of_below (F := fun _ => False) hb) (fun j h => h.elim), h.tree.below hb, h.dn.below hb⟩
theorem TdS.asked (h : TdS w tb F L tv ov D W) (ha : AskP F W (.pointer (some ⟨tb, 0, none⟩)) L W') : TdS w tb F L tv ov D W' := by
  obtain ⟨hv, hto⟩ := ha
  refine ⟨?_, h.to.trans hto (fun j hj => .inl hj), h.tree.touch hto (fun _ hk => hk), h.dn.touch hto (fun _ hk => hk)⟩
  rcases hv with ⟨tb2, e, ht⟩ | ⟨e, _⟩
  · injection e with e; injection e with e; injection e with e; subst e; exact ht
  · cases e
end

set_option maxRecDepth 100000 in
set_option maxHeartbeats 8000000 in
theorem told_any (F : Nat → Prop) (tb : Nat) (L : List Mv) (v : Value) (w : World) (h : TreeOk F w tb L) (hd : LsE mcCells 7 (fun j => ¬ F j) w v (fl L)) (hl : L.length ≤ 4095) :
    Calls Try.prog 13 #[(.pointer (some ⟨tb, 0, none⟩)), v] w fun e w' => e = .returned (.bool true) ∧ AskP F w (.pointer (some ⟨tb, 0, none⟩)) L w' := by
  obtain ⟨a1, c1, e1⟩ := hd.form
  rw [fl_length] at e1
  subst e1
  have HT0 : Hid (TreeOk F w tb L) := h
  have HD0 : Hid (LsE mcCells 7 (fun j => ¬ F j) w (.slice a1 L.length c1) (fl L)) := hd
  have HSr : Hid (SrtM L) := h.srt
  have HTl : Hid ((doneT L).length ≤ 4095) := Nat.le_trans (doneT_length _) hl
  clear h hd
  go_enter Try.func13, Try.ntmps13
  go_wp2_with fail
  refine (refDone_any (fun j => ¬ F j) (.slice a1 L.length c1) L _ HD0.out hl).mono ?_
  rintro e w2 ⟨at0, ct0, a2, c2, D, rfl, hD, hI⟩
  have hnew : ∀ k, w.heap.size ≤ k → ¬ F k := fun k hk hF => by have := HT0.out.lt k hF; omega
  have HN : Hid (TdS w tb F L (.slice at0 (doneT L).length ct0) (.slice a2 L.length c2) D w2) := ⟨HT0.out.below hD.bel, Touch.of_below hD.bel, hD.tree.mono (fun k hk => hnew k hk.1), hD.own.lsE mcCells_lenR (by rw [hI.1]; omega) (fun k e => hnew k (hD.own.lt k e).1)⟩
  have HI : Hid (DnI L L.length D) := hI
  clear hD hI hnew HT0 HD0
  go_wp2_with fail
  refine (len_any F tb L _ HN.out.tr).mono ?_
  rintro e w3 ⟨rfl, hw3⟩
  replace hw3 := hw3.symm
  subst hw3
  go_wp2_with fail
  refine (all_any F (.pointer (some ⟨tb, 0, none⟩)) L _ HN.out.tr.tv HN.out.tr.lt).mono ?_
  rintro e w4 ⟨v7, rfl, ho, ha⟩
  replace HN : Hid (TdS w tb F L (.slice at0 (doneT L).length ct0) (.slice a2 L.length c2) D w4) := HN.out.asked ha
  have HV7 : Hid (LsE plCells 6 (fun _ => True) w4 v7 (doneT L)) := ho.lsE plCells_len (by have := HTl.out; omega) (fun _ _ => trivial)
  clear ho ha
  go_wp2_with fail
  refine (same_eq (fun _ => True) (fun j => ¬ F j) _ _ (doneT L) _ HV7.out HN.out.tree).mono ?_
  rintro e w5 ⟨rfl, hb⟩
  replace HN : Hid (TdS w tb F L (.slice at0 (doneT L).length ct0) (.slice a2 L.length c2) D w5) := HN.out.below hb
  clear hb HV7
  go_wp2
  go_loopw [7] (fun iv wr => ∃ i : Nat, iv = .int .i64 (i : Int) ∧ i ≤ L.length ∧ Hid (TdS w tb F L (.slice at0 (doneT L).length ct0) (.slice a2 L.length c2) D wr)) (fun iv _ => L.length - (intOf iv).toNat)
  case atStart => exact ⟨0, rfl, Nat.zero_le _, HN⟩
  case round =>
    clear HN
    obtain ⟨i, rfl, hi, HN⟩ := hrel
    by_cases hil : i < L.length
    · obtain ⟨b, o, c3, ev, hR⟩ := HN.out.dn.rwA (i := i) (by rw [HI.out.1]; exact hil)
      injection ev with ev1 ev2 ev3
      subst ev1
      subst ev3
      clear ev2
      have HR : Hid (RwA mcCells 7 F b o D wr) := hR
      obtain ⟨x, hx⟩ : ∃ x, x = L[i] := ⟨_, rfl⟩
      have hdx := HI.out.2 i x (by rw [List.getElem?_eq_getElem hil, hx]) hil
      have hcs : cntB (doneT (L.take i)) x = cntS L x.ts := by rw [hx]; exact (cntS_at HSr.out hil).symm
      rw [hcs] at hdx
      have k1 : (i : Int) < (L.length : Int) := by omega
      have k0 : (0 : Int) ≤ (i : Int) := by omega
      clear hR hx hcs
      cases hc : cntS L x.ts with
      | true =>
        have HCt : Hid (cntS L x.ts = true) := hc
        have HXd : Hid (D[i]? = some (x, true)) := by (rw [hc] at hdx; exact hdx)
        clear hc hdx
        go_wp2_with fail
        refine wp_region_held_drew (S := fun W' => TdS w tb F L (.slice at0 (doneT L).length ct0) (.slice (some ⟨b, o, none⟩) L.length c2) D W' ∧ RwA mcCells 7 F b o D W') (by kernel_rfl) ⟨HN.out.below (Below.refl _ _).drew, HR.out.below (Below.refl _ _).drew⟩ (fun hHeld => ?_)
        obtain ⟨Ua1u0, eW⟩ : ∃ X, X = wr.drew := ⟨_, rfl⟩
        have hb : Below wr.heap.size wr Ua1u0 := by rw [eW]; exact (Below.refl _ _).drew
        replace HN : Hid (TdS w tb F L (.slice at0 (doneT L).length ct0) (.slice (some ⟨b, o, none⟩) L.length c2) D Ua1u0) := HN.out.below hb
        replace HR : Hid (RwA mcCells 7 F b o D Ua1u0) := HR.out.below hb
        rw [← eW] at hHeld ⊢
        clear eW hb
        refine tkW 0 (some 31) (v := ?_) ?_ hHeld ?_
        rotate_left
        · (intro ww _; go_simp; try with_reducible rfl)
        refine tkW 1 (some 32) (v := ?_) ?_ hHeld ?_
        rotate_left
        · (intro ww _; go_simp; try with_reducible rfl)
        refine tkW 2 (some 33) (v := ?_) ?_ hHeld ?_
        rotate_left
        · (intro ww _; go_simp; try with_reducible rfl)
        refine tkW 3 (some 34) (v := ?_) ?_ hHeld ?_
        rotate_left
        · (intro ww hSw; (try dsimp only at hSw); obtain ⟨hS, hR⟩ := hSw; have x0 : ww.cell? ⟨b, o + i * 7, none⟩ = some (.int .i64 x.ts.1) := hR.at HXd.out 0 _ rfl; have x1 : ww.cell? ⟨b, o + i * 7 + 1, none⟩ = some (.int .i64 x.ts.2) := hR.at HXd.out 1 _ rfl; have x6 : ww.cell? ⟨b, o + i * 7 + 6, none⟩ = some (.bool true) := hR.at HXd.out 6 _ rfl; go_simp; try with_reducible rfl)
        refine tkW 4 (some 35) (v := ?_) ?_ hHeld ?_
        rotate_left
        · (intro ww _; go_simp; try with_reducible rfl)
        refine tkW 5 (some 36) (v := ?_) ?_ hHeld ?_
        rotate_left
        · (intro ww hSw; (try dsimp only at hSw); obtain ⟨hS, hR⟩ := hSw; have x0 : ww.cell? ⟨b, o + i * 7, none⟩ = some (.int .i64 x.ts.1) := hR.at HXd.out 0 _ rfl; have x1 : ww.cell? ⟨b, o + i * 7 + 1, none⟩ = some (.int .i64 x.ts.2) := hR.at HXd.out 1 _ rfl; have x6 : ww.cell? ⟨b, o + i * 7 + 6, none⟩ = some (.bool true) := hR.at HXd.out 6 _ rfl; go_simp; try with_reducible rfl)
        refine tkW 7 (some 38) (v := ?_) ?_ hHeld ?_
        rotate_left
        · (intro ww _; go_simp; try with_reducible rfl)
        refine tkW 8 (some 39) (v := ?_) ?_ hHeld ?_
        rotate_left
        · (intro ww _; go_simp; try with_reducible rfl)
        refine tkW 9 (some 40) (v := ?_) ?_ hHeld ?_
        rotate_left
        · (intro ww hSw; (try dsimp only at hSw); obtain ⟨hS, hR⟩ := hSw; have x0 : ww.cell? ⟨b, o + i * 7, none⟩ = some (.int .i64 x.ts.1) := hR.at HXd.out 0 _ rfl; have x1 : ww.cell? ⟨b, o + i * 7 + 1, none⟩ = some (.int .i64 x.ts.2) := hR.at HXd.out 1 _ rfl; have x6 : ww.cell? ⟨b, o + i * 7 + 6, none⟩ = some (.bool true) := hR.at HXd.out 6 _ rfl; go_simp; try with_reducible rfl)
        refine tkW 10 (some 41) (v := ?_) ?_ hHeld ?_
        rotate_left
        · (intro ww _; go_simp; try with_reducible rfl)
        refine tkW 11 (some 42) (v := ?_) ?_ hHeld ?_
        rotate_left
        · (intro ww hSw; (try dsimp only at hSw); obtain ⟨hS, hR⟩ := hSw; have x0 : ww.cell? ⟨b, o + i * 7, none⟩ = some (.int .i64 x.ts.1) := hR.at HXd.out 0 _ rfl; have x1 : ww.cell? ⟨b, o + i * 7 + 1, none⟩ = some (.int .i64 x.ts.2) := hR.at HXd.out 1 _ rfl; have x6 : ww.cell? ⟨b, o + i * 7 + 6, none⟩ = some (.bool true) := hR.at HXd.out 6 _ rfl; go_simp; try with_reducible rfl)
        refine wpAnyH_ready (rs := [6]) (by kernel_rfl) (by simp) ?_
        refine AllReadyH.cons (o := ⟨some 37, _, _, _, _, _⟩) rfl (fun K hK => ?_) AllReadyH.nil
        go_simp
        refine (counts_any F (.pointer (some ⟨tb, 0, none⟩)) L x.ts _ HN.out.tr.tv HN.out.tr.lt).mono ?_
        rintro e Ua1u1 ⟨he, ha⟩
        rw [show cntS L x.ts = true from HCt.out] at he
        subst he
        (try go_wp2_with fail)
        replace HN : Hid (TdS w tb F L (.slice at0 (doneT L).length ct0) (.slice (some ⟨b, o, none⟩) L.length c2) D Ua1u1) := HN.out.asked ha
        replace HR : Hid (RwA mcCells 7 F b o D Ua1u1) := HR.out.touch ha.2
        clear ha
        refine hK.out _ _ (⟨HN.out, HR.out⟩) (fun hHeld2 => ?_)
        clear hK K hHeld
        have hHeld := hHeld2
        clear hHeld2
        (try simp only [Act.put, List.setIfInBounds_toArray, List.set_cons_zero, List.set_cons_succ])
        refine tkW 12 (some 43) (v := .bool false) ?_ hHeld ?_
        · (intro ww hSw; (try dsimp only at hSw); obtain ⟨hS, hR⟩ := hSw; have x0 : ww.cell? ⟨b, o + i * 7, none⟩ = some (.int .i64 x.ts.1) := hR.at HXd.out 0 _ rfl; have x1 : ww.cell? ⟨b, o + i * 7 + 1, none⟩ = some (.int .i64 x.ts.2) := hR.at HXd.out 1 _ rfl; have x6 : ww.cell? ⟨b, o + i * 7 + 6, none⟩ = some (.bool true) := hR.at HXd.out 6 _ rfl; go_simp; try with_reducible rfl)
        refine wpAnyH_done (by kernel_rfl) ?_ _
        clear hHeld HR
        go_wp2
        go_roundw
        case rel => exact ⟨i + 1, by go_num, by omega, HN⟩
        case measure => simp [intOf]; omega
      | false =>
        have HCt : Hid (cntS L x.ts = false) := hc
        have HXd : Hid (D[i]? = some (x, false)) := by (rw [hc] at hdx; exact hdx)
        clear hc hdx
        go_wp2_with fail
        refine wp_region_held_drew (S := fun W' => TdS w tb F L (.slice at0 (doneT L).length ct0) (.slice (some ⟨b, o, none⟩) L.length c2) D W' ∧ RwA mcCells 7 F b o D W') (by kernel_rfl) ⟨HN.out.below (Below.refl _ _).drew, HR.out.below (Below.refl _ _).drew⟩ (fun hHeld => ?_)
        obtain ⟨Ua2u0, eW⟩ : ∃ X, X = wr.drew := ⟨_, rfl⟩
        have hb : Below wr.heap.size wr Ua2u0 := by rw [eW]; exact (Below.refl _ _).drew
        replace HN : Hid (TdS w tb F L (.slice at0 (doneT L).length ct0) (.slice (some ⟨b, o, none⟩) L.length c2) D Ua2u0) := HN.out.below hb
        replace HR : Hid (RwA mcCells 7 F b o D Ua2u0) := HR.out.below hb
        rw [← eW] at hHeld ⊢
        clear eW hb
        refine tkW 0 (some 31) (v := ?_) ?_ hHeld ?_
        rotate_left
        · (intro ww _; go_simp; try with_reducible rfl)
        refine tkW 1 (some 32) (v := ?_) ?_ hHeld ?_
        rotate_left
        · (intro ww _; go_simp; try with_reducible rfl)
        refine tkW 2 (some 33) (v := ?_) ?_ hHeld ?_
        rotate_left
        · (intro ww _; go_simp; try with_reducible rfl)
        refine tkW 3 (some 34) (v := ?_) ?_ hHeld ?_
        rotate_left
        · (intro ww hSw; (try dsimp only at hSw); obtain ⟨hS, hR⟩ := hSw; have x0 : ww.cell? ⟨b, o + i * 7, none⟩ = some (.int .i64 x.ts.1) := hR.at HXd.out 0 _ rfl; have x1 : ww.cell? ⟨b, o + i * 7 + 1, none⟩ = some (.int .i64 x.ts.2) := hR.at HXd.out 1 _ rfl; have x6 : ww.cell? ⟨b, o + i * 7 + 6, none⟩ = some (.bool false) := hR.at HXd.out 6 _ rfl; go_simp; try with_reducible rfl)
        refine tkW 4 (some 35) (v := ?_) ?_ hHeld ?_
        rotate_left
        · (intro ww _; go_simp; try with_reducible rfl)
        refine tkW 5 (some 36) (v := ?_) ?_ hHeld ?_
        rotate_left
        · (intro ww hSw; (try dsimp only at hSw); obtain ⟨hS, hR⟩ := hSw; have x0 : ww.cell? ⟨b, o + i * 7, none⟩ = some (.int .i64 x.ts.1) := hR.at HXd.out 0 _ rfl; have x1 : ww.cell? ⟨b, o + i * 7 + 1, none⟩ = some (.int .i64 x.ts.2) := hR.at HXd.out 1 _ rfl; have x6 : ww.cell? ⟨b, o + i * 7 + 6, none⟩ = some (.bool false) := hR.at HXd.out 6 _ rfl; go_simp; try with_reducible rfl)
        refine tkW 7 (some 38) (v := ?_) ?_ hHeld ?_
        rotate_left
        · (intro ww _; go_simp; try with_reducible rfl)
        refine tkW 8 (some 39) (v := ?_) ?_ hHeld ?_
        rotate_left
        · (intro ww _; go_simp; try with_reducible rfl)
        refine tkW 9 (some 40) (v := ?_) ?_ hHeld ?_
        rotate_left
        · (intro ww hSw; (try dsimp only at hSw); obtain ⟨hS, hR⟩ := hSw; have x0 : ww.cell? ⟨b, o + i * 7, none⟩ = some (.int .i64 x.ts.1) := hR.at HXd.out 0 _ rfl; have x1 : ww.cell? ⟨b, o + i * 7 + 1, none⟩ = some (.int .i64 x.ts.2) := hR.at HXd.out 1 _ rfl; have x6 : ww.cell? ⟨b, o + i * 7 + 6, none⟩ = some (.bool false) := hR.at HXd.out 6 _ rfl; go_simp; try with_reducible rfl)
        refine tkW 10 (some 41) (v := ?_) ?_ hHeld ?_
        rotate_left
        · (intro ww _; go_simp; try with_reducible rfl)
        refine tkW 11 (some 42) (v := ?_) ?_ hHeld ?_
        rotate_left
        · (intro ww hSw; (try dsimp only at hSw); obtain ⟨hS, hR⟩ := hSw; have x0 : ww.cell? ⟨b, o + i * 7, none⟩ = some (.int .i64 x.ts.1) := hR.at HXd.out 0 _ rfl; have x1 : ww.cell? ⟨b, o + i * 7 + 1, none⟩ = some (.int .i64 x.ts.2) := hR.at HXd.out 1 _ rfl; have x6 : ww.cell? ⟨b, o + i * 7 + 6, none⟩ = some (.bool false) := hR.at HXd.out 6 _ rfl; go_simp; try with_reducible rfl)
        refine wpAnyH_ready (rs := [6]) (by kernel_rfl) (by simp) ?_
        refine AllReadyH.cons (o := ⟨some 37, _, _, _, _, _⟩) rfl (fun K hK => ?_) AllReadyH.nil
        go_simp
        refine (counts_any F (.pointer (some ⟨tb, 0, none⟩)) L x.ts _ HN.out.tr.tv HN.out.tr.lt).mono ?_
        rintro e Ua2u1 ⟨he, ha⟩
        rw [show cntS L x.ts = false from HCt.out] at he
        subst he
        (try go_wp2_with fail)
        replace HN : Hid (TdS w tb F L (.slice at0 (doneT L).length ct0) (.slice (some ⟨b, o, none⟩) L.length c2) D Ua2u1) := HN.out.asked ha
        replace HR : Hid (RwA mcCells 7 F b o D Ua2u1) := HR.out.touch ha.2
        clear ha
        refine hK.out _ _ (⟨HN.out, HR.out⟩) (fun hHeld2 => ?_)
        clear hK K hHeld
        have hHeld := hHeld2
        clear hHeld2
        (try simp only [Act.put, List.setIfInBounds_toArray, List.set_cons_zero, List.set_cons_succ])
        refine tkW 12 (some 43) (v := .bool false) ?_ hHeld ?_
        · (intro ww hSw; (try dsimp only at hSw); obtain ⟨hS, hR⟩ := hSw; have x0 : ww.cell? ⟨b, o + i * 7, none⟩ = some (.int .i64 x.ts.1) := hR.at HXd.out 0 _ rfl; have x1 : ww.cell? ⟨b, o + i * 7 + 1, none⟩ = some (.int .i64 x.ts.2) := hR.at HXd.out 1 _ rfl; have x6 : ww.cell? ⟨b, o + i * 7 + 6, none⟩ = some (.bool false) := hR.at HXd.out 6 _ rfl; go_simp; try with_reducible rfl)
        refine wpAnyH_done (by kernel_rfl) ?_ _
        clear hHeld HR
        go_wp2
        go_roundw
        case rel => exact ⟨i + 1, by go_num, by omega, HN⟩
        case measure => simp [intOf]; omega
    · obtain rfl : i = L.length := by omega
      go_wp2
      go_ret
      exact ⟨rfl, HN.out.tr.tv, HN.out.to⟩

end Go.Proofs.Ytljepindfdhbbaa
