/- A tree of some moves, and the document's. -/
import Derived.Test.YtljepindfdhbbaaRfB
import Derived.Test.YtljepindfdhbbaaTrK
import Derived.Test.YtljepindfdhbbaaBaseV
namespace Go.Proofs.Ytljepindfdhbbaa
open Go.RowKit
set_option linter.unusedVariables false
set_option linter.unusedSimpArgs false

theorem LsE.lo {α : Type} {enc : α → List Value} {n : Nat} {G : Nat → Prop} {w : World} {v : Value} {D : List α} (h : LsE enc n G w v D) : LsE enc n (fun j => G j ∧ j < w.heap.size) w v D := by
  obtain ⟨a, cap, e, hc, hl, h⟩ := h
  exact ⟨a, cap, e, hc, hl, h.imp id fun ⟨b, o, ea, hg, hlt, hr⟩ => ⟨b, o, ea, ⟨hg, hlt⟩, hlt, hr⟩⟩
/-- A tree and the document's moves side by side. -/
structure MdS (w : World) (tb : Nat) (F : Nat → Prop) (dv : Value) (L1 L2 : List Mv) (W : World) : Prop where
  tr : TreeOk F W tb L1
  hi : ∀ j, F j → w.heap.size ≤ j
  doc : LsE mcCells 7 (fun j => ¬ F j) W dv (fl L2)
  bel : Below w.heap.size w W
section
variable {w W W' : World} {tb : Nat} {F : Nat → Prop} {dv dv' : Value} {L L1 L2 L3 : List Mv} {m : Mv} {e : Ending}
theorem MdS.below (h : MdS w tb F dv L1 L2 W) (hb : Below W.heap.size W W') : MdS w tb F dv L1 L2 W' := ⟨h.tr.below hb, h.hi, h.doc.below hb, h.bel.trans (hb.mono h.bel.size)⟩
theorem MdS.doc2 (h : MdS w tb F dv L1 L2 W) (hd : LsE mcCells 7 (fun j => ¬ F j) W' dv' (fl L3)) (hb : Below W.heap.size W W') : MdS w tb F dv' L1 L3 W' := ⟨h.tr.below hb, h.hi, hd, h.bel.trans (hb.mono h.bel.size)⟩
theorem MdS.did (h : MdS w tb F dv L1 L2 W) (hd : DoP F W tb L1 m e W') : ∃ F', MdS w tb F' dv (doL L1 m) L2 W' := by
  obtain ⟨_, F', ht, hsub, hnew, hto⟩ := hd
  refine ⟨F', ht, fun j hj => ?_, ?_, h.bel.trans (hto.below h.hi h.bel.size)⟩
  · rcases hnew j hj with h1 | h1
    · exact h.hi j h1
    · exact Nat.le_trans h.bel.size h1
  · exact (h.doc.lo.touch hto (fun k hk => hk.1)).mono fun k hk hF => (hnew k hF).elim hk.1 (fun h2 => by omega)
theorem MdS.asked (h : MdS w tb F dv L1 L2 W) (ha : AskP F W (.pointer (some ⟨tb, 0, none⟩)) L1 W') : MdS w tb F dv L1 L2 W' := by
  obtain ⟨hv, hto⟩ := ha
  refine ⟨?_, h.hi, h.doc.touch hto (fun k hk => hk), h.bel.trans (hto.below h.hi h.bel.size)⟩
  rcases hv with ⟨tb2, e, ht⟩ | ⟨e, _⟩
  · injection e with e; injection e with e; injection e with e; subst e; exact ht
  · cases e
theorem MdS.tv (h : MdS w tb F dv L1 L2 W) : TreeV F W (.pointer (some ⟨tb, 0, none⟩)) L1 := h.tr.tv
end
theorem filt2 (p q : Mv → Bool) (h : ∀ x, p x = true → q x = false) : ∀ L : List Mv, (L.filter p).length + (L.filter q).length ≤ L.length
  | [] => by simp
  | x :: L => by
    have ih := filt2 p q h L
    rw [List.filter_cons, List.filter_cons]
    cases hp : p x with
    | true => rw [h x hp]; simp; omega
    | false => cases q x <;> simp <;> omega
theorem insM_le1 (L : List Mv) (m : Mv) : (insM L m).length ≤ L.length + 1 := by
  unfold insM
  have := filt2 (fun x => ltS x.ts m.ts) (fun x => ltS m.ts x.ts) (fun x h => ltS_asym h) L
  simp only [List.length_append, List.length_cons]
  omega
theorem doL_le (L : List Mv) (m : Mv) : (doL L m).length ≤ L.length + 1 := by
  unfold doL
  split
  · exact insM_le1 L m
  · omega
/-- The moves that are made. -/
def madeS (L : List Mv) (a : Ma) : List Mv := if a.1 = 0 then doL L a.2 else L
def madeT (l : List Ma) : List Mv := l.foldl madeS []
def madeL (l : List Ma) : List Mv := madeT (l.take 200)
theorem madeT_next (l : List Ma) (i : Nat) (h : i < l.length) : madeT (l.take (i + 1)) = madeS (madeT (l.take i)) l[i] := by
  unfold madeT
  rw [List.take_succ_eq_append_getElem h, List.foldl_append]
  rfl
theorem madeT_len (l : List Ma) : ∀ i, i ≤ l.length → (madeT (l.take i)).length ≤ i
  | 0, _ => by simp [madeT]
  | i + 1, h => by
    have ih := madeT_len l i (by omega)
    rw [madeT_next l i (by omega)]
    unfold madeS
    split
    · have := doL_le (madeT (l.take i)) l[i].2; omega
    · omega
theorem madeL_len (l : List Ma) : (madeL l).length ≤ 200 := by
  unfold madeL
  by_cases h : 200 ≤ l.length
  · exact madeT_len l 200 h
  · rw [List.take_of_length_le (by omega)]
    have := madeT_len l l.length (Nat.le_refl _)
    rw [List.take_length] at this
    omega
theorem madeL_end (l : List Ma) {i : Nat} (hi : i ≤ l.length) (h2 : i ≤ 200) (h : ¬ (i < l.length ∧ i < 200)) : madeT (l.take i) = madeL l := by
  unfold madeL
  by_cases h3 : i = 200
  · rw [h3]
  · obtain rfl : i = l.length := by omega
    rw [List.take_of_length_le (Nat.le_refl _), List.take_of_length_le h2]
/-- What made answers. -/
def MadeP (l : List Ma) (w : World) (e : Ending) (w' : World) : Prop := ∃ tb F a c, e = .returned (.tuple #[.pointer (some ⟨tb, 0, none⟩), .slice a (madeL l).length c]) ∧ MdS w tb F (.slice a (madeL l).length c) (madeL l) (madeL l) w'

set_option maxRecDepth 100000 in
set_option maxHeartbeats 8000000 in
theorem made_any (v : Value) (l : List Ma) (w : World) (h : IsMa w v l) :
    Calls Try.prog 15 #[v] w fun e w' => MadeP l w e w' := by
  obtain ⟨a1, c1, e1⟩ := h.form
  subst e1
  have HLs : Hid (IsMa w (.slice a1 l.length c1) l) := h
  have hlen := h.len
  clear h
  go_enter Try.func15, Try.ntmps15
  go_wp2_with fail
  refine (new_any _).mono ?_
  rintro e w1 ⟨tb, F0, rfl, hT, hFh, hb1⟩
  obtain ⟨w2, ew2⟩ : ∃ X, X = w1.alloc (.cells #[] 55) := ⟨_, rfl⟩
  have hb2 : Below w1.heap.size w1 w2 := by rw [ew2]; exact (Below.refl _ _).alloc (Nat.le_refl _) _
  have HM0 : Hid (MdS w tb F0 (.slice (some ⟨w1.heap.size, 0, none⟩) 0 0) (madeT (l.take 0)) (madeT (l.take 0)) w2) := ⟨hT.below hb2, hFh, LsE.nil _ _ _, hb1.trans (hb2.mono hb1.size)⟩
  have HeW : Hid (w2 = w1.alloc (.cells #[] 55)) := ew2
  clear hT hFh hb1 hb2 ew2
  go_wp2
  rw [← HeW.out]
  clear HeW
  go_loopw [5, 6] (fun dv iv wr => ∃ (i : Nat) (F : Nat → Prop), iv = .int .i64 (i : Int) ∧ i ≤ l.length ∧ i ≤ 200 ∧ Hid (MdS w tb F dv (madeT (l.take i)) (madeT (l.take i)) wr)) (fun _ iv _ => l.length - (intOf iv).toNat)
  case atStart => exact ⟨0, F0, rfl, Nat.zero_le _, Nat.zero_le _, HM0⟩
  case round =>
    clear HM0
    obtain ⟨i, F, rfl, hil0, hi2, HM⟩ := hrel
    obtain ⟨a9, c9, e9⟩ := HM.out.doc.form
    rw [fl_length] at e9
    subst e9
    have HLn : Hid ((madeT (l.take i)).length ≤ 200) := Nat.le_trans (madeT_len l i hil0) hi2
    by_cases hlt : i < l.length
    · by_cases h2 : i < 200
      · obtain ⟨b, o, cap, ev, hcap, hgb, hbl, hrow⟩ := HLs.out.at (i := i) hlt
        injection ev with ev1 ev2 ev3
        subst ev1
        subst ev3
        obtain ⟨x, ex⟩ : ∃ x, x = l[i] := ⟨_, rfl⟩
        rw [← ex] at hrow
        have HXe : Hid (x = l[i]) := ex
        have HGl : Hid (b < w.heap.size) := hbl
        have HX0 : Hid (w.cell? ⟨b, o + i * 7, none⟩ = some (.int .i64 x.1)) := hrow 0 _ rfl
        have HX1 : Hid (w.cell? ⟨b, o + i * 7 + 1, none⟩ = some (.int .i64 x.2.ts.1)) := hrow 1 _ rfl
        have HX2 : Hid (w.cell? ⟨b, o + i * 7 + 2, none⟩ = some (.int .i64 x.2.ts.2)) := hrow 2 _ rfl
        have HX3 : Hid (w.cell? ⟨b, o + i * 7 + 3, none⟩ = some (.int .i64 x.2.nd.1)) := hrow 3 _ rfl
        have HX4 : Hid (w.cell? ⟨b, o + i * 7 + 4, none⟩ = some (.int .i64 x.2.nd.2)) := hrow 4 _ rfl
        have HX5 : Hid (w.cell? ⟨b, o + i * 7 + 5, none⟩ = some (.int .i64 x.2.pr.1)) := hrow 5 _ rfl
        have HX6 : Hid (w.cell? ⟨b, o + i * 7 + 6, none⟩ = some (.int .i64 x.2.pr.2)) := hrow 6 _ rfl
        have HSr : Hid (SrtM (madeT (l.take i))) := HM.out.tr.srt
        have q0 : wr.cell? ⟨b, o + i * 7, none⟩ = some (.int .i64 x.1) := (HM.out.bel.cell (p := ⟨b, o + i * 7, none⟩) HGl.out).trans HX0.out
        have k1 : (i : Int) < (l.length : Int) := by omega
        have k0 : (0 : Int) ≤ (i : Int) := by omega
        have k2 : (i : Int) < 200 := by omega
        clear ex hrow hbl hgb HLs ev2
        by_cases hk : x.1 = 0
        · have HNx : Hid (madeT (l.take (i + 1)) = doL (madeT (l.take i)) x.2) := by (show _ = _; rw [madeT_next l i hlt, ← HXe.out]; unfold madeS; rw [if_pos hk])
          rw [hk] at q0
          clear hk
          go_wp2_with fail
          clear q0
          refine wp_region_held_drew (S := fun W' => Below w.heap.size w W') (by kernel_rfl) HM.out.bel.drew (fun hHeld => ?_)
          obtain ⟨Ua1u0, eW⟩ : ∃ X, X = wr.drew := ⟨_, rfl⟩
          have hb : Below wr.heap.size wr Ua1u0 := by rw [eW]; exact (Below.refl _ _).drew
          replace HM : Hid (MdS w tb F (.slice a9 (madeT (l.take i)).length c9) (madeT (l.take i)) (madeT (l.take i)) Ua1u0) := HM.out.below hb
          rw [← eW] at hHeld ⊢
          clear eW hb
          refine tkW 0 (some 25) (v := ?_) ?_ hHeld ?_
          rotate_left
          · (intro ww _; go_simp; try with_reducible rfl)
          refine tkW 1 (some 26) (v := ?_) ?_ hHeld ?_
          rotate_left
          · (intro ww _; go_simp; try with_reducible rfl)
          refine tkW 2 (some 27) (v := ?_) ?_ hHeld ?_
          rotate_left
          · (intro ww _; go_simp; try with_reducible rfl)
          refine tkW 3 (some 28) (v := ?_) ?_ hHeld ?_
          rotate_left
          · (intro ww hSw; (try dsimp only at hSw); have hbw := hSw; have r1 := (hbw.cell (p := ⟨b, o + i * 7 + 1, none⟩) HGl.out).trans HX1.out; have r2 := (hbw.cell (p := ⟨b, o + i * 7 + 2, none⟩) HGl.out).trans HX2.out; have r3 := (hbw.cell (p := ⟨b, o + i * 7 + 3, none⟩) HGl.out).trans HX3.out; have r4 := (hbw.cell (p := ⟨b, o + i * 7 + 4, none⟩) HGl.out).trans HX4.out; have r5 := (hbw.cell (p := ⟨b, o + i * 7 + 5, none⟩) HGl.out).trans HX5.out; have r6 := (hbw.cell (p := ⟨b, o + i * 7 + 6, none⟩) HGl.out).trans HX6.out; go_simp; try with_reducible rfl)
          refine tkW 4 (some 29) (v := ?_) ?_ hHeld ?_
          rotate_left
          · (intro ww _; go_simp; try with_reducible rfl)
          refine tkW 5 (some 30) (v := ?_) ?_ hHeld ?_
          rotate_left
          · (intro ww hSw; (try dsimp only at hSw); have hbw := hSw; have r1 := (hbw.cell (p := ⟨b, o + i * 7 + 1, none⟩) HGl.out).trans HX1.out; have r2 := (hbw.cell (p := ⟨b, o + i * 7 + 2, none⟩) HGl.out).trans HX2.out; have r3 := (hbw.cell (p := ⟨b, o + i * 7 + 3, none⟩) HGl.out).trans HX3.out; have r4 := (hbw.cell (p := ⟨b, o + i * 7 + 4, none⟩) HGl.out).trans HX4.out; have r5 := (hbw.cell (p := ⟨b, o + i * 7 + 5, none⟩) HGl.out).trans HX5.out; have r6 := (hbw.cell (p := ⟨b, o + i * 7 + 6, none⟩) HGl.out).trans HX6.out; go_simp; try with_reducible rfl)
          refine tkW 6 (some 31) (v := ?_) ?_ hHeld ?_
          rotate_left
          · (intro ww _; go_simp; try with_reducible rfl)
          refine tkW 7 (some 32) (v := ?_) ?_ hHeld ?_
          rotate_left
          · (intro ww _; go_simp; try with_reducible rfl)
          refine tkW 8 (some 33) (v := ?_) ?_ hHeld ?_
          rotate_left
          · (intro ww hSw; (try dsimp only at hSw); have hbw := hSw; have r1 := (hbw.cell (p := ⟨b, o + i * 7 + 1, none⟩) HGl.out).trans HX1.out; have r2 := (hbw.cell (p := ⟨b, o + i * 7 + 2, none⟩) HGl.out).trans HX2.out; have r3 := (hbw.cell (p := ⟨b, o + i * 7 + 3, none⟩) HGl.out).trans HX3.out; have r4 := (hbw.cell (p := ⟨b, o + i * 7 + 4, none⟩) HGl.out).trans HX4.out; have r5 := (hbw.cell (p := ⟨b, o + i * 7 + 5, none⟩) HGl.out).trans HX5.out; have r6 := (hbw.cell (p := ⟨b, o + i * 7 + 6, none⟩) HGl.out).trans HX6.out; go_simp; try with_reducible rfl)
          refine tkW 9 (some 34) (v := ?_) ?_ hHeld ?_
          rotate_left
          · (intro ww _; go_simp; try with_reducible rfl)
          refine tkW 10 (some 35) (v := ?_) ?_ hHeld ?_
          rotate_left
          · (intro ww hSw; (try dsimp only at hSw); have hbw := hSw; have r1 := (hbw.cell (p := ⟨b, o + i * 7 + 1, none⟩) HGl.out).trans HX1.out; have r2 := (hbw.cell (p := ⟨b, o + i * 7 + 2, none⟩) HGl.out).trans HX2.out; have r3 := (hbw.cell (p := ⟨b, o + i * 7 + 3, none⟩) HGl.out).trans HX3.out; have r4 := (hbw.cell (p := ⟨b, o + i * 7 + 4, none⟩) HGl.out).trans HX4.out; have r5 := (hbw.cell (p := ⟨b, o + i * 7 + 5, none⟩) HGl.out).trans HX5.out; have r6 := (hbw.cell (p := ⟨b, o + i * 7 + 6, none⟩) HGl.out).trans HX6.out; go_simp; try with_reducible rfl)
          refine tkW 11 (some 36) (v := ?_) ?_ hHeld ?_
          rotate_left
          · (intro ww _; go_simp; try with_reducible rfl)
          refine tkW 12 (some 37) (v := ?_) ?_ hHeld ?_
          rotate_left
          · (intro ww _; go_simp; try with_reducible rfl)
          refine tkW 13 (some 38) (v := ?_) ?_ hHeld ?_
          rotate_left
          · (intro ww hSw; (try dsimp only at hSw); have hbw := hSw; have r1 := (hbw.cell (p := ⟨b, o + i * 7 + 1, none⟩) HGl.out).trans HX1.out; have r2 := (hbw.cell (p := ⟨b, o + i * 7 + 2, none⟩) HGl.out).trans HX2.out; have r3 := (hbw.cell (p := ⟨b, o + i * 7 + 3, none⟩) HGl.out).trans HX3.out; have r4 := (hbw.cell (p := ⟨b, o + i * 7 + 4, none⟩) HGl.out).trans HX4.out; have r5 := (hbw.cell (p := ⟨b, o + i * 7 + 5, none⟩) HGl.out).trans HX5.out; have r6 := (hbw.cell (p := ⟨b, o + i * 7 + 6, none⟩) HGl.out).trans HX6.out; go_simp; try with_reducible rfl)
          refine tkW 14 (some 39) (v := ?_) ?_ hHeld ?_
          rotate_left
          · (intro ww _; go_simp; try with_reducible rfl)
          refine tkW 15 (some 40) (v := ?_) ?_ hHeld ?_
          rotate_left
          · (intro ww hSw; (try dsimp only at hSw); have hbw := hSw; have r1 := (hbw.cell (p := ⟨b, o + i * 7 + 1, none⟩) HGl.out).trans HX1.out; have r2 := (hbw.cell (p := ⟨b, o + i * 7 + 2, none⟩) HGl.out).trans HX2.out; have r3 := (hbw.cell (p := ⟨b, o + i * 7 + 3, none⟩) HGl.out).trans HX3.out; have r4 := (hbw.cell (p := ⟨b, o + i * 7 + 4, none⟩) HGl.out).trans HX4.out; have r5 := (hbw.cell (p := ⟨b, o + i * 7 + 5, none⟩) HGl.out).trans HX5.out; have r6 := (hbw.cell (p := ⟨b, o + i * 7 + 6, none⟩) HGl.out).trans HX6.out; go_simp; try with_reducible rfl)
          refine wpAnyH_ready (rs := [16]) (by kernel_rfl) (by simp) ?_
          refine AllReadyH.cons (o := ⟨some 41, _, _, _, _, _⟩) rfl (fun K hK => ?_) AllReadyH.nil
          go_simp
          refine (do_any F tb (madeT (l.take i)) x.2.ts x.2.nd x.2.pr _ HM.out.tr (by have := HLn.out; omega)).mono ?_
          rintro e Ua1u1 hd
          obtain ⟨he, hd2⟩ := id hd
          subst he
          (try go_wp2_with fail)
          obtain ⟨F2, hM2⟩ := HM.out.did hd
          replace HM : Hid (MdS w tb F2 (.slice a9 (madeT (l.take i)).length c9) (doL (madeT (l.take i)) x.2) (madeT (l.take i)) Ua1u1) := hM2
          clear hd hd2 hM2
          refine hK.out _ _ (HM.out.bel) (fun hHeld2 => ?_)
          clear hK K hHeld
          have hHeld := hHeld2
          clear hHeld2
          (try simp only [Act.put, List.setIfInBounds_toArray, List.set_cons_zero, List.set_cons_succ])
          refine wpAnyH_done (by kernel_rfl) ?_ _
          clear hHeld
          go_wp2_with fail
          obtain ⟨wr8, ewr⟩ : ∃ X, X = Ua1u1 := ⟨_, rfl⟩
          rw [← ewr] at HM ⊢
          clear ewr
          refine wp_region_held_drew (S := fun W' => Below w.heap.size w W') (by kernel_rfl) HM.out.bel.drew (fun hHeld => ?_)
          obtain ⟨Ub2u0, eW⟩ : ∃ X, X = wr8.drew := ⟨_, rfl⟩
          have hb : Below wr8.heap.size wr8 Ub2u0 := by rw [eW]; exact (Below.refl _ _).drew
          replace HM : Hid (MdS w tb F2 (.slice a9 (madeT (l.take i)).length c9) (doL (madeT (l.take i)) x.2) (madeT (l.take i)) Ub2u0) := HM.out.below hb
          rw [← eW] at hHeld ⊢
          clear eW hb
          refine tkW 0 (some 43) (v := ?_) ?_ hHeld ?_
          rotate_left
          · (intro ww _; go_simp; try with_reducible rfl)
          refine tkW 1 (some 44) (v := ?_) ?_ hHeld ?_
          rotate_left
          · (intro ww _; go_simp; try with_reducible rfl)
          refine tkW 2 (some 45) (v := ?_) ?_ hHeld ?_
          rotate_left
          · (intro ww _; go_simp; try with_reducible rfl)
          refine tkW 3 (some 46) (v := ?_) ?_ hHeld ?_
          rotate_left
          · (intro ww hSw; (try dsimp only at hSw); have hbw := hSw; have r1 := (hbw.cell (p := ⟨b, o + i * 7 + 1, none⟩) HGl.out).trans HX1.out; have r2 := (hbw.cell (p := ⟨b, o + i * 7 + 2, none⟩) HGl.out).trans HX2.out; have r3 := (hbw.cell (p := ⟨b, o + i * 7 + 3, none⟩) HGl.out).trans HX3.out; have r4 := (hbw.cell (p := ⟨b, o + i * 7 + 4, none⟩) HGl.out).trans HX4.out; have r5 := (hbw.cell (p := ⟨b, o + i * 7 + 5, none⟩) HGl.out).trans HX5.out; have r6 := (hbw.cell (p := ⟨b, o + i * 7 + 6, none⟩) HGl.out).trans HX6.out; go_simp; try with_reducible rfl)
          refine tkW 4 (some 47) (v := ?_) ?_ hHeld ?_
          rotate_left
          · (intro ww _; go_simp; try with_reducible rfl)
          refine tkW 5 (some 48) (v := ?_) ?_ hHeld ?_
          rotate_left
          · (intro ww hSw; (try dsimp only at hSw); have hbw := hSw; have r1 := (hbw.cell (p := ⟨b, o + i * 7 + 1, none⟩) HGl.out).trans HX1.out; have r2 := (hbw.cell (p := ⟨b, o + i * 7 + 2, none⟩) HGl.out).trans HX2.out; have r3 := (hbw.cell (p := ⟨b, o + i * 7 + 3, none⟩) HGl.out).trans HX3.out; have r4 := (hbw.cell (p := ⟨b, o + i * 7 + 4, none⟩) HGl.out).trans HX4.out; have r5 := (hbw.cell (p := ⟨b, o + i * 7 + 5, none⟩) HGl.out).trans HX5.out; have r6 := (hbw.cell (p := ⟨b, o + i * 7 + 6, none⟩) HGl.out).trans HX6.out; go_simp; try with_reducible rfl)
          refine tkW 6 (some 49) (v := ?_) ?_ hHeld ?_
          rotate_left
          · (intro ww _; go_simp; try with_reducible rfl)
          refine tkW 7 (some 50) (v := ?_) ?_ hHeld ?_
          rotate_left
          · (intro ww _; go_simp; try with_reducible rfl)
          refine tkW 8 (some 51) (v := ?_) ?_ hHeld ?_
          rotate_left
          · (intro ww hSw; (try dsimp only at hSw); have hbw := hSw; have r1 := (hbw.cell (p := ⟨b, o + i * 7 + 1, none⟩) HGl.out).trans HX1.out; have r2 := (hbw.cell (p := ⟨b, o + i * 7 + 2, none⟩) HGl.out).trans HX2.out; have r3 := (hbw.cell (p := ⟨b, o + i * 7 + 3, none⟩) HGl.out).trans HX3.out; have r4 := (hbw.cell (p := ⟨b, o + i * 7 + 4, none⟩) HGl.out).trans HX4.out; have r5 := (hbw.cell (p := ⟨b, o + i * 7 + 5, none⟩) HGl.out).trans HX5.out; have r6 := (hbw.cell (p := ⟨b, o + i * 7 + 6, none⟩) HGl.out).trans HX6.out; go_simp; try with_reducible rfl)
          refine tkW 9 (some 52) (v := ?_) ?_ hHeld ?_
          rotate_left
          · (intro ww _; go_simp; try with_reducible rfl)
          refine tkW 10 (some 53) (v := ?_) ?_ hHeld ?_
          rotate_left
          · (intro ww hSw; (try dsimp only at hSw); have hbw := hSw; have r1 := (hbw.cell (p := ⟨b, o + i * 7 + 1, none⟩) HGl.out).trans HX1.out; have r2 := (hbw.cell (p := ⟨b, o + i * 7 + 2, none⟩) HGl.out).trans HX2.out; have r3 := (hbw.cell (p := ⟨b, o + i * 7 + 3, none⟩) HGl.out).trans HX3.out; have r4 := (hbw.cell (p := ⟨b, o + i * 7 + 4, none⟩) HGl.out).trans HX4.out; have r5 := (hbw.cell (p := ⟨b, o + i * 7 + 5, none⟩) HGl.out).trans HX5.out; have r6 := (hbw.cell (p := ⟨b, o + i * 7 + 6, none⟩) HGl.out).trans HX6.out; go_simp; try with_reducible rfl)
          refine tkW 11 (some 54) (v := ?_) ?_ hHeld ?_
          rotate_left
          · (intro ww _; go_simp; try with_reducible rfl)
          refine tkW 12 (some 55) (v := ?_) ?_ hHeld ?_
          rotate_left
          · (intro ww _; go_simp; try with_reducible rfl)
          refine tkW 13 (some 56) (v := ?_) ?_ hHeld ?_
          rotate_left
          · (intro ww hSw; (try dsimp only at hSw); have hbw := hSw; have r1 := (hbw.cell (p := ⟨b, o + i * 7 + 1, none⟩) HGl.out).trans HX1.out; have r2 := (hbw.cell (p := ⟨b, o + i * 7 + 2, none⟩) HGl.out).trans HX2.out; have r3 := (hbw.cell (p := ⟨b, o + i * 7 + 3, none⟩) HGl.out).trans HX3.out; have r4 := (hbw.cell (p := ⟨b, o + i * 7 + 4, none⟩) HGl.out).trans HX4.out; have r5 := (hbw.cell (p := ⟨b, o + i * 7 + 5, none⟩) HGl.out).trans HX5.out; have r6 := (hbw.cell (p := ⟨b, o + i * 7 + 6, none⟩) HGl.out).trans HX6.out; go_simp; try with_reducible rfl)
          refine tkW 14 (some 57) (v := ?_) ?_ hHeld ?_
          rotate_left
          · (intro ww _; go_simp; try with_reducible rfl)
          refine tkW 15 (some 58) (v := ?_) ?_ hHeld ?_
          rotate_left
          · (intro ww hSw; (try dsimp only at hSw); have hbw := hSw; have r1 := (hbw.cell (p := ⟨b, o + i * 7 + 1, none⟩) HGl.out).trans HX1.out; have r2 := (hbw.cell (p := ⟨b, o + i * 7 + 2, none⟩) HGl.out).trans HX2.out; have r3 := (hbw.cell (p := ⟨b, o + i * 7 + 3, none⟩) HGl.out).trans HX3.out; have r4 := (hbw.cell (p := ⟨b, o + i * 7 + 4, none⟩) HGl.out).trans HX4.out; have r5 := (hbw.cell (p := ⟨b, o + i * 7 + 5, none⟩) HGl.out).trans HX5.out; have r6 := (hbw.cell (p := ⟨b, o + i * 7 + 6, none⟩) HGl.out).trans HX6.out; go_simp; try with_reducible rfl)
          refine wpAnyH_ready (rs := [16]) (by kernel_rfl) (by simp) ?_
          refine AllReadyH.cons (o := ⟨some 59, _, _, _, _, _⟩) rfl (fun K hK => ?_) AllReadyH.nil
          go_simp
          refine (refDo_any F2 (.slice a9 (madeT (l.take i)).length c9) (madeT (l.take i)) x.2.ts x.2.nd x.2.pr _ HM.out.doc HM.out.tr.lt HSr.out (by have := HLn.out; omega)).mono ?_
          rintro e Ub2u1 ⟨v8, he, hd, hb⟩
          subst he
          (try go_wp2_with fail)
          replace HM : Hid (MdS w tb F2 v8 (doL (madeT (l.take i)) x.2) (doL (madeT (l.take i)) x.2) Ub2u1) := HM.out.doc2 hd hb
          clear hd hb
          refine hK.out _ _ (HM.out.bel) (fun hHeld2 => ?_)
          clear hK K hHeld
          have hHeld := hHeld2
          clear hHeld2
          (try simp only [Act.put, List.setIfInBounds_toArray, List.set_cons_zero, List.set_cons_succ])
          refine tkW 17 (some 42) (v := ?_) ?_ hHeld ?_
          rotate_left
          · (intro ww _; go_simp; try with_reducible rfl)
          refine tkW 18 (some 60) (v := ?_) ?_ hHeld ?_
          rotate_left
          · (intro ww _; go_simp; try with_reducible rfl)
          refine tkW 19 (some 61) (v := ?_) ?_ hHeld ?_
          rotate_left
          · (intro ww _; go_simp; try with_reducible rfl)
          refine tkW 20 (some 5) (v := ?_) ?_ hHeld ?_
          rotate_left
          · (intro ww _; go_simp; try with_reducible rfl)
          refine wpAnyH_done (by kernel_rfl) ?_ _
          clear hHeld
          go_wp2
          go_roundw
          case rel => exact ⟨i + 1, F2, by go_num, by omega, by omega, by (rw [HNx.out]; exact HM)⟩
          case measure => simp [intOf]; omega
        · have HNx : Hid (madeT (l.take (i + 1)) = (madeT (l.take i))) := by (show _ = _; rw [madeT_next l i hlt, ← HXe.out]; unfold madeS; rw [if_neg hk])
          go_wp2
          go_roundw
          case rel => exact ⟨i + 1, F, by go_num, by omega, by omega, by (rw [HNx.out]; exact HM)⟩
          case measure => simp [intOf]; omega
      · have HEd : Hid ((madeT (l.take i)) = madeL l) := madeL_end l hil0 hi2 (fun h => h2 h.2)
        obtain rfl : i = 200 := by omega
        have k1 : (200 : Int) < (l.length : Int) := by omega
        go_wp2
        go_ret2
        exact ⟨tb, F, a9, c9, by (rw [← HEd.out]; rfl), by (rw [← HEd.out]; exact HM.out)⟩
    · have HEd : Hid ((madeT (l.take i)) = madeL l) := madeL_end l hil0 hi2 (fun h => hlt h.1)
      obtain rfl : i = l.length := by omega
      go_wp2
      go_ret2
      exact ⟨tb, F, a9, c9, by (rw [← HEd.out]; rfl), by (rw [← HEd.out]; exact HM.out)⟩

end Go.Proofs.Ytljepindfdhbbaa
