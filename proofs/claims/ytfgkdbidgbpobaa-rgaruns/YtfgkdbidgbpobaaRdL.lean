/- A row of some slots, and the document's. -/
import Derived.Test.YtfgkdbidgbpobaaRdB
import Derived.Test.YtfgkdbidgbpobaaBaseR
namespace Go.Proofs.Ytfgkdbidgbpobaa
open Go.RowKit
set_option linter.unusedVariables false
set_option linter.unusedSimpArgs false

section
variable {G : Nat → Prop} {w : World} {v : Value} {L : List Sl}
theorem LsN.lo (h : LsN G w v L) : LsN (fun j => G j ∧ j < w.heap.size) w v L := by
  obtain ⟨⟨a, cap, e, hc, hl, h⟩, hs⟩ := h
  exact ⟨⟨a, cap, e, hc, hl, h.imp id fun ⟨b, o, ea, hg, hlt, hr⟩ => ⟨b, o, ea, ⟨hg, hlt⟩, hlt, hr⟩⟩, hs⟩
theorem LsE.row4 (h : LsE slCells 4 G w v L) {i : Nat} (hi : i < L.length) : ∃ b o cap, v = .slice (some ⟨b, o, none⟩) L.length cap ∧ G b ∧ b < w.heap.size ∧ ∀ j u, (slCells L[i])[j]? = some u → w.cell? ⟨b, o + i * 4 + j, none⟩ = some u := by
  obtain ⟨a, cap, e1, _, _, hr⟩ := h
  obtain ⟨b, o, rfl, hg, hlt, hr⟩ := hr.resolve_left (by intro e; subst e; simp at hi)
  exact ⟨b, o, cap, e1, hg, hlt, fun j u hj => hr i hi j u hj⟩
end
/-- A row and the document's slots side by side. -/
structure LdS (w : World) (rb : Nat) (F : Nat → Prop) (dv : Value) (L1 L2 : List Sl) (W : World) : Prop where
  row : RowOk F W rb L1
  hi : ∀ j, F j → w.heap.size ≤ j
  doc : LsN (fun j => ¬ F j) W dv L2
  bel : Below w.heap.size w W
section
variable {w W W' : World} {rb : Nat} {F : Nat → Prop} {dv dv' : Value} {L L1 L2 L3 : List Sl} {m : Sl} {e : Ending}
theorem LdS.below (h : LdS w rb F dv L1 L2 W) (hb : Below W.heap.size W W') : LdS w rb F dv L1 L2 W' := ⟨h.row.below hb, h.hi, h.doc.below hb, h.bel.trans (hb.mono h.bel.size)⟩
theorem LdS.doc2 (h : LdS w rb F dv L1 L2 W) (hd : LsN (fun j => ¬ F j) W' dv' L3) (hb : Below W.heap.size W W') : LdS w rb F dv' L1 L3 W' := ⟨h.row.below hb, h.hi, hd, h.bel.trans (hb.mono h.bel.size)⟩
theorem LdS.did (h : LdS w rb F dv L1 L2 W) (hd : AddP F W rb L1 m e W') : ∃ F', LdS w rb F' dv (addL L1 m) L2 W' := by
  obtain ⟨_, F', ht, hsub, hnew, hto⟩ := hd
  refine ⟨F', ht, fun j hj => ?_, ?_, h.bel.trans (hto.below h.hi h.bel.size)⟩
  · rcases hnew j hj with h1 | h1
    · exact h.hi j h1
    · exact Nat.le_trans h.bel.size h1
  · exact (h.doc.lo.touch hto (fun k hk => hk.1)).mono fun k hk hF => (hnew k hF).elim hk.1 (fun h2 => by omega)
theorem LdS.rv (h : LdS w rb F dv L1 L2 W) : RowV F W (.pointer (some ⟨rb, 0, none⟩)) L1 := h.row.rv
end
/-- The slots that are added. -/
def laidT (l : List Sl) : List Sl := l.foldl addL []
def laidL (l : List Sl) : List Sl := laidT (l.take 120)
theorem laidT_next (l : List Sl) (i : Nat) (h : i < l.length) : laidT (l.take (i + 1)) = addL (laidT (l.take i)) l[i] := by
  unfold laidT
  rw [List.take_succ_eq_append_getElem h, List.foldl_append]
  rfl
theorem laidT_len (l : List Sl) : ∀ i, i ≤ l.length → (laidT (l.take i)).length ≤ i
  | 0, _ => by simp [laidT]
  | i + 1, h => by
    have ih := laidT_len l i (by omega)
    rw [laidT_next l i (by omega)]
    have := addL_length (laidT (l.take i)) l[i]
    omega
theorem laidT_all (l : List Sl) : (laidT l).length ≤ l.length := by
  have := laidT_len l l.length (Nat.le_refl _)
  rwa [List.take_length] at this
theorem laidL_len (l : List Sl) : (laidL l).length ≤ 120 := by
  have := laidT_all (l.take 120)
  unfold laidL
  simp at this
  omega
theorem laidT_good (l : List Sl) : GoodL (laidT l) := by
  have h : ∀ (l A : List Sl), GoodL A → GoodL (l.foldl addL A) := fun l => by
    induction l with
    | nil => exact fun A h => h
    | cons x l ih => exact fun A h => ih _ (h.add x)
  exact h l [] GoodL.nil

set_option maxHeartbeats 2000000 in
theorem cut_any (v : Value) (l : List Sl) (w : World) (h : IsSl w v l) :
    Calls Try.prog 16 #[v] w fun e w' => ∃ l2 a c, e = .returned (.slice a l2.length c) ∧ l2 = l.take 120 ∧ (∀ W, IsSl W v l → IsSl W (.slice a l2.length c) l2) ∧ w' = w := by
  obtain ⟨a1, c1, e1⟩ := h.form
  subst e1
  have hlen := h.len
  have HLs : Hid (IsSl w (.slice a1 l.length c1) l) := h
  by_cases hl : 120 < l.length
  · have HT : Hid (∀ W, IsSl W (.slice a1 l.length c1) l → IsSl W (.slice a1 (l.take 120).length c1) (l.take 120)) := fun W h => by
      have h9 := h.take rfl 120 (by omega)
      rw [show (l.take 120).length = 120 by simp; omega]
      exact h9
    have HE : Hid ((l.take 120).length = 120) := by (show _ = _; simp; omega)
    have hk : (120 : Int) < (l.length : Int) := by omega
    obtain ⟨b, o, cap, ev, _, hbl, _⟩ := h.row4 (i := 0) (by omega)
    injection ev with ev1 ev2 ev3
    subst ev1
    have hc : l.length ≤ c1 := by (obtain ⟨_, _, e, hc, _⟩ := h; injection e with _ _ e3; omega)
    clear h ev2 ev3
    go_enter Try.func16, Try.ntmps16
    go_wp2
    go_ret
    exact ⟨l.take 120, _, _, congrArg Ending.returned (congrArg (fun n => Value.slice (some ⟨b, o, none⟩) n c1) HE.out.symm), rfl, HT.out, rfl⟩
  · have HE : Hid (l.take 120 = l) := List.take_of_length_le (by omega)
    have hk : ¬ (120 : Int) < (l.length : Int) := by omega
    clear h
    go_enter Try.func16, Try.ntmps16
    go_wp2
    go_ret
    exact ⟨l, _, _, rfl, HE.out.symm, fun W h => h, rfl⟩
/-- What laid answers. -/
def LaidP (l : List Sl) (w : World) (e : Ending) (w' : World) : Prop := ∃ rb F b o c, e = .returned (.tuple #[.pointer (some ⟨rb, 0, none⟩), .slice (some ⟨b, o, none⟩) (laidL l).length c]) ∧ LdS w rb F (.slice (some ⟨b, o, none⟩) (laidL l).length c) (laidL l) (laidL l) w'

set_option maxRecDepth 100000 in
set_option maxHeartbeats 8000000 in
theorem laid_any (v : Value) (l0 : List Sl) (w : World) (h : IsSl w v l0) :
    Calls Try.prog 5 #[v] w fun e w' => LaidP l0 w e w' := by
  obtain ⟨a1, c1, e1⟩ := h.form
  subst e1
  have HLs0 : Hid (IsSl w (.slice a1 l0.length c1) l0) := h
  clear h
  go_enter Try.func5, Try.ntmps5
  go_wp2_with fail
  refine (new_any _).mono ?_
  rintro e w1 ⟨rb, F0, rfl, hT, hFh, hb1⟩
  obtain ⟨w2, ew2⟩ : ∃ X, X = w1.alloc (.cells #[] 36) := ⟨_, rfl⟩
  have hb2 : Below w1.heap.size w1 w2 := by rw [ew2]; exact (Below.refl _ _).alloc (Nat.le_refl _) _
  have HM0 : Hid (LdS w rb F0 (.slice (some ⟨w1.heap.size, 0, none⟩) 0 0) [] [] w2) := ⟨hT.below hb2, hFh, ⟨LsE.nil _ _ _, _, _, _, rfl⟩, hb1.trans (hb2.mono hb1.size)⟩
  have HeW : Hid (w2 = w1.alloc (.cells #[] 36)) := ew2
  clear hT hFh hb1 hb2 ew2
  go_wp2_with fail
  rw [← HeW.out]
  clear HeW
  refine (cut_any _ l0 _ (HLs0.out.below HM0.out.bel)).mono ?_
  rintro e w' ⟨l, a2, c2, rfl, el, hcut, hw⟩
  replace hw := hw.symm
  subst hw
  have HEnd : Hid (laidT l = laidL l0) := by (show _ = _; rw [el]; rfl)
  have hlen : l.length ≤ 120 := by (rw [el]; simp; omega)
  have HLs : Hid (IsSl w (.slice a2 l.length c2) l) := hcut w HLs0.out
  clear hcut HLs0 el
  go_wp2
  go_loopw [5, 6] (fun dv iv wr => ∃ (i : Nat) (F : Nat → Prop), iv = .int .i64 (i : Int) ∧ i ≤ l.length ∧ Hid (LdS w rb F dv (laidT (l.take i)) (laidT (l.take i)) wr)) (fun _ iv _ => l.length - (intOf iv).toNat)
  case atStart => exact ⟨0, F0, rfl, Nat.zero_le _, HM0⟩
  case round =>
    clear HM0
    obtain ⟨i, F, rfl, hil0, HM⟩ := hrel
    obtain ⟨b9, o9, c9, e9⟩ := HM.out.doc.sm
    subst e9
    have HLn : Hid ((laidT (l.take i)).length ≤ 120) := Nat.le_trans (laidT_len l i hil0) (by omega)
    by_cases hlt : i < l.length
    · obtain ⟨b, o, cap, ev, hgb, hbl, hrow⟩ := HLs.out.row4 (i := i) hlt
      injection ev with ev1 ev2 ev3
      subst ev1
      subst ev3
      obtain ⟨s, es⟩ : ∃ s, s = l[i] := ⟨_, rfl⟩
      rw [← es] at hrow
      have HGl : Hid (b < w.heap.size) := hbl
      have HX0 : Hid (w.cell? ⟨b, o + i * 4, none⟩ = some (.int .i64 s.ts.1)) := hrow 0 _ rfl
      have HX1 : Hid (w.cell? ⟨b, o + i * 4 + 1, none⟩ = some (.int .i64 s.ts.2)) := hrow 1 _ rfl
      have HX2 : Hid (w.cell? ⟨b, o + i * 4 + 2, none⟩ = some (.int .i64 s.af.1)) := hrow 2 _ rfl
      have HX3 : Hid (w.cell? ⟨b, o + i * 4 + 3, none⟩ = some (.int .i64 s.af.2)) := hrow 3 _ rfl
      have k1 : (i : Int) < (l.length : Int) := by omega
      have k0 : (0 : Int) ≤ (i : Int) := by omega
      have HNx : Hid (laidT (l.take (i + 1)) = addL (laidT (l.take i)) s) := by (show _ = _; rw [laidT_next l i hlt, ← es])
      clear es hrow hbl hgb HLs ev2
      go_wp2_with fail
      refine wp_region_held_drew (S := fun W' => Below w.heap.size w W') (by kernel_rfl) HM.out.bel.drew (fun hHeld => ?_)
      obtain ⟨Ua10u0, eW⟩ : ∃ X, X = wr.drew := ⟨_, rfl⟩
      have hb : Below wr.heap.size wr Ua10u0 := by rw [eW]; exact (Below.refl _ _).drew
      replace HM : Hid (LdS w rb F (.slice (some ⟨b9, o9, none⟩) (laidT (l.take i)).length c9) (laidT (l.take i)) (laidT (l.take i)) Ua10u0) := HM.out.below hb
      rw [← eW] at hHeld ⊢
      clear eW hb
      refine tkW 0 (some 17) (v := ?_) ?_ hHeld ?_
      rotate_left
      · (intro ww _; go_simp; try with_reducible rfl)
      refine tkW 1 (some 18) (v := ?_) ?_ hHeld ?_
      rotate_left
      · (intro ww _; go_simp; try with_reducible rfl)
      refine tkW 2 (some 19) (v := ?_) ?_ hHeld ?_
      rotate_left
      · (intro ww _; go_simp; try with_reducible rfl)
      refine tkW 3 (some 20) (v := ?_) ?_ hHeld ?_
      rotate_left
      · (intro ww hSw; (try dsimp only at hSw); have hbw := hSw; have r0 := (hbw.cell (p := ⟨b, o + i * 4, none⟩) HGl.out).trans HX0.out; have r1 := (hbw.cell (p := ⟨b, o + i * 4 + 1, none⟩) HGl.out).trans HX1.out; have r2 := (hbw.cell (p := ⟨b, o + i * 4 + 2, none⟩) HGl.out).trans HX2.out; have r3 := (hbw.cell (p := ⟨b, o + i * 4 + 3, none⟩) HGl.out).trans HX3.out; go_simp; try with_reducible rfl)
      refine tkW 4 (some 21) (v := ?_) ?_ hHeld ?_
      rotate_left
      · (intro ww _; go_simp; try with_reducible rfl)
      refine tkW 5 (some 22) (v := ?_) ?_ hHeld ?_
      rotate_left
      · (intro ww hSw; (try dsimp only at hSw); have hbw := hSw; have r0 := (hbw.cell (p := ⟨b, o + i * 4, none⟩) HGl.out).trans HX0.out; have r1 := (hbw.cell (p := ⟨b, o + i * 4 + 1, none⟩) HGl.out).trans HX1.out; have r2 := (hbw.cell (p := ⟨b, o + i * 4 + 2, none⟩) HGl.out).trans HX2.out; have r3 := (hbw.cell (p := ⟨b, o + i * 4 + 3, none⟩) HGl.out).trans HX3.out; go_simp; try with_reducible rfl)
      refine tkW 6 (some 23) (v := ?_) ?_ hHeld ?_
      rotate_left
      · (intro ww _; go_simp; try with_reducible rfl)
      refine tkW 7 (some 24) (v := ?_) ?_ hHeld ?_
      rotate_left
      · (intro ww _; go_simp; try with_reducible rfl)
      refine tkW 8 (some 25) (v := ?_) ?_ hHeld ?_
      rotate_left
      · (intro ww hSw; (try dsimp only at hSw); have hbw := hSw; have r0 := (hbw.cell (p := ⟨b, o + i * 4, none⟩) HGl.out).trans HX0.out; have r1 := (hbw.cell (p := ⟨b, o + i * 4 + 1, none⟩) HGl.out).trans HX1.out; have r2 := (hbw.cell (p := ⟨b, o + i * 4 + 2, none⟩) HGl.out).trans HX2.out; have r3 := (hbw.cell (p := ⟨b, o + i * 4 + 3, none⟩) HGl.out).trans HX3.out; go_simp; try with_reducible rfl)
      refine tkW 9 (some 26) (v := ?_) ?_ hHeld ?_
      rotate_left
      · (intro ww _; go_simp; try with_reducible rfl)
      refine tkW 10 (some 27) (v := ?_) ?_ hHeld ?_
      rotate_left
      · (intro ww hSw; (try dsimp only at hSw); have hbw := hSw; have r0 := (hbw.cell (p := ⟨b, o + i * 4, none⟩) HGl.out).trans HX0.out; have r1 := (hbw.cell (p := ⟨b, o + i * 4 + 1, none⟩) HGl.out).trans HX1.out; have r2 := (hbw.cell (p := ⟨b, o + i * 4 + 2, none⟩) HGl.out).trans HX2.out; have r3 := (hbw.cell (p := ⟨b, o + i * 4 + 3, none⟩) HGl.out).trans HX3.out; go_simp; try with_reducible rfl)
      refine wpAnyH_ready (rs := [11]) (by kernel_rfl) (by simp) ?_
      refine AllReadyH.cons (o := ⟨some 28, _, _, _, _, _⟩) rfl (fun K hK => ?_) AllReadyH.nil
      go_simp
      refine (add_any F rb (laidT (l.take i)) s _ HM.out.row (by have := HLn.out; omega)).mono ?_
      rintro e Ua10u1 hd
      obtain ⟨he, _⟩ := id hd
      subst he
      (try go_wp2_with fail)
      obtain ⟨F2, hM2⟩ := HM.out.did hd
      replace HM : Hid (LdS w rb F2 (.slice (some ⟨b9, o9, none⟩) (laidT (l.take i)).length c9) (addL (laidT (l.take i)) s) (laidT (l.take i)) Ua10u1) := hM2
      clear hd hM2
      refine hK.out _ _ (HM.out.bel) (fun hHeld2 => ?_)
      clear hK K hHeld
      have hHeld := hHeld2
      clear hHeld2
      (try simp only [Act.put, List.setIfInBounds_toArray, List.set_cons_zero, List.set_cons_succ])
      refine wpAnyH_done (by kernel_rfl) ?_ _
      clear hHeld
      have r0 := (HM.out.bel.cell (p := ⟨b, o + i * 4, none⟩) HGl.out).trans HX0.out
      have r1 := (HM.out.bel.cell (p := ⟨b, o + i * 4 + 1, none⟩) HGl.out).trans HX1.out
      have r2 := (HM.out.bel.cell (p := ⟨b, o + i * 4 + 2, none⟩) HGl.out).trans HX2.out
      have r3 := (HM.out.bel.cell (p := ⟨b, o + i * 4 + 3, none⟩) HGl.out).trans HX3.out
      go_wp2_with fail
      clear r0 r1 r2 r3
      refine (refAdd_any (fun j => ¬ F2 j ∧ j < Ua10u1.heap.size) _ (laidT (l.take i)) s _ HM.out.doc.lo (by have := HLn.out; omega)).mono ?_
      rintro e w8 ⟨v8, rfl, hd, hb⟩
      have HM8 : Hid (LdS w rb F2 v8 (addL (laidT (l.take i)) s) (addL (laidT (l.take i)) s) w8) := HM.out.doc2 (hd.mono fun k hk => hk.elim (fun h => h.1) (fun h hF => by have := HM.out.row.lt k hF; omega)) hb
      clear hd hb HM
      obtain ⟨b8, o8, c8, e8⟩ := HM8.out.doc.sm
      subst e8
      go_wp2
      go_roundw
      case rel => exact ⟨i + 1, F2, by go_num, by omega, by (rw [HNx.out]; exact HM8)⟩
      case measure => simp [intOf]; omega
    · have HEd : Hid ((laidT (l.take i)) = laidL l0) := by (show _ = _; rw [List.take_of_length_le (by omega)]; exact HEnd.out)
      obtain rfl : i = l.length := by omega
      go_wp2
      go_ret2
      exact ⟨rb, F, b9, o9, c9, by (rw [← HEd.out]; rfl), by (rw [← HEd.out]; exact HM.out)⟩

end Go.Proofs.Ytfgkdbidgbpobaa
