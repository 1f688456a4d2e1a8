/- The document's Done. -/
import Derived.Test.YtljepindfdhbbaaRfF
import Derived.Test.YtljepindfdhbbaaRfD
namespace Go.Proofs.Ytljepindfdhbbaa
open Go.RowKit
set_option linter.unusedVariables false
set_option linter.unusedSimpArgs false

theorem cellD {W : World} {b : Nat} {cs : Array Value} {T : TypeId} (h : W.heap[b]? = some (.cells cs T)) (j : Nat) (u : Value) (hj : cs[j]? = some u) : W.cell? ⟨b, j, none⟩ = some u := by
  rw [cell_of_row W b j _ _ _ h]
  exact hj
theorem OwnE.stS2 {B : Nat} {w : World} {v : Value} {D : List St} (h : OwnE stCells 2 27 B w v D) : S.OwnS B w v D := h.stS
/-- What Done has made of the first moves. -/
def DnI (L : List Mv) (i : Nat) (D : List (Mv × Bool)) : Prop := D.length = i ∧ ∀ j x, L[j]? = some x → j < i → D[j]? = some (x, cntB (doneT (L.take j)) x)
theorem DnI.next {L : List Mv} {i : Nat} {D : List (Mv × Bool)} (h : DnI L i D) {x : Mv} {c : Bool} (hx : L[i]? = some x) (hc : cntB (doneT (L.take i)) x = c) : DnI L (i + 1) (D ++ [(x, c)]) := by
  refine ⟨by simp [h.1], fun j y hj hji => ?_⟩
  rcases Nat.lt_or_ge j i with h1 | h1
  · rw [List.getElem?_append_left (by rw [h.1]; exact h1)]
    exact h.2 j y hj h1
  · obtain rfl : j = i := by omega
    rw [hj] at hx
    cases hx
    rw [List.getElem?_append_right (by rw [h.1]; exact Nat.le_refl _), h.1, Nat.sub_self, hc]
    rfl
/-- The state of Done. -/
structure DnS (w : World) (tv : Value) (T : List Pl) (ov : Value) (D : List (Mv × Bool)) (W : World) : Prop where
  bel : Below w.heap.size w W
  tree : LsE plCells 6 (fun j => w.heap.size ≤ j ∧ ov.ownBlock ≠ some j) W tv T
  own : OwnE mcCells 7 55 w.heap.size W ov D
/-- .. with the move's box. -/
structure DmS (w : World) (tv : Value) (T : List Pl) (ov : Value) (D : List (Mv × Bool)) (mb : Nat) (y : Mv × Bool) (W : World) : Prop where
  base : DnS w tv T ov D W
  lo : w.heap.size ≤ mb
  row : W.heap[mb]? = some (.cells (mcCells y).toArray 55)
  nb : ov.ownBlock ≠ some mb
  nt : LsE plCells 6 (fun j => (w.heap.size ≤ j ∧ ov.ownBlock ≠ some j) ∧ j ≠ mb) W tv T
section
variable {w W W' : World} {tv tv2 ov v : Value} {T T2 : List Pl} {D : List (Mv × Bool)} {mb : Nat} {y : Mv × Bool} {x : Mv} {b : Bool}
theorem DnS.below (h : DnS w tv T ov D W) (hb : Below W.heap.size W W') : DnS w tv T ov D W' := ⟨h.bel.trans (hb.mono h.bel.size), h.tree.below hb, h.own.below hb⟩
theorem DmS.below (h : DmS w tv T ov D mb y W) (hb : Below W.heap.size W W') : DmS w tv T ov D mb y W' := ⟨h.base.below hb, h.lo, (hb.block _ (row_lt h.row)).trans h.row, h.nb, h.nt.below hb⟩
theorem DmS.z (h : DmS w tv T ov D mb y W) (j : Nat) : W.frozen? ⟨mb, j, none⟩ = false := frozen_of_row W mb j _ _ h.row
theorem DmS.cnt (h : DmS w tv T ov D mb (x, b) W) (c : Bool) : DmS w tv T ov D mb (x, c) (W.setCell ⟨mb, 6, none⟩ (.bool c)) := by
  have hg := grownBy_setCell W mb 6 (.bool c)
  have ht : Touch (fun j => j = mb) W (W.setCell ⟨mb, 6, none⟩ (.bool c)) := Touch.of_grown hg (fun k e _ => by cases e; rfl)
  refine ⟨⟨h.base.bel.grown hg h.base.bel.size (fun k e => by cases e; exact h.lo), (h.nt.touch ht (fun k hk => hk.2)).mono (fun k hk => hk.1), h.base.own.keep (fun k e => hg.block k (h.base.own.lt k e).2 (fun e2 => h.nb (by rw [e, e2])))⟩, h.lo, ?_, h.nb, h.nt.touch ht (fun k hk => hk.2)⟩
  rw [heap_setCell_same W mb 6 _ _ _ h.row]
  rfl
theorem DmS.set (h : DmS w tv T ov D mb y W) (ho : OwnE plCells 6 43 W.heap.size W' tv2 T2) (hb : Below W.heap.size W W') (hl : T2.length ≤ 8796093022208 := by first | exact HSl.out | omega) : DmS w tv2 T2 ov D mb y W' := by
  have h1 : LsE plCells 6 (fun j => (w.heap.size ≤ j ∧ ov.ownBlock ≠ some j) ∧ j ≠ mb) W' tv2 T2 := ho.lsE plCells_len hl (fun k e => by
    have h2 := (ho.lt k e).1
    have h3 := h.base.bel.size
    have h4 := row_lt h.row
    exact ⟨⟨by omega, fun e2 => by have := (h.base.own.lt k e2).2; omega⟩, by omega⟩)
  exact ⟨⟨h.base.bel.trans (hb.mono h.base.bel.size), h1.mono (fun k hk => hk.1), h.base.own.below hb⟩, h.lo, (hb.block _ (row_lt h.row)).trans h.row, h.nb, h1⟩
theorem DnS.push (h : DnS w tv T ov D W) {x : Mv × Bool} (ho : W'.ownsRow w.heap.size 55 7 v (D.length + 1) (flatE mcCells D ++ mcCells x)) (hg : W.grownBy W' ov.ownBlock) (ha : v.ownBlock = ov.ownBlock ∨ v.ownBlock = some W.heap.size) : DnS w tv T v (D ++ [x]) W' := by
  refine ⟨h.bel.grown hg h.bel.size (fun k e => (h.own.lt k e).1), ?_, OwnE.snoc rfl ho⟩
  have ht : Touch (fun j => ov.ownBlock = some j) W W' := Touch.of_grown hg (fun k e _ => e)
  refine (h.tree.lo.touch ht (fun k hk => hk.1.2)).mono fun k hk => ⟨hk.1.1, fun e => ?_⟩
  rcases ha with h1 | h1
  · exact hk.1.2 (h1 ▸ e)
  · rw [h1] at e; injection e with e; omega
theorem DnS.box (h : DnS w tv T ov D W) : DmS w tv T ov D W.heap.size y (W.alloc (.cells (mcCells y).toArray 55)) := by
  have hb : Below W.heap.size W (W.alloc (.cells (mcCells y).toArray 55)) := (Below.refl _ _).alloc (Nat.le_refl _) _
  exact ⟨h.below hb, h.bel.size, heap_alloc_new _ _, fun e => by have := (h.own.lt _ e).2; omega, (h.tree.lo.below hb).mono (fun k hk => ⟨hk.1, by omega⟩)⟩
end
/-- What Done answers. -/
def DoneP (L : List Mv) (w : World) (e : Ending) (w' : World) : Prop := ∃ at0 ct0 a0 c0 D, e = .returned (.tuple #[.slice at0 (doneT L).length ct0, .slice a0 L.length c0]) ∧ DnS w (.slice at0 (doneT L).length ct0) (doneT L) (.slice a0 L.length c0) D w' ∧ DnI L L.length D

set_option maxRecDepth 100000 in
set_option maxHeartbeats 8000000 in
theorem refDone_any (G : Nat → Prop) (v : Value) (L : List Mv) (w : World) (h : LsE mcCells 7 G w v (fl L)) (hl : L.length ≤ 4095) :
    Calls Try.prog 16 #[v] w fun e w' => DoneP L w e w' := by
  obtain ⟨imc, himc, hz0mc, hz1mc, hz2mc⟩ := info_parts infoMc
  obtain ⟨W1, eW1⟩ : ∃ X, X = w.alloc (.cells #[] 43) := ⟨_, rfl⟩
  have hb1 : Below w.heap.size w W1 := by rw [eW1]; exact (Below.refl _ _).alloc (Nat.le_refl _) _
  have hz1 : W1.heap.size = w.heap.size + 1 := by rw [eW1]; simp
  obtain ⟨W2, eW2⟩ : ∃ X, X = W1.alloc (.cells #[] 55) := ⟨_, rfl⟩
  have hb2 : Below W1.heap.size W1 W2 := by rw [eW2]; exact (Below.refl _ _).alloc (Nat.le_refl _) _
  have HD0 : Hid (DnS w (.slice (some ⟨w.heap.size, 0, none⟩) 0 0) (doneT (L.take 0)) (.slice (some ⟨w.heap.size + 1, 0, none⟩) 0 0) [] W2) := ⟨hb1.trans (hb2.mono hb1.size), LsE.nil _ _ _, by (have h9 := ownE_empty (enc := mcCells) (n := 7) (T := 55) W1 w.heap.size (by omega); rw [hz1, ← eW2] at h9; exact h9)⟩
  have HI0 : Hid (DnI L 0 []) := ⟨rfl, fun j x _ h => absurd h (Nat.not_lt_zero _)⟩
  have HeW0 : Hid (W2 = (w.alloc (.cells #[] 43)).alloc (.cells #[] 55)) := by (rw [eW2, eW1]; exact rfl)
  have HLs : Hid (LsE mcCells 7 G w v (fl L)) := h
  obtain ⟨a1, c1, e1⟩ := h.form
  rw [fl_length] at e1
  subst e1
  clear h hb1 hz1 hb2 eW1 eW2
  go_enter Try.func16, Try.ntmps16
  go_wp2
  rw [← HeW0.out]
  clear HeW0
  go_loopw [4, 5, 6] (fun tv ov iv wr => ∃ (i : Nat) (D : List (Mv × Bool)), iv = .int .i64 (i : Int) ∧ i ≤ L.length ∧ Hid (DnS w tv (doneT (L.take i)) ov D wr) ∧ Hid (DnI L i D)) (fun _ _ iv _ => L.length - (intOf iv).toNat)
  case atStart => exact ⟨0, [], rfl, Nat.zero_le _, HD0, HI0⟩
  case round =>
    clear HD0 HI0
    obtain ⟨i, D, rfl, hi, HD, HDi⟩ := hrel
    obtain ⟨a0, c0, e0⟩ := HD.out.own.form
    subst e0
    obtain ⟨at0, ct0, e0⟩ := HD.out.tree.form
    subst e0
    have hDl : D.length ≤ 4096 := by rw [HDi.out.1]; omega
    by_cases hil : i < L.length
    · have HG : Hid (GoodT (doneT (L.take i))) := goodT _
      have HTl : Hid ((doneT (L.take i)).length ≤ 4095) := by (show _ ≤ _; have h1 := doneT_length (L.take i); have h2 := List.length_take_le i L; omega)
      obtain ⟨b, o, cap, ev, hcap, hgb, hlt, hrow⟩ := (HLs.out.below HD.out.bel).at (i := i) (by rw [fl_length]; exact hil)
      injection ev with ev1 ev2 ev3
      subst ev1
      subst ev3
      rw [fl_get hil] at hrow
      obtain ⟨x, ex⟩ : ∃ x, x = L[i] := ⟨_, rfl⟩
      rw [← ex] at hrow
      have HXe : Hid (x = L[i]) := ex
      have HXi : Hid (L[i]? = some x) := by (show _ = _; rw [List.getElem?_eq_getElem hil, ex])
      have HUl : Hid ((upL (doneT (L.take i)) x.pr).length ≤ 8796093022208) := by (show _ ≤ _; have h1 := (HG.out.acy.up x.pr).short; have h2 := HTl.out; omega)
      have HSl : Hid ((setT (doneT (L.take i)) (plOf x)).length ≤ 8796093022208) := by (show _ ≤ _; have h1 := setT_length HG.out.srt (plOf x); have h2 := HTl.out; omega)
      have x0 : wr.cell? ⟨b, o + i * 7, none⟩ = some ((.int .i64 x.ts.1)) := hrow 0 _ rfl
      have x1 : wr.cell? ⟨b, o + i * 7 + 1, none⟩ = some ((.int .i64 x.ts.2)) := hrow 1 _ rfl
      have x2 : wr.cell? ⟨b, o + i * 7 + 2, none⟩ = some ((.int .i64 x.nd.1)) := hrow 2 _ rfl
      have x3 : wr.cell? ⟨b, o + i * 7 + 3, none⟩ = some ((.int .i64 x.nd.2)) := hrow 3 _ rfl
      have x4 : wr.cell? ⟨b, o + i * 7 + 4, none⟩ = some ((.int .i64 x.pr.1)) := hrow 4 _ rfl
      have x5 : wr.cell? ⟨b, o + i * 7 + 5, none⟩ = some ((.int .i64 x.pr.2)) := hrow 5 _ rfl
      have x6 : wr.cell? ⟨b, o + i * 7 + 6, none⟩ = some (.bool false) := hrow 6 _ rfl
      obtain ⟨wm, ewm⟩ : ∃ X, X = wr.alloc (.cells (mcCells (x, false)).toArray 55) := ⟨_, rfl⟩
      obtain ⟨mb, emb⟩ : ∃ b, b = wr.heap.size := ⟨_, rfl⟩
      have HM : Hid (DmS w (.slice at0 (doneT (L.take i)).length ct0) (doneT (L.take i)) (.slice a0 D.length c0) D mb (x, false) wm) := by (rw [ewm, emb]; exact HD.out.box)
      have HeW : Hid (wm = wr.alloc (.cells #[.int .i64 x.ts.1, .int .i64 x.ts.2, .int .i64 x.nd.1, .int .i64 x.nd.2, .int .i64 x.pr.1, .int .i64 x.pr.2, .bool false] 55)) := ewm
      have HeB : Hid (mb = wr.heap.size) := emb
      have k1 : (i : Int) < (L.length : Int) := by omega
      have k0 : (0 : Int) ≤ (i : Int) := by omega
      clear ex hrow hlt hgb hcap ev2 ewm emb HD HLs
      by_cases hxy : x.nd = x.pr
      · have HXY : Hid (x.nd = x.pr) := hxy
        clear hxy
        have HCt : Hid (cntB (doneT (L.take i)) x = false) := by (show _ = _; unfold cntB; simp [HXY.out])
        have HNx : Hid (doneT (L.take (i + 1)) = (doneT (L.take i))) := by (show _ = _; rw [doneT_next L i hil, ← HXe.out]; unfold doM; rw [HCt.out]; rfl)
        have HDx : Hid (DnI L (i + 1) (D ++ [(x, false)])) := HDi.out.next HXi.out HCt.out
        go_wp2_with fail
        rw [← HeW.out, ← HeB.out]
        clear HeW HeB x0 x1 x2 x3 x4 x5 x6
        refine wp_region_held_drew (S := fun W' => ∃ cc, W'.heap[mb]? = some (.cells (mcCells (x, cc)).toArray 55)) (by kernel_rfl) ⟨_, (HM.out.below (Below.refl _ _).drew).row⟩ (fun hHeld => ?_)
        obtain ⟨Ua1u0, eW⟩ : ∃ X, X = wm.drew := ⟨_, rfl⟩
        have hb : Below wm.heap.size wm Ua1u0 := by rw [eW]; exact (Below.refl _ _).drew
        replace HM : Hid (DmS w (.slice at0 (doneT (L.take i)).length ct0) (doneT (L.take i)) (.slice a0 D.length c0) D mb (x, false) Ua1u0) := HM.out.below hb
        rw [← eW] at hHeld ⊢
        clear eW hb
        refine tkW 0 (some 20) (v := ?_) ?_ hHeld ?_
        rotate_left
        · (intro ww _; go_simp; try with_reducible rfl)
        refine tkW 1 (some 21) (v := ?_) ?_ hHeld ?_
        rotate_left
        · (intro ww hSw; (try dsimp only at hSw); obtain ⟨cc, hS⟩ := hSw; have m2 : ww.cell? ⟨mb, 2, none⟩ = some (.int .i64 x.nd.1) := cellD hS 2 _ rfl; have m3 : ww.cell? ⟨mb, 3, none⟩ = some (.int .i64 x.nd.2) := cellD hS 3 _ rfl; have m4 : ww.cell? ⟨mb, 4, none⟩ = some (.int .i64 x.pr.1) := cellD hS 4 _ rfl; have m5 : ww.cell? ⟨mb, 5, none⟩ = some (.int .i64 x.pr.2) := cellD hS 5 _ rfl; go_simp; try with_reducible rfl)
        refine tkW 2 (some 22) (v := ?_) ?_ hHeld ?_
        rotate_left
        · (intro ww _; go_simp; try with_reducible rfl)
        refine tkW 3 (some 23) (v := ?_) ?_ hHeld ?_
        rotate_left
        · (intro ww hSw; (try dsimp only at hSw); obtain ⟨cc, hS⟩ := hSw; have m2 : ww.cell? ⟨mb, 2, none⟩ = some (.int .i64 x.nd.1) := cellD hS 2 _ rfl; have m3 : ww.cell? ⟨mb, 3, none⟩ = some (.int .i64 x.nd.2) := cellD hS 3 _ rfl; have m4 : ww.cell? ⟨mb, 4, none⟩ = some (.int .i64 x.pr.1) := cellD hS 4 _ rfl; have m5 : ww.cell? ⟨mb, 5, none⟩ = some (.int .i64 x.pr.2) := cellD hS 5 _ rfl; go_simp; try with_reducible rfl)
        refine tkW 4 (some 24) (v := .bool false) ?_ hHeld ?_
        · (intro ww hSw; (try dsimp only at hSw); obtain ⟨cc, hS⟩ := hSw; have m2 : ww.cell? ⟨mb, 2, none⟩ = some (.int .i64 x.nd.1) := cellD hS 2 _ rfl; have m3 : ww.cell? ⟨mb, 3, none⟩ = some (.int .i64 x.nd.2) := cellD hS 3 _ rfl; have m4 : ww.cell? ⟨mb, 4, none⟩ = some (.int .i64 x.pr.1) := cellD hS 4 _ rfl; have m5 : ww.cell? ⟨mb, 5, none⟩ = some (.int .i64 x.pr.2) := cellD hS 5 _ rfl; have e1 := congrArg Prod.fst HXY.out; have e2 := congrArg Prod.snd HXY.out; go_simp; (try simp [e1, e2]))
        refine tkW 5 (some 25) (v := ?_) ?_ hHeld ?_
        rotate_left
        · (intro ww _; go_simp; try with_reducible rfl)
        refine tkU 6 (some 26) hHeld ?_
        refine tkU 7 (some 27) hHeld ?_
        refine tkU 8 (some 28) hHeld ?_
        refine tkU 9 (some 29) hHeld ?_
        refine tkU 10 (some 30) hHeld ?_
        refine tkU 11 (some 31) hHeld ?_
        refine tkU 12 (some 32) hHeld ?_
        refine tkU 13 (some 33) hHeld ?_
        refine tkW 14 (some 34) (v := ?_) ?_ hHeld ?_
        rotate_left
        · (intro ww _; go_simp; try with_reducible rfl)
        refine tkW 15 (some 35) (v := ?_) ?_ hHeld ?_
        rotate_left
        · (intro ww _; go_simp; try with_reducible rfl)
        refine wpAnyH_ready (rs := [16]) (by kernel_rfl) (by simp) ?_
        refine AllReadyH.cons (o := ⟨none, _, _, _, _, _⟩) rfl (fun K hK => ?_) AllReadyH.nil
        have m6 := cellD HM.out.row 6 _ rfl
        have z6 := HM.out.z 6
        obtain ⟨Ua1u1, eW⟩ : ∃ X, X = Ua1u0.setCell ⟨mb, 6, none⟩ (.bool false) := ⟨_, rfl⟩
        have hM9 : DmS w (.slice at0 (doneT (L.take i)).length ct0) (doneT (L.take i)) (.slice a0 D.length c0) D mb (x, false) Ua1u1 := by (rw [eW]; exact HM.out.cnt false)
        go_simp
        rw [← eW]
        refine hK.out _ _ (⟨_, hM9.row⟩) (fun hHeld2 => ?_)
        clear hK K hHeld
        have hHeld := hHeld2
        clear hHeld2
        (try simp only [Act.put, List.setIfInBounds_toArray, List.set_cons_zero, List.set_cons_succ])
        replace HM : Hid (DmS w (.slice at0 (doneT (L.take i)).length ct0) (doneT (L.take i)) (.slice a0 D.length c0) D mb (x, false) Ua1u1) := hM9
        clear hM9 eW m6 z6
        refine wpAnyH_done (by kernel_rfl) ?_ _
        clear hHeld
        have m0 : Ua1u1.cell? ⟨mb, 0, none⟩ = some (.int .i64 x.ts.1) := cellD HM.out.row 0 _ rfl
        have m1 : Ua1u1.cell? ⟨mb, 1, none⟩ = some (.int .i64 x.ts.2) := cellD HM.out.row 1 _ rfl
        have m2 : Ua1u1.cell? ⟨mb, 2, none⟩ = some (.int .i64 x.nd.1) := cellD HM.out.row 2 _ rfl
        have m3 : Ua1u1.cell? ⟨mb, 3, none⟩ = some (.int .i64 x.nd.2) := cellD HM.out.row 3 _ rfl
        have m4 : Ua1u1.cell? ⟨mb, 4, none⟩ = some (.int .i64 x.pr.1) := cellD HM.out.row 4 _ rfl
        have m5 : Ua1u1.cell? ⟨mb, 5, none⟩ = some (.int .i64 x.pr.2) := cellD HM.out.row 5 _ rfl
        have m6 : Ua1u1.cell? ⟨mb, 6, none⟩ = some (.bool false) := cellD HM.out.row 6 _ rfl
        have hal : Below Ua1u1.heap.size Ua1u1 (Ua1u1.alloc (.cells #[.int .i64 x.ts.1, .int .i64 x.ts.2, .int .i64 x.nd.1, .int .i64 x.nd.2, .int .i64 x.pr.1, .int .i64 x.pr.2, .bool false] 55)) := (Below.refl _ _).alloc (Nat.le_refl _) _
        have HMa : Hid (DmS w (.slice at0 (doneT (L.take i)).length ct0) (doneT (L.take i)) (.slice a0 D.length c0) D mb (x, false) (Ua1u1.alloc (.cells #[.int .i64 x.ts.1, .int .i64 x.ts.2, .int .i64 x.nd.1, .int .i64 x.nd.2, .int .i64 x.pr.1, .int .i64 x.pr.2, .bool false] 55))) := HM.out.below hal
        have HNw : Hid (∀ j u, ([.int .i64 x.ts.1, .int .i64 x.ts.2, .int .i64 x.nd.1, .int .i64 x.nd.2, .int .i64 x.pr.1, .int .i64 x.pr.2, .bool false] : List Value)[j]? = some u → (Ua1u1.alloc (.cells #[.int .i64 x.ts.1, .int .i64 x.ts.2, .int .i64 x.nd.1, .int .i64 x.nd.2, .int .i64 x.pr.1, .int .i64 x.pr.2, .bool false] 55)).cell? ((⟨Ua1u1.heap.size, 0, none⟩ : Addr).add j) = some u) := fun j u hj => (by rw [Addr.add_lit, cell_of_row _ _ _ _ _ _ (heap_alloc_new Ua1u1 _)]; simpa using hj)
        have hsz : w.heap.size ≤ (Ua1u1.alloc (.cells #[.int .i64 x.ts.1, .int .i64 x.ts.2, .int .i64 x.nd.1, .int .i64 x.nd.2, .int .i64 x.pr.1, .int .i64 x.pr.2, .bool false] 55)).heap.size := HMa.out.base.bel.size
        clear hal
        go_wp2_with (at_builtin; refine wpList_append_own_at _ rfl _ _ 25 rfl w.heap.size 55 imc (.agg #[.int .i64 0, .int .i64 0, .int .i64 0, .int .i64 0, .int .i64 0, .int .i64 0, .bool false]) 7 56 Try.underlying25 himc hz0mc hz1mc hz2mc rfl (by decide) _ _ _ rfl HMa.out.base.own ⟨Ua1u1.heap.size, 0, none⟩ 1 1 [.int .i64 x.ts.1, .int .i64 x.ts.2, .int .i64 x.nd.1, .int .i64 x.nd.2, .int .i64 x.pr.1, .int .i64 x.pr.2, .bool false] rfl rfl HNw.out (mcCells_one (x, false)) (by unfold maxLen; omega) (by omega) hsz ?_; intro v3 w8 hown3 hgrow3 hnil3 hat3; obtain ⟨g3, c3, e3⟩ := own_succ hown3; subst e3; have HD8 : Hid (DnS w (.slice at0 (doneT (L.take i)).length ct0) (doneT (L.take i)) (.slice (some ⟨g3, 0, none⟩) (D.length + 1) c3) (D ++ [(x, false)]) w8) := HMa.out.base.push hown3 hgrow3 hat3; clear hown3 hgrow3 hnil3 hat3 HMa HNw hsz; clear m0 m1 m2 m3 m4 m5 m6)
        go_roundw
        case rel => exact ⟨i + 1, _, by go_num, by omega, by (rw [HNx.out]; exact HD8), HDx⟩
        case measure => simp [intOf]; omega
      · have HXY : Hid (x.nd ≠ x.pr) := hxy
        clear hxy
        by_cases hr : x.nd ∈ upL (doneT (L.take i)) x.pr
        · have HCt : Hid (cntB (doneT (L.take i)) x = false) := by (show _ = _; unfold cntB; simp [HXY.out, hr])
          have HNx : Hid (doneT (L.take (i + 1)) = (doneT (L.take i))) := by (show _ = _; rw [doneT_next L i hil, ← HXe.out]; unfold doM; rw [HCt.out]; rfl)
          have HDx : Hid (DnI L (i + 1) (D ++ [(x, false)])) := HDi.out.next HXi.out HCt.out
          have HRg : Hid (decide ((x.nd.1, x.nd.2) ∈ upL (doneT (L.take i)) x.pr) = true) := decide_eq_true hr
          clear hr
          go_wp2_with fail
          rw [← HeW.out, ← HeB.out]
          clear HeW HeB x0 x1 x2 x3 x4 x5 x6
          refine wp_region_held_drew (S := fun W' => ∃ cc, W'.heap[mb]? = some (.cells (mcCells (x, cc)).toArray 55)) (by kernel_rfl) ⟨_, (HM.out.below (Below.refl _ _).drew).row⟩ (fun hHeld => ?_)
          obtain ⟨Ua2u0, eW⟩ : ∃ X, X = wm.drew := ⟨_, rfl⟩
          have hb : Below wm.heap.size wm Ua2u0 := by rw [eW]; exact (Below.refl _ _).drew
          replace HM : Hid (DmS w (.slice at0 (doneT (L.take i)).length ct0) (doneT (L.take i)) (.slice a0 D.length c0) D mb (x, false) Ua2u0) := HM.out.below hb
          rw [← eW] at hHeld ⊢
          clear eW hb
          refine tkW 0 (some 20) (v := ?_) ?_ hHeld ?_
          rotate_left
          · (intro ww _; go_simp; try with_reducible rfl)
          refine tkW 1 (some 21) (v := ?_) ?_ hHeld ?_
          rotate_left
          · (intro ww hSw; (try dsimp only at hSw); obtain ⟨cc, hS⟩ := hSw; have m2 : ww.cell? ⟨mb, 2, none⟩ = some (.int .i64 x.nd.1) := cellD hS 2 _ rfl; have m3 : ww.cell? ⟨mb, 3, none⟩ = some (.int .i64 x.nd.2) := cellD hS 3 _ rfl; have m4 : ww.cell? ⟨mb, 4, none⟩ = some (.int .i64 x.pr.1) := cellD hS 4 _ rfl; have m5 : ww.cell? ⟨mb, 5, none⟩ = some (.int .i64 x.pr.2) := cellD hS 5 _ rfl; go_simp; try with_reducible rfl)
          refine tkW 2 (some 22) (v := ?_) ?_ hHeld ?_
          rotate_left
          · (intro ww _; go_simp; try with_reducible rfl)
          refine tkW 3 (some 23) (v := ?_) ?_ hHeld ?_
          rotate_left
          · (intro ww hSw; (try dsimp only at hSw); obtain ⟨cc, hS⟩ := hSw; have m2 : ww.cell? ⟨mb, 2, none⟩ = some (.int .i64 x.nd.1) := cellD hS 2 _ rfl; have m3 : ww.cell? ⟨mb, 3, none⟩ = some (.int .i64 x.nd.2) := cellD hS 3 _ rfl; have m4 : ww.cell? ⟨mb, 4, none⟩ = some (.int .i64 x.pr.1) := cellD hS 4 _ rfl; have m5 : ww.cell? ⟨mb, 5, none⟩ = some (.int .i64 x.pr.2) := cellD hS 5 _ rfl; go_simp; try with_reducible rfl)
          refine tkW 4 (some 24) (v := .bool true) ?_ hHeld ?_
          · (intro ww hSw; (try dsimp only at hSw); obtain ⟨cc, hS⟩ := hSw; have m2 : ww.cell? ⟨mb, 2, none⟩ = some (.int .i64 x.nd.1) := cellD hS 2 _ rfl; have m3 : ww.cell? ⟨mb, 3, none⟩ = some (.int .i64 x.nd.2) := cellD hS 3 _ rfl; have m4 : ww.cell? ⟨mb, 4, none⟩ = some (.int .i64 x.pr.1) := cellD hS 4 _ rfl; have m5 : ww.cell? ⟨mb, 5, none⟩ = some (.int .i64 x.pr.2) := cellD hS 5 _ rfl; go_simp; by_cases e1 : x.nd.1 = x.pr.1 <;> by_cases e2 : x.nd.2 = x.pr.2 <;> first | exact absurd (Prod.ext e1 e2) HXY.out | simp [e1, e2])
          refine tkW 5 (some 25) (v := ?_) ?_ hHeld ?_
          rotate_left
          · (intro ww _; go_simp; try with_reducible rfl)
          refine tkW 6 (some 26) (v := ?_) ?_ hHeld ?_
          rotate_left
          · (intro ww _; go_simp; try with_reducible rfl)
          refine tkW 7 (some 27) (v := ?_) ?_ hHeld ?_
          rotate_left
          · (intro ww _; go_simp; try with_reducible rfl)
          refine tkW 8 (some 28) (v := ?_) ?_ hHeld ?_
          rotate_left
          · (intro ww hSw; (try dsimp only at hSw); obtain ⟨cc, hS⟩ := hSw; have m2 : ww.cell? ⟨mb, 2, none⟩ = some (.int .i64 x.nd.1) := cellD hS 2 _ rfl; have m3 : ww.cell? ⟨mb, 3, none⟩ = some (.int .i64 x.nd.2) := cellD hS 3 _ rfl; have m4 : ww.cell? ⟨mb, 4, none⟩ = some (.int .i64 x.pr.1) := cellD hS 4 _ rfl; have m5 : ww.cell? ⟨mb, 5, none⟩ = some (.int .i64 x.pr.2) := cellD hS 5 _ rfl; go_simp; try with_reducible rfl)
          refine tkW 10 (some 30) (v := ?_) ?_ hHeld ?_
          rotate_left
          · (intro ww _; go_simp; try with_reducible rfl)
          refine tkW 11 (some 31) (v := ?_) ?_ hHeld ?_
          rotate_left
          · (intro ww hSw; (try dsimp only at hSw); obtain ⟨cc, hS⟩ := hSw; have m2 : ww.cell? ⟨mb, 2, none⟩ = some (.int .i64 x.nd.1) := cellD hS 2 _ rfl; have m3 : ww.cell? ⟨mb, 3, none⟩ = some (.int .i64 x.nd.2) := cellD hS 3 _ rfl; have m4 : ww.cell? ⟨mb, 4, none⟩ = some (.int .i64 x.pr.1) := cellD hS 4 _ rfl; have m5 : ww.cell? ⟨mb, 5, none⟩ = some (.int .i64 x.pr.2) := cellD hS 5 _ rfl; go_simp; try with_reducible rfl)
          refine wpAnyH_ready (rs := [9]) (by kernel_rfl) (by simp) ?_
          refine AllReadyH.cons (o := ⟨some 29, _, _, _, _, _⟩) rfl (fun K hK => ?_) AllReadyH.nil
          go_simp
          refine (refAbove_any _ (.slice at0 (doneT (L.take i)).length ct0) (doneT (L.take i)) x.pr _ HM.out.nt HG.out (by have := HTl.out; omega)).mono ?_
          rintro e Ua2u1 ⟨v6, rfl, ho, hb⟩
          (try go_wp2_with fail)
          replace HM : Hid (DmS w (.slice at0 (doneT (L.take i)).length ct0) (doneT (L.take i)) (.slice a0 D.length c0) D mb (x, false) Ua2u1) := HM.out.below hb
          have HUp : Hid (S.IsS Ua2u1 v6 (upL (doneT (L.take i)) x.pr)) := ho.stS2.isS HUl.out
          clear ho hb
          refine hK.out _ _ (⟨_, HM.out.row⟩) (fun hHeld2 => ?_)
          clear hK K hHeld
          have hHeld := hHeld2
          clear hHeld2
          (try simp only [Act.put, List.setIfInBounds_toArray, List.set_cons_zero, List.set_cons_succ])
          refine wpAnyH_ready (rs := [12]) (by kernel_rfl) (by simp) ?_
          refine AllReadyH.cons (o := ⟨some 32, _, _, _, _, _⟩) rfl (fun K hK => ?_) AllReadyH.nil
          go_simp
          refine (S.has_any v6 (upL (doneT (L.take i)) x.pr) x.nd.1 x.nd.2 _ HUp.out).mono ?_
          rintro e Ua2u2 ⟨rfl, hb⟩
          (try go_wp2_with fail)
          rw [show decide ((x.nd.1, x.nd.2) ∈ upL (doneT (L.take i)) x.pr) = true from HRg.out]
          replace HM : Hid (DmS w (.slice at0 (doneT (L.take i)).length ct0) (doneT (L.take i)) (.slice a0 D.length c0) D mb (x, false) Ua2u2) := HM.out.below hb
          clear hb HUp
          refine hK.out _ _ (⟨_, HM.out.row⟩) (fun hHeld2 => ?_)
          clear hK K hHeld
          have hHeld := hHeld2
          clear hHeld2
          (try simp only [Act.put, List.setIfInBounds_toArray, List.set_cons_zero, List.set_cons_succ])
          refine tkW 13 (some 33) (v := ?_) ?_ hHeld ?_
          rotate_left
          · (intro ww _; go_simp; try with_reducible rfl)
          refine tkW 14 (some 34) (v := ?_) ?_ hHeld ?_
          rotate_left
          · (intro ww _; go_simp; try with_reducible rfl)
          refine tkW 15 (some 35) (v := ?_) ?_ hHeld ?_
          rotate_left
          · (intro ww _; go_simp; try with_reducible rfl)
          refine wpAnyH_ready (rs := [16]) (by kernel_rfl) (by simp) ?_
          refine AllReadyH.cons (o := ⟨none, _, _, _, _, _⟩) rfl (fun K hK => ?_) AllReadyH.nil
          have m6 := cellD HM.out.row 6 _ rfl
          have z6 := HM.out.z 6
          obtain ⟨Ua2u3, eW⟩ : ∃ X, X = Ua2u2.setCell ⟨mb, 6, none⟩ (.bool false) := ⟨_, rfl⟩
          have hM9 : DmS w (.slice at0 (doneT (L.take i)).length ct0) (doneT (L.take i)) (.slice a0 D.length c0) D mb (x, false) Ua2u3 := by (rw [eW]; exact HM.out.cnt false)
          go_simp
          rw [← eW]
          refine hK.out _ _ (⟨_, hM9.row⟩) (fun hHeld2 => ?_)
          clear hK K hHeld
          have hHeld := hHeld2
          clear hHeld2
          (try simp only [Act.put, List.setIfInBounds_toArray, List.set_cons_zero, List.set_cons_succ])
          replace HM : Hid (DmS w (.slice at0 (doneT (L.take i)).length ct0) (doneT (L.take i)) (.slice a0 D.length c0) D mb (x, false) Ua2u3) := hM9
          clear hM9 eW m6 z6
          refine wpAnyH_done (by kernel_rfl) ?_ _
          clear hHeld
          have m0 : Ua2u3.cell? ⟨mb, 0, none⟩ = some (.int .i64 x.ts.1) := cellD HM.out.row 0 _ rfl
          have m1 : Ua2u3.cell? ⟨mb, 1, none⟩ = some (.int .i64 x.ts.2) := cellD HM.out.row 1 _ rfl
          have m2 : Ua2u3.cell? ⟨mb, 2, none⟩ = some (.int .i64 x.nd.1) := cellD HM.out.row 2 _ rfl
          have m3 : Ua2u3.cell? ⟨mb, 3, none⟩ = some (.int .i64 x.nd.2) := cellD HM.out.row 3 _ rfl
          have m4 : Ua2u3.cell? ⟨mb, 4, none⟩ = some (.int .i64 x.pr.1) := cellD HM.out.row 4 _ rfl
          have m5 : Ua2u3.cell? ⟨mb, 5, none⟩ = some (.int .i64 x.pr.2) := cellD HM.out.row 5 _ rfl
          have m6 : Ua2u3.cell? ⟨mb, 6, none⟩ = some (.bool false) := cellD HM.out.row 6 _ rfl
          have hal : Below Ua2u3.heap.size Ua2u3 (Ua2u3.alloc (.cells #[.int .i64 x.ts.1, .int .i64 x.ts.2, .int .i64 x.nd.1, .int .i64 x.nd.2, .int .i64 x.pr.1, .int .i64 x.pr.2, .bool false] 55)) := (Below.refl _ _).alloc (Nat.le_refl _) _
          have HMa : Hid (DmS w (.slice at0 (doneT (L.take i)).length ct0) (doneT (L.take i)) (.slice a0 D.length c0) D mb (x, false) (Ua2u3.alloc (.cells #[.int .i64 x.ts.1, .int .i64 x.ts.2, .int .i64 x.nd.1, .int .i64 x.nd.2, .int .i64 x.pr.1, .int .i64 x.pr.2, .bool false] 55))) := HM.out.below hal
          have HNw : Hid (∀ j u, ([.int .i64 x.ts.1, .int .i64 x.ts.2, .int .i64 x.nd.1, .int .i64 x.nd.2, .int .i64 x.pr.1, .int .i64 x.pr.2, .bool false] : List Value)[j]? = some u → (Ua2u3.alloc (.cells #[.int .i64 x.ts.1, .int .i64 x.ts.2, .int .i64 x.nd.1, .int .i64 x.nd.2, .int .i64 x.pr.1, .int .i64 x.pr.2, .bool false] 55)).cell? ((⟨Ua2u3.heap.size, 0, none⟩ : Addr).add j) = some u) := fun j u hj => (by rw [Addr.add_lit, cell_of_row _ _ _ _ _ _ (heap_alloc_new Ua2u3 _)]; simpa using hj)
          have hsz : w.heap.size ≤ (Ua2u3.alloc (.cells #[.int .i64 x.ts.1, .int .i64 x.ts.2, .int .i64 x.nd.1, .int .i64 x.nd.2, .int .i64 x.pr.1, .int .i64 x.pr.2, .bool false] 55)).heap.size := HMa.out.base.bel.size
          clear hal
          go_wp2_with (at_builtin; refine wpList_append_own_at _ rfl _ _ 25 rfl w.heap.size 55 imc (.agg #[.int .i64 0, .int .i64 0, .int .i64 0, .int .i64 0, .int .i64 0, .int .i64 0, .bool false]) 7 56 Try.underlying25 himc hz0mc hz1mc hz2mc rfl (by decide) _ _ _ rfl HMa.out.base.own ⟨Ua2u3.heap.size, 0, none⟩ 1 1 [.int .i64 x.ts.1, .int .i64 x.ts.2, .int .i64 x.nd.1, .int .i64 x.nd.2, .int .i64 x.pr.1, .int .i64 x.pr.2, .bool false] rfl rfl HNw.out (mcCells_one (x, false)) (by unfold maxLen; omega) (by omega) hsz ?_; intro v3 w8 hown3 hgrow3 hnil3 hat3; obtain ⟨g3, c3, e3⟩ := own_succ hown3; subst e3; have HD8 : Hid (DnS w (.slice at0 (doneT (L.take i)).length ct0) (doneT (L.take i)) (.slice (some ⟨g3, 0, none⟩) (D.length + 1) c3) (D ++ [(x, false)]) w8) := HMa.out.base.push hown3 hgrow3 hat3; clear hown3 hgrow3 hnil3 hat3 HMa HNw hsz; clear m0 m1 m2 m3 m4 m5 m6)
          go_roundw
          case rel => exact ⟨i + 1, _, by go_num, by omega, by (rw [HNx.out]; exact HD8), HDx⟩
          case measure => simp [intOf]; omega
        · have HCt : Hid (cntB (doneT (L.take i)) x = true) := by (show _ = _; unfold cntB; simp [HXY.out, hr])
          have HNx : Hid (doneT (L.take (i + 1)) = setT (doneT (L.take i)) (plOf x)) := by (show _ = _; rw [doneT_next L i hil, ← HXe.out]; unfold doM; rw [HCt.out]; rfl)
          have HDx : Hid (DnI L (i + 1) (D ++ [(x, true)])) := HDi.out.next HXi.out HCt.out
          have HRg : Hid (decide ((x.nd.1, x.nd.2) ∈ upL (doneT (L.take i)) x.pr) = false) := decide_eq_false hr
          clear hr
          go_wp2_with fail
          rw [← HeW.out, ← HeB.out]
          clear HeW HeB x0 x1 x2 x3 x4 x5 x6
          refine wp_region_held_drew (S := fun W' => ∃ cc, W'.heap[mb]? = some (.cells (mcCells (x, cc)).toArray 55)) (by kernel_rfl) ⟨_, (HM.out.below (Below.refl _ _).drew).row⟩ (fun hHeld => ?_)
          obtain ⟨Ua3u0, eW⟩ : ∃ X, X = wm.drew := ⟨_, rfl⟩
          have hb : Below wm.heap.size wm Ua3u0 := by rw [eW]; exact (Below.refl _ _).drew
          replace HM : Hid (DmS w (.slice at0 (doneT (L.take i)).length ct0) (doneT (L.take i)) (.slice a0 D.length c0) D mb (x, false) Ua3u0) := HM.out.below hb
          rw [← eW] at hHeld ⊢
          clear eW hb
          refine tkW 0 (some 20) (v := ?_) ?_ hHeld ?_
          rotate_left
          · (intro ww _; go_simp; try with_reducible rfl)
          refine tkW 1 (some 21) (v := ?_) ?_ hHeld ?_
          rotate_left
          · (intro ww hSw; (try dsimp only at hSw); obtain ⟨cc, hS⟩ := hSw; have m2 : ww.cell? ⟨mb, 2, none⟩ = some (.int .i64 x.nd.1) := cellD hS 2 _ rfl; have m3 : ww.cell? ⟨mb, 3, none⟩ = some (.int .i64 x.nd.2) := cellD hS 3 _ rfl; have m4 : ww.cell? ⟨mb, 4, none⟩ = some (.int .i64 x.pr.1) := cellD hS 4 _ rfl; have m5 : ww.cell? ⟨mb, 5, none⟩ = some (.int .i64 x.pr.2) := cellD hS 5 _ rfl; go_simp; try with_reducible rfl)
          refine tkW 2 (some 22) (v := ?_) ?_ hHeld ?_
          rotate_left
          · (intro ww _; go_simp; try with_reducible rfl)
          refine tkW 3 (some 23) (v := ?_) ?_ hHeld ?_
          rotate_left
          · (intro ww hSw; (try dsimp only at hSw); obtain ⟨cc, hS⟩ := hSw; have m2 : ww.cell? ⟨mb, 2, none⟩ = some (.int .i64 x.nd.1) := cellD hS 2 _ rfl; have m3 : ww.cell? ⟨mb, 3, none⟩ = some (.int .i64 x.nd.2) := cellD hS 3 _ rfl; have m4 : ww.cell? ⟨mb, 4, none⟩ = some (.int .i64 x.pr.1) := cellD hS 4 _ rfl; have m5 : ww.cell? ⟨mb, 5, none⟩ = some (.int .i64 x.pr.2) := cellD hS 5 _ rfl; go_simp; try with_reducible rfl)
          refine tkW 4 (some 24) (v := .bool true) ?_ hHeld ?_
          · (intro ww hSw; (try dsimp only at hSw); obtain ⟨cc, hS⟩ := hSw; have m2 : ww.cell? ⟨mb, 2, none⟩ = some (.int .i64 x.nd.1) := cellD hS 2 _ rfl; have m3 : ww.cell? ⟨mb, 3, none⟩ = some (.int .i64 x.nd.2) := cellD hS 3 _ rfl; have m4 : ww.cell? ⟨mb, 4, none⟩ = some (.int .i64 x.pr.1) := cellD hS 4 _ rfl; have m5 : ww.cell? ⟨mb, 5, none⟩ = some (.int .i64 x.pr.2) := cellD hS 5 _ rfl; go_simp; by_cases e1 : x.nd.1 = x.pr.1 <;> by_cases e2 : x.nd.2 = x.pr.2 <;> first | exact absurd (Prod.ext e1 e2) HXY.out | simp [e1, e2])
          refine tkW 5 (some 25) (v := ?_) ?_ hHeld ?_
          rotate_left
          · (intro ww _; go_simp; try with_reducible rfl)
          refine tkW 6 (some 26) (v := ?_) ?_ hHeld ?_
          rotate_left
          · (intro ww _; go_simp; try with_reducible rfl)
          refine tkW 7 (some 27) (v := ?_) ?_ hHeld ?_
          rotate_left
          · (intro ww _; go_simp; try with_reducible rfl)
          refine tkW 8 (some 28) (v := ?_) ?_ hHeld ?_
          rotate_left
          · (intro ww hSw; (try dsimp only at hSw); obtain ⟨cc, hS⟩ := hSw; have m2 : ww.cell? ⟨mb, 2, none⟩ = some (.int .i64 x.nd.1) := cellD hS 2 _ rfl; have m3 : ww.cell? ⟨mb, 3, none⟩ = some (.int .i64 x.nd.2) := cellD hS 3 _ rfl; have m4 : ww.cell? ⟨mb, 4, none⟩ = some (.int .i64 x.pr.1) := cellD hS 4 _ rfl; have m5 : ww.cell? ⟨mb, 5, none⟩ = some (.int .i64 x.pr.2) := cellD hS 5 _ rfl; go_simp; try with_reducible rfl)
          refine tkW 10 (some 30) (v := ?_) ?_ hHeld ?_
          rotate_left
          · (intro ww _; go_simp; try with_reducible rfl)
          refine tkW 11 (some 31) (v := ?_) ?_ hHeld ?_
          rotate_left
          · (intro ww hSw; (try dsimp only at hSw); obtain ⟨cc, hS⟩ := hSw; have m2 : ww.cell? ⟨mb, 2, none⟩ = some (.int .i64 x.nd.1) := cellD hS 2 _ rfl; have m3 : ww.cell? ⟨mb, 3, none⟩ = some (.int .i64 x.nd.2) := cellD hS 3 _ rfl; have m4 : ww.cell? ⟨mb, 4, none⟩ = some (.int .i64 x.pr.1) := cellD hS 4 _ rfl; have m5 : ww.cell? ⟨mb, 5, none⟩ = some (.int .i64 x.pr.2) := cellD hS 5 _ rfl; go_simp; try with_reducible rfl)
          refine wpAnyH_ready (rs := [9]) (by kernel_rfl) (by simp) ?_
          refine AllReadyH.cons (o := ⟨some 29, _, _, _, _, _⟩) rfl (fun K hK => ?_) AllReadyH.nil
          go_simp
          refine (refAbove_any _ (.slice at0 (doneT (L.take i)).length ct0) (doneT (L.take i)) x.pr _ HM.out.nt HG.out (by have := HTl.out; omega)).mono ?_
          rintro e Ua3u1 ⟨v6, rfl, ho, hb⟩
          (try go_wp2_with fail)
          replace HM : Hid (DmS w (.slice at0 (doneT (L.take i)).length ct0) (doneT (L.take i)) (.slice a0 D.length c0) D mb (x, false) Ua3u1) := HM.out.below hb
          have HUp : Hid (S.IsS Ua3u1 v6 (upL (doneT (L.take i)) x.pr)) := ho.stS2.isS HUl.out
          clear ho hb
          refine hK.out _ _ (⟨_, HM.out.row⟩) (fun hHeld2 => ?_)
          clear hK K hHeld
          have hHeld := hHeld2
          clear hHeld2
          (try simp only [Act.put, List.setIfInBounds_toArray, List.set_cons_zero, List.set_cons_succ])
          refine wpAnyH_ready (rs := [12]) (by kernel_rfl) (by simp) ?_
          refine AllReadyH.cons (o := ⟨some 32, _, _, _, _, _⟩) rfl (fun K hK => ?_) AllReadyH.nil
          go_simp
          refine (S.has_any v6 (upL (doneT (L.take i)) x.pr) x.nd.1 x.nd.2 _ HUp.out).mono ?_
          rintro e Ua3u2 ⟨rfl, hb⟩
          (try go_wp2_with fail)
          rw [show decide ((x.nd.1, x.nd.2) ∈ upL (doneT (L.take i)) x.pr) = false from HRg.out]
          replace HM : Hid (DmS w (.slice at0 (doneT (L.take i)).length ct0) (doneT (L.take i)) (.slice a0 D.length c0) D mb (x, false) Ua3u2) := HM.out.below hb
          clear hb HUp
          refine hK.out _ _ (⟨_, HM.out.row⟩) (fun hHeld2 => ?_)
          clear hK K hHeld
          have hHeld := hHeld2
          clear hHeld2
          (try simp only [Act.put, List.setIfInBounds_toArray, List.set_cons_zero, List.set_cons_succ])
          refine tkW 13 (some 33) (v := ?_) ?_ hHeld ?_
          rotate_left
          · (intro ww _; go_simp; try with_reducible rfl)
          refine tkW 14 (some 34) (v := ?_) ?_ hHeld ?_
          rotate_left
          · (intro ww _; go_simp; try with_reducible rfl)
          refine tkW 15 (some 35) (v := ?_) ?_ hHeld ?_
          rotate_left
          · (intro ww _; go_simp; try with_reducible rfl)
          refine wpAnyH_ready (rs := [16]) (by kernel_rfl) (by simp) ?_
          refine AllReadyH.cons (o := ⟨none, _, _, _, _, _⟩) rfl (fun K hK => ?_) AllReadyH.nil
          have m6 := cellD HM.out.row 6 _ rfl
          have z6 := HM.out.z 6
          obtain ⟨Ua3u3, eW⟩ : ∃ X, X = Ua3u2.setCell ⟨mb, 6, none⟩ (.bool true) := ⟨_, rfl⟩
          have hM9 : DmS w (.slice at0 (doneT (L.take i)).length ct0) (doneT (L.take i)) (.slice a0 D.length c0) D mb (x, true) Ua3u3 := by (rw [eW]; exact HM.out.cnt true)
          go_simp
          rw [← eW]
          refine hK.out _ _ (⟨_, hM9.row⟩) (fun hHeld2 => ?_)
          clear hK K hHeld
          have hHeld := hHeld2
          clear hHeld2
          (try simp only [Act.put, List.setIfInBounds_toArray, List.set_cons_zero, List.set_cons_succ])
          replace HM : Hid (DmS w (.slice at0 (doneT (L.take i)).length ct0) (doneT (L.take i)) (.slice a0 D.length c0) D mb (x, true) Ua3u3) := hM9
          clear hM9 eW m6 z6
          refine wpAnyH_done (by kernel_rfl) ?_ _
          clear hHeld
          have m0 : Ua3u3.cell? ⟨mb, 0, none⟩ = some (.int .i64 x.ts.1) := cellD HM.out.row 0 _ rfl
          have m1 : Ua3u3.cell? ⟨mb, 1, none⟩ = some (.int .i64 x.ts.2) := cellD HM.out.row 1 _ rfl
          have m2 : Ua3u3.cell? ⟨mb, 2, none⟩ = some (.int .i64 x.nd.1) := cellD HM.out.row 2 _ rfl
          have m3 : Ua3u3.cell? ⟨mb, 3, none⟩ = some (.int .i64 x.nd.2) := cellD HM.out.row 3 _ rfl
          have m4 : Ua3u3.cell? ⟨mb, 4, none⟩ = some (.int .i64 x.pr.1) := cellD HM.out.row 4 _ rfl
          have m5 : Ua3u3.cell? ⟨mb, 5, none⟩ = some (.int .i64 x.pr.2) := cellD HM.out.row 5 _ rfl
          have m6 : Ua3u3.cell? ⟨mb, 6, none⟩ = some (.bool true) := cellD HM.out.row 6 _ rfl
          go_wp2_with fail
          clear m0 m1 m2 m3 m4 m5 m6
          refine (refSet_any _ (.slice at0 (doneT (L.take i)).length ct0) (doneT (L.take i)) (plOf x) _ HM.out.nt HG.out.srt (by have := HTl.out; omega)).mono ?_
          rintro e w6 ⟨tv6, rfl, ho, hb⟩
          obtain ⟨at6, ct6, e6⟩ := ho.form
          subst e6
          replace HM : Hid (DmS w (.slice at6 (setT (doneT (L.take i)) (plOf x)).length ct6) (setT (doneT (L.take i)) (plOf x)) (.slice a0 D.length c0) D mb (x, true) w6) := HM.out.set ho hb
          clear ho hb
          have m0 : w6.cell? ⟨mb, 0, none⟩ = some (.int .i64 x.ts.1) := cellD HM.out.row 0 _ rfl
          have m1 : w6.cell? ⟨mb, 1, none⟩ = some (.int .i64 x.ts.2) := cellD HM.out.row 1 _ rfl
          have m2 : w6.cell? ⟨mb, 2, none⟩ = some (.int .i64 x.nd.1) := cellD HM.out.row 2 _ rfl
          have m3 : w6.cell? ⟨mb, 3, none⟩ = some (.int .i64 x.nd.2) := cellD HM.out.row 3 _ rfl
          have m4 : w6.cell? ⟨mb, 4, none⟩ = some (.int .i64 x.pr.1) := cellD HM.out.row 4 _ rfl
          have m5 : w6.cell? ⟨mb, 5, none⟩ = some (.int .i64 x.pr.2) := cellD HM.out.row 5 _ rfl
          have m6 : w6.cell? ⟨mb, 6, none⟩ = some (.bool true) := cellD HM.out.row 6 _ rfl
          have hal : Below w6.heap.size w6 (w6.alloc (.cells #[.int .i64 x.ts.1, .int .i64 x.ts.2, .int .i64 x.nd.1, .int .i64 x.nd.2, .int .i64 x.pr.1, .int .i64 x.pr.2, .bool true] 55)) := (Below.refl _ _).alloc (Nat.le_refl _) _
          have HMa : Hid (DmS w (.slice at6 (setT (doneT (L.take i)) (plOf x)).length ct6) (setT (doneT (L.take i)) (plOf x)) (.slice a0 D.length c0) D mb (x, true) (w6.alloc (.cells #[.int .i64 x.ts.1, .int .i64 x.ts.2, .int .i64 x.nd.1, .int .i64 x.nd.2, .int .i64 x.pr.1, .int .i64 x.pr.2, .bool true] 55))) := HM.out.below hal
          have HNw : Hid (∀ j u, ([.int .i64 x.ts.1, .int .i64 x.ts.2, .int .i64 x.nd.1, .int .i64 x.nd.2, .int .i64 x.pr.1, .int .i64 x.pr.2, .bool true] : List Value)[j]? = some u → (w6.alloc (.cells #[.int .i64 x.ts.1, .int .i64 x.ts.2, .int .i64 x.nd.1, .int .i64 x.nd.2, .int .i64 x.pr.1, .int .i64 x.pr.2, .bool true] 55)).cell? ((⟨w6.heap.size, 0, none⟩ : Addr).add j) = some u) := fun j u hj => (by rw [Addr.add_lit, cell_of_row _ _ _ _ _ _ (heap_alloc_new w6 _)]; simpa using hj)
          have hsz : w.heap.size ≤ (w6.alloc (.cells #[.int .i64 x.ts.1, .int .i64 x.ts.2, .int .i64 x.nd.1, .int .i64 x.nd.2, .int .i64 x.pr.1, .int .i64 x.pr.2, .bool true] 55)).heap.size := HMa.out.base.bel.size
          clear hal
          go_wp2_with (at_builtin; refine wpList_append_own_at _ rfl _ _ 25 rfl w.heap.size 55 imc (.agg #[.int .i64 0, .int .i64 0, .int .i64 0, .int .i64 0, .int .i64 0, .int .i64 0, .bool false]) 7 56 Try.underlying25 himc hz0mc hz1mc hz2mc rfl (by decide) _ _ _ rfl HMa.out.base.own ⟨w6.heap.size, 0, none⟩ 1 1 [.int .i64 x.ts.1, .int .i64 x.ts.2, .int .i64 x.nd.1, .int .i64 x.nd.2, .int .i64 x.pr.1, .int .i64 x.pr.2, .bool true] rfl rfl HNw.out (mcCells_one (x, true)) (by unfold maxLen; omega) (by omega) hsz ?_; intro v3 w8 hown3 hgrow3 hnil3 hat3; obtain ⟨g3, c3, e3⟩ := own_succ hown3; subst e3; have HD8 : Hid (DnS w (.slice at6 (setT (doneT (L.take i)) (plOf x)).length ct6) (setT (doneT (L.take i)) (plOf x)) (.slice (some ⟨g3, 0, none⟩) (D.length + 1) c3) (D ++ [(x, true)]) w8) := HMa.out.base.push hown3 hgrow3 hat3; clear hown3 hgrow3 hnil3 hat3 HMa HNw hsz; clear m0 m1 m2 m3 m4 m5 m6)
          go_roundw
          case rel => exact ⟨i + 1, _, by go_num, by omega, by (rw [HNx.out]; exact HD8), HDx⟩
          case measure => simp [intOf]; omega
    · obtain rfl : i = L.length := by omega
      rw [List.take_length] at HD
      have hDL := HDi.out.1
      have HDL : Hid (D.length = L.length) := hDL
      clear hDL
      rw [HDL.out] at HD
      go_wp2
      go_ret2
      exact ⟨at0, ct0, a0, c0, D, by (simp only [List.take_length, HDL.out]; rfl), HD.out, HDi.out⟩

end Go.Proofs.Ytljepindfdhbbaa
