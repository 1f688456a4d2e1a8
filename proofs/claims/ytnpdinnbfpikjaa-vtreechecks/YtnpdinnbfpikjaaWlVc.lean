/- VtreeChecks: which trees are right. -/
import Derived.Test.YtnpdinnbfpikjaaVtV
import Derived.Test.YtnpdinnbfpikjaaVtL
import Derived.Test.YtnpdinnbfpikjaaVtU
import Derived.Test.YtnpdinnbfpikjaaVtJ
namespace Go.Proofs.Ytnpdinnbfpikjaa
open Go.RowKit
set_option linter.unusedVariables false
set_option linter.unusedSimpArgs false

/-- What stands in VtreeChecks. -/
structure CkL (w : World) (G F7 : Nat → Prop) (t : VT) (aa : Option Addr) (ca : Nat) (ak : Option Addr) (ck ob : Nat) (ya : Option Addr) (cy : Nat) (yk : Option Addr) (dy : Nat) (W : World) : Prop where
  b1 : W.heap[w.heap.size]? = some (.cells #[.int .i64 t.k.1, .int .i64 t.k.2, .string t.tg, .string t.tx, .slice aa t.at_.length ca, .slice ak t.ks.length ck] 27)
  b2 : W.heap[ob]? = some (.cells #[.int .i64 t.k.1, .int .i64 t.k.2, .string t.tg, .string t.tx, .slice ya t.at_.length cy, .slice yk t.ks.length dy] 27)
  fd : FdIs G W (.slice aa t.at_.length ca) (.slice ak t.ks.length ck) t.at_ t.ks
  fy : FdIs F7 W (.slice ya t.at_.length cy) (.slice yk t.ks.length dy) t.at_ t.ks
  bel : Below w.heap.size w W
theorem CkL.below {w : World} {G F7 : Nat → Prop} {t : VT} {aa : Option Addr} {ca : Nat} {ak : Option Addr} {ck ob : Nat} {ya : Option Addr} {cy : Nat} {yk : Option Addr} {dy : Nat} {W W' : World} (h : CkL w G F7 t aa ca ak ck ob ya cy yk dy W) (hb : Below W.heap.size W W') : CkL w G F7 t aa ca ak ck ob ya cy yk dy W' :=
  ⟨(hb.block _ (row_lt h.b1)).trans h.b1, (hb.block _ (row_lt h.b2)).trans h.b2, h.fd.below hb, h.fy.below hb, h.bel.trans (hb.mono h.bel.size)⟩

set_option maxRecDepth 100000 in
set_option maxHeartbeats 8000000 in
theorem vtreeChecks_walk0 (G : Nat → Prop) (v : Value) (t : VT) (w : World) (h : VIs G w v t) (hbn : BnA t) (hsz : t.sz ≤ 1048576) :
    Calls Try.prog 3 #[v] w fun e w' => e = .returned (.bool true) ∧ Below w.heap.size w w' := by
  obtain ⟨aa, ca, ak, ck, e1, fd⟩ := h.form
  subst e1
  obtain ⟨W0, eW⟩ : ∃ X, X = (w.alloc (.cells #[.int .i64 t.k.1, .int .i64 t.k.2, .string t.tg, .string t.tx, .slice aa t.at_.length ca, .slice ak t.ks.length ck] 27)) := ⟨_, rfl⟩
  have hb0 : Below w.heap.size w W0 := (by rw [eW]; exact (Below.refl _ _).alloc (Nat.le_refl _) _)
  have HTb : Hid (W0.heap[w.heap.size]? = some (.cells #[.int .i64 t.k.1, .int .i64 t.k.2, .string t.tg, .string t.tx, .slice aa t.at_.length ca, .slice ak t.ks.length ck] 27)) := (by rw [eW]; exact heap_alloc_new _ _)
  have HFd := hide9 (fd.below hb0)
  have HB := hide9 hb0
  have HN := hide9 hbn
  have HE := hide9 eW
  clear h fd hbn hb0 eW
  go_enter Try.func3, Try.ntmps3
  go_wp2_with fail
  rw [← HE.out]
  clear HE
  refine (refCopy_any G t _ _ (VIs.of HFd.out)).mono ?_
  rintro e W1 ⟨v7, F7, rfl, hv7, hF7, hb⟩
  obtain ⟨ya, cy, yk, dy, e7, fy⟩ := hv7.form
  subst e7
  clear hv7 hF7
  obtain ⟨W3, eW3⟩ : ∃ X, X = ((W1.alloc (.cells #[.int .i64 0, .int .i64 0, .string ⟨#[]⟩, .string ⟨#[]⟩, .slice none 0 0, .slice none 0 0] 27)).setRow W1.heap.size #[.int .i64 t.k.1, .int .i64 t.k.2, .string t.tg, .string t.tx, .slice ya t.at_.length cy, .slice yk t.ks.length dy]) := ⟨_, rfl⟩
  have hz : (W1.alloc (.cells #[.int .i64 0, .int .i64 0, .string ⟨#[]⟩, .string ⟨#[]⟩, .slice none 0 0, .slice none 0 0] 27)).heap[W1.heap.size]? = some (.cells #[.int .i64 0, .int .i64 0, .string ⟨#[]⟩, .string ⟨#[]⟩, .slice none 0 0, .slice none 0 0] 27) := heap_alloc_new _ _
  have Hz := hide9 hz
  have hb3 : Below W1.heap.size W1 W3 := (by rw [eW3]; exact ((Below.refl _ _).alloc (Nat.le_refl _) _).grown (grown_setRow _ _ _) (by simp) (fun k e => by cases e; exact Nat.le_refl _))
  have hb4 : Below W0.heap.size W0 W3 := hb.trans (hb3.mono hb.size)
  obtain ⟨ob, eob⟩ : ∃ n, n = W1.heap.size := ⟨_, rfl⟩
  have HS : Hid (CkL w G F7 t aa ca ak ck ob ya cy yk dy W3) := ⟨(hb4.block _ (row_lt HTb.out)).trans HTb.out, by rw [eW3, eob]; exact setRow_same hz, HFd.out.below hb4, fy.below hb3, HB.out.trans (hb4.mono HB.out.size)⟩
  have HE3 := hide9 eW3
  have Hob := hide9 eob
  clear hz hb hb3 hb4 fy eW3 eob HTb HFd HB
  go_wp2_with (refine wpList_store_row rfl 27 (.tmp 3) (.tmp 5) rfl W1.heap.size 27 #[.int .i64 0, .int .i64 0, .string ⟨#[]⟩, .string ⟨#[]⟩, .slice none 0 0, .slice none 0 0] #[.int .i64 t.k.1, .int .i64 t.k.2, .string t.tg, .string t.tx, .slice ya t.at_.length cy, .slice yk t.ks.length dy] rfl rfl Hz.out sizeVN rfl (by simp [Value.oneCell']) ?_)
  rw [← HE3.out, ← Hob.out]
  clear HE3 Hz Hob
  obtain ⟨z, ez⟩ : ∃ z, z = chkT t := ⟨_, rfl⟩
  have HZ : Hid (chkT t = z) := ez.symm
  clear ez
  refine wp_region_held_drew (S := fun W' => CkL w G F7 t aa ca ak ck ob ya cy yk dy W') (by kernel_rfl) (HS.out.below (Below.refl _ _).drew) (fun hHeld => ?_)
  obtain ⟨Uk1u0, eW⟩ : ∃ X, X = W3.drew := ⟨_, rfl⟩
  have hb : Below W3.heap.size W3 Uk1u0 := by rw [eW]; exact (Below.refl _ _).drew
  replace HS : Hid (CkL w G F7 t aa ca ak ck ob ya cy yk dy Uk1u0) := HS.out.below hb
  rw [← eW] at hHeld ⊢
  clear eW hb
  refine tkW 0 (some 6) (v := ?_) ?_ hHeld ?_
  rotate_left
  · (intro ww hSw; (try dsimp only at hSw); have a0 := (row6 hSw.b2).1; have a1 := (row6 hSw.b2).2.1; have a2 := (row6 hSw.b2).2.2.1; have a3 := (row6 hSw.b2).2.2.2.1; have a4 := (row6 hSw.b2).2.2.2.2.1; have a5 := (row6 hSw.b2).2.2.2.2.2; go_simp; try with_reducible rfl)
  refine tkW 2 (some 8) (v := ?_) ?_ hHeld ?_
  rotate_left
  · (intro ww hSw; (try dsimp only at hSw); have a0 := (row6 hSw.b1).1; have a1 := (row6 hSw.b1).2.1; have a2 := (row6 hSw.b1).2.2.1; have a3 := (row6 hSw.b1).2.2.2.1; have a4 := (row6 hSw.b1).2.2.2.2.1; have a5 := (row6 hSw.b1).2.2.2.2.2; go_simp; try with_reducible rfl)
  refine wpAnyH_ready (rs := [1]) (by kernel_rfl) (by simp) ?_
  refine AllReadyH.cons (o := ⟨some 7, _, _, _, _, _⟩) rfl (fun K hK => ?_) AllReadyH.nil
  go_simp
  refine (check_any F7 t _ _ (VIs.of HS.out.fy) hsz HN.out).mono ?_
  rintro e Uk1u1 ⟨rfl, hb⟩
  rw [HZ.out]
  (try go_wp2_with fail)
  refine hK.out _ _ (hHeld.below hb) (fun hHeld2 => ?_)
  clear hK K hHeld
  have hHeld := hHeld2
  clear hHeld2
  (try simp only [Act.put, List.setIfInBounds_toArray, List.set_cons_zero, List.set_cons_succ])
  replace HS : Hid (CkL w G F7 t aa ca ak ck ob ya cy yk dy Uk1u1) := HS.out.below hb
  clear hb
  refine wpAnyH_ready (rs := [3]) (by kernel_rfl) (by simp) ?_
  refine AllReadyH.cons (o := ⟨some 9, _, _, _, _, _⟩) rfl (fun K hK => ?_) AllReadyH.nil
  go_simp
  refine (refCheck_any G t _ _ (VIs.of HS.out.fd) hsz HN.out).mono ?_
  rintro e Uk1u2 ⟨rfl, hb⟩
  rw [HZ.out]
  (try go_wp2_with fail)
  refine hK.out _ _ (hHeld.below hb) (fun hHeld2 => ?_)
  clear hK K hHeld
  have hHeld := hHeld2
  clear hHeld2
  (try simp only [Act.put, List.setIfInBounds_toArray, List.set_cons_zero, List.set_cons_succ])
  replace HS : Hid (CkL w G F7 t aa ca ak ck ob ya cy yk dy Uk1u2) := HS.out.below hb
  clear hb
  refine tkW 4 (some 10) (v := ?_) ?_ hHeld ?_
  rotate_left
  · (intro ww hSw; (try dsimp only at hSw); go_simp; try with_reducible rfl)
  refine tkW 5 (some 11) (v := ?_) ?_ hHeld ?_
  rotate_left
  · (intro ww _; go_simp; try with_reducible rfl)
  refine tkW 6 (some 12) (v := ?_) ?_ hHeld ?_
  rotate_left
  · (intro ww hSw; (try dsimp only at hSw); have a0 := (row6 hSw.b2).1; have a1 := (row6 hSw.b2).2.1; have a2 := (row6 hSw.b2).2.2.1; have a3 := (row6 hSw.b2).2.2.2.1; have a4 := (row6 hSw.b2).2.2.2.2.1; have a5 := (row6 hSw.b2).2.2.2.2.2; go_simp; try with_reducible rfl)
  refine tkW 7 (some 13) (v := ?_) ?_ hHeld ?_
  rotate_left
  · (intro ww hSw; (try dsimp only at hSw); have a0 := (row6 hSw.b1).1; have a1 := (row6 hSw.b1).2.1; have a2 := (row6 hSw.b1).2.2.1; have a3 := (row6 hSw.b1).2.2.2.1; have a4 := (row6 hSw.b1).2.2.2.2.1; have a5 := (row6 hSw.b1).2.2.2.2.2; go_simp; try with_reducible rfl)
  refine wpAnyH_ready (rs := [8]) (by kernel_rfl) (by simp) ?_
  refine AllReadyH.cons (o := ⟨some 14, _, _, _, _, _⟩) rfl (fun K hK => ?_) AllReadyH.nil
  go_simp
  refine (refSame_any F7 G t t _ _ _ (VIs.of HS.out.fy) (VIs.of HS.out.fd)).mono ?_
  rintro e Uk1u3 ⟨rfl, hb⟩
  rw [eqV_self]
  (try go_wp2_with fail)
  refine hK.out _ _ (hHeld.below hb) (fun hHeld2 => ?_)
  clear hK K hHeld
  have hHeld := hHeld2
  clear hHeld2
  (try simp only [Act.put, List.setIfInBounds_toArray, List.set_cons_zero, List.set_cons_succ])
  replace HS : Hid (CkL w G F7 t aa ca ak ck ob ya cy yk dy Uk1u3) := HS.out.below hb
  clear hb
  refine tkW 9 (some 15) (v := ?_) ?_ hHeld ?_
  rotate_left
  · (intro ww _; go_simp; try with_reducible rfl)
  refine tkW 10 (some 16) (v := ?_) ?_ hHeld ?_
  rotate_left
  · (intro ww _; go_simp; try with_reducible rfl)
  refine wpAnyH_ready (rs := [11]) (by kernel_rfl) (by simp) ?_
  refine AllReadyH.cons (o := ⟨some 17, _, _, _, _, _⟩) rfl (fun K hK => ?_) AllReadyH.nil
  go_simp
  refine (awake_any _).mono ?_
  rintro e Uk1u4 ⟨rfl, hb⟩
  (try go_wp2_with fail)
  refine hK.out _ _ (hHeld.below hb) (fun hHeld2 => ?_)
  clear hK K hHeld
  have hHeld := hHeld2
  clear hHeld2
  (try simp only [Act.put, List.setIfInBounds_toArray, List.set_cons_zero, List.set_cons_succ])
  replace HS : Hid (CkL w G F7 t aa ca ak ck ob ya cy yk dy Uk1u4) := HS.out.below hb
  clear hb
  refine tkW 12 (some 18) (v := ?_) ?_ hHeld ?_
  rotate_left
  · (intro ww _; go_simp; try with_reducible rfl)
  refine tkW 13 (some 2) (v := ?_) ?_ hHeld ?_
  rotate_left
  · (intro ww _; go_simp; try with_reducible rfl)
  refine wpAnyH_done (by kernel_rfl) ?_ _
  clear hHeld
  go_wp2
  go_ret
  exact ⟨rfl, HS.out.bel⟩

theorem vtreeChecks_walk (v : Value) (t : VT) (w : World) (h : VIs (fun _ => True) w v t) (hbn : BnA t) (hsz : t.sz ≤ 1048576) :
    Calls Try.prog 3 #[v] w fun e w' => e = .returned (.bool true) ∧ Below w.heap.size w w' := vtreeChecks_walk0 _ v t w h hbn hsz

end Go.Proofs.Ytnpdinnbfpikjaa
