/- Add, of a new slot: one of three ways. -/
import Derived.Test.YtfgkdbidgbpobaaRwC
namespace Go.Proofs.Ytfgkdbidgbpobaa
open Go.RowKit Go.Shelf
set_option linter.unusedVariables false
set_option linter.unusedSimpArgs false

attribute [local go_sem] Oper.semAt_some

set_option maxRecDepth 100000 in
set_option maxHeartbeats 16000000 in
theorem add_in_h (n0 : Nat) (hn : 5 ≤ n0) (F : Nat → Prop) (rb : Nat) (L : List Sl) (s : Sl) (w : World) (h : RowOk F w rb L) (hlen : L.length < 4096) (hO : okS s = true) (hH : hasL L s.ts = false) (hZ : s.af ≠ z0) (hAf : hasL L s.af = true) :
    CallsIn Fence.wide n0 Try.prog 8 #[.pointer (some ⟨rb, 0, none⟩), .agg #[.int .i64 s.ts.1, .int .i64 s.ts.2], .agg #[.int .i64 s.af.1, .int .i64 s.af.2]] w fun e w' => AddP F w rb L s e w' := by
  have hro : Fence.wide.round = none := rfl
  have h1n : 1 ≤ n0 := by omega
  obtain ⟨ma, mb, fv, E, h, hl0⟩ := h
  have HLn : Hid (L.length ≤ 4096) := hl0
  obtain ⟨W0, eW⟩ : ∃ X, X = ((w.alloc (.cells [.pointer (some ⟨rb, 0, none⟩)].toArray 23)).alloc (.cells (stCells s.ts).toArray 33)).alloc (.cells (stCells s.af).toArray 33) := ⟨_, rfl⟩
  obtain ⟨bx, ebx⟩ : ∃ b, b = w.heap.size := ⟨_, rfl⟩
  have HA : Hid (AdS F w bx rb s F W0 L (behZ L) (frL L) ma mb fv E) := by (rw [eW, ebx]; exact AdS.start h)
  have HGd : Hid (GoodL L) := h.good
  have HLt : Hid (L.length < 4096) := hlen
  have HBl : Hid ((behZ L s.af).length ≤ 4096) := by (show _ ≤ _; have := behZ_length L s.af; omega)
  have HBl2 : Hid ((behZ L s.ts).length ≤ 8192) := by (show _ ≤ _; have := behZ_length L s.ts; omega)
  have HBs : Hid (SrtS (behZ L s.af)) := behZ_srt L s.af
  have HFl : Hid ((frL L).length ≤ 4096) := by (show _ ≤ _; have := frL_length L; omega)
  clear h hlen hl0
  have p0 := HA.out.bxs.p0
  have a0 := HA.out.bxs.a0
  have a1 := HA.out.bxs.a1
  have f0 := HA.out.bxs.f0
  have f1 := HA.out.bxs.f1
  rw [eW] at p0 a0 a1 f0 f1
  have HZ : Hid (s.af ≠ z0) := hZ
  have q1 : (s.af.1 == 0) = false := by (have := okS_af1 hO hZ; simp; omega)
  clear hZ
  refine callsIn_of_wp_marksN Try.func8 rfl trivial ?_ hro
  simp only [Try.ntmps8, List.size_toArray, List.length_cons, List.length_nil, Nat.reduceAdd, Nat.reduceSub, Array.replicate_succ, Array.replicate_zero, List.push_toArray, List.append_toArray, List.nil_append, List.cons_append]
  rw [ebx] at p0 a0 a1 f0 f1
  gi_wp2_with fail
  rw [← ebx] at p0 a0 a1 f0 f1 ⊢
  have eW2 := eW
  simp only [stCells] at eW2
  rw [← eW2]
  clear eW2 eW ebx
  refine ⟨trivial, ?_⟩
  refine (callsIn_wide.2 (okRow_any s _)).mono ?_
  rintro e W1 ⟨rfl, hb⟩
  replace HA : Hid (AdS F w bx rb s F W1 L (behZ L) (frL L) ma mb fv E) := HA.out.below hb
  clear hb p0 a0 a1 f0 f1
  have p0 := HA.out.bxs.p0
  have a0 := HA.out.bxs.a0
  have a1 := HA.out.bxs.a1
  have f0 := HA.out.bxs.f0
  have f1 := HA.out.bxs.f1
  rw [hO]
  gi_wp2_with fail
  refine ⟨trivial, ?_⟩
  refine (callsIn_wide.2 (hasIs_any F rb L (behZ L) (frL L) ma mb fv E s.ts _ HA.out.row)).mono ?_
  rintro e W2 ⟨rfl, hb⟩
  replace HA : Hid (AdS F w bx rb s F W2 L (behZ L) (frL L) ma mb fv E) := HA.out.below hb
  clear hb p0 a0 a1 f0 f1
  have p0 := HA.out.bxs.p0
  have a0 := HA.out.bxs.a0
  have a1 := HA.out.bxs.a1
  have f0 := HA.out.bxs.f0
  have f1 := HA.out.bxs.f1
  rw [hH]
  have HOk : Hid (okS s = true) := hO
  have HNo : Hid (hasL L s.ts = false) := hH
  have HE : Hid (addC L s = 0) := by (show _ = _; unfold addC; simp [hO, hH])
  have HLe : Hid (addL L s = L ++ [s]) := by (show _ = _; unfold addL; simp [hO, hH])
  have HBn : Hid (hasS (behZ L s.af) s.ts = false) := behZ_not hH
  have HFn : Hid (hasS (frL L) s.ts = false) := frL_not hH
  clear p0 a0 a1 f0 f1
  have p0 := HA.out.bxs.p0
  have f0 := HA.out.bxs.f0
  have f1 := HA.out.bxs.f1
  gi_wp2
  clear p0 f0 f1
  refine wpIn_wide.2 ?_
  refine wp_region_held_drew (S := fun W' => Bx3R bx rb s W' ∧ W'.cell? ⟨rb, 1, none⟩ = some (.map (some mb))) (by kernel_rfl) ⟨HA.out.bxs.drew, HA.out.row.c1⟩ (fun hHeld => ?_)
  obtain ⟨Ua5u0, eW⟩ : ∃ X, X = W2.drew := ⟨_, rfl⟩
  have hb : Below W2.heap.size W2 Ua5u0 := by rw [eW]; exact (Below.refl _ _).drew
  replace HA : Hid (AdS F w bx rb s F Ua5u0 L (behZ L) (frL L) ma mb fv E) := HA.out.below hb
  rw [← eW] at hHeld ⊢
  clear eW hb
  refine tkW 0 (some 21) (v := ?_) ?_ hHeld ?_
  rotate_left
  · (intro ww hSw; (try dsimp only at hSw); obtain ⟨hS, hc1⟩ := hSw; have p0 := hS.p0; have a0 := hS.a0; have a1 := hS.a1; have f0 := hS.f0; have f1 := hS.f1; go_simp; try with_reducible rfl)
  refine tkW 1 (some 22) (v := ?_) ?_ hHeld ?_
  rotate_left
  · (intro ww hSw; (try dsimp only at hSw); obtain ⟨hS, hc1⟩ := hSw; have p0 := hS.p0; have a0 := hS.a0; have a1 := hS.a1; have f0 := hS.f0; have f1 := hS.f1; go_simp; try with_reducible rfl)
  refine tkW 2 (some 23) (v := ?_) ?_ hHeld ?_
  rotate_left
  · (intro ww _; go_simp; try with_reducible rfl)
  refine tkW 3 (some 24) (v := ?_) ?_ hHeld ?_
  rotate_left
  · (intro ww hSw; (try dsimp only at hSw); obtain ⟨hS, hc1⟩ := hSw; have p0 := hS.p0; have a0 := hS.a0; have a1 := hS.a1; have f0 := hS.f0; have f1 := hS.f1; go_simp; try with_reducible rfl)
  refine tkW 4 (some 25) (v := ?_) ?_ hHeld ?_
  rotate_left
  · (intro ww hSw; (try dsimp only at hSw); obtain ⟨hS, hc1⟩ := hSw; have p0 := hS.p0; have a0 := hS.a0; have a1 := hS.a1; have f0 := hS.f0; have f1 := hS.f1; go_simp; try with_reducible rfl)
  refine tkW 5 (some 26) (v := ?_) ?_ hHeld ?_
  rotate_left
  · (intro ww hSw; (try dsimp only at hSw); obtain ⟨hS, hc1⟩ := hSw; have p0 := hS.p0; have a0 := hS.a0; have a1 := hS.a1; have f0 := hS.f0; have f1 := hS.f1; go_simp; try with_reducible rfl)
  refine tkW 6 (some 27) (v := ?_) ?_ hHeld ?_
  rotate_left
  · (intro ww hSw; (try dsimp only at hSw); obtain ⟨hS, hc1⟩ := hSw; have p0 := hS.p0; have a0 := hS.a0; have a1 := hS.a1; have f0 := hS.f0; have f1 := hS.f1; go_simp; try with_reducible rfl)
  refine tkW 7 (some 28) (v := ?_) ?_ hHeld ?_
  rotate_left
  · (intro ww _; go_simp; try with_reducible rfl)
  refine tkW 8 (some 29) (v := ?_) ?_ hHeld ?_
  rotate_left
  · (intro ww hSw; (try dsimp only at hSw); obtain ⟨hS, hc1⟩ := hSw; have p0 := hS.p0; have a0 := hS.a0; have a1 := hS.a1; have f0 := hS.f0; have f1 := hS.f1; go_simp; try with_reducible rfl)
  refine tkW 9 (some 30) (v := ?_) ?_ hHeld ?_
  rotate_left
  · (intro ww hSw; (try dsimp only at hSw); obtain ⟨hS, hc1⟩ := hSw; have p0 := hS.p0; have a0 := hS.a0; have a1 := hS.a1; have f0 := hS.f0; have f1 := hS.f1; go_simp; try with_reducible rfl)
  refine tkW 11 (some 32) (v := ?_) ?_ hHeld ?_
  rotate_left
  · (intro ww hSw; (try dsimp only at hSw); obtain ⟨hS, hc1⟩ := hSw; have p0 := hS.p0; have a0 := hS.a0; have a1 := hS.a1; have f0 := hS.f0; have f1 := hS.f1; go_simp; try with_reducible rfl)
  refine wpAnyH_ready (rs := [10]) (by kernel_rfl) (by simp) ?_
  refine AllReadyH.cons (o := ⟨some 31, _, _, _, _, _⟩) rfl (fun K hK => ?_) AllReadyH.nil
  have hlk : (Instr.lookup 55 (.map (some mb)) (.agg #[.int .i64 s.af.1, .int .i64 s.af.2]) false).run Try.prog Ua5u0 = .ok (vB E s.af) Ua5u0 := HA.out.row.lookB s.af
  go_simp
  refine hK.out _ _ (hHeld) (fun hHeld2 => ?_)
  clear hK K hHeld
  have hHeld := hHeld2
  clear hHeld2
  (try simp only [Act.put, List.setIfInBounds_toArray, List.set_cons_zero, List.set_cons_succ])
  clear hlk
  refine wpAnyH_ready (rs := [12]) (by kernel_rfl) (by simp) ?_
  refine AllReadyH.cons (o := ⟨some 33, _, _, _, _, _⟩) rfl (fun K hK => ?_) AllReadyH.nil
  go_simp
  refine (with_any (vB E s.af) (behZ L s.af) s.ts _ (HA.out.row.ownB s.af) HBl.out HBs.out HBn.out).mono ?_
  rintro e Ua5u2 ⟨v1, rfl, ho, hg, hv⟩
  (try go_wp2_with fail)
  obtain ⟨a1, n1, c1, e1⟩ : ∃ a1 n1 c1, v1 = .slice a1 n1 c1 := by (obtain ⟨a1, c1, e1⟩ := ho.form; exact ⟨a1, _, c1, e1⟩)
  subst e1
  have HW : Hid (OwnSt 0 Ua5u2 (.slice a1 n1 c1) (insS (behZ L s.af) s.ts) ∧ Ua5u0.grownBy Ua5u2 (vB E s.af).ownBlock ∧ ((Value.slice a1 n1 c1).ownBlock = (vB E s.af).ownBlock ∨ ∃ k, (Value.slice a1 n1 c1).ownBlock = some k ∧ Ua5u0.heap.size ≤ k)) := ⟨ho, hg, hv⟩
  have hS2 : Bx3R bx rb s Ua5u2 ∧ Ua5u2.cell? ⟨rb, 1, none⟩ = some (.map (some mb)) := ⟨HA.out.bxGrown hg (fun k e => (HA.out.row.inB e).1), (World.cell?_of_block (w := Ua5u0) (hg.block rb (HA.out.row.lt _ HA.out.row.fr) (fun e => (HA.out.row.apart (HA.out.row.ownB s.af) e.symm).1 rfl))).trans HA.out.row.c1⟩
  refine hK.out _ _ (hS2) (fun hHeld2 => ?_)
  clear hK K hHeld
  have hHeld := hHeld2
  clear hHeld2
  (try simp only [Act.put, List.setIfInBounds_toArray, List.set_cons_zero, List.set_cons_succ])
  clear ho hg hv hS2
  refine wpAnyH_ready (rs := [13]) (by kernel_rfl) (by simp) ?_
  refine AllReadyH.cons (o := ⟨none, _, _, _, _, _⟩) rfl (fun K hK => ?_) AllReadyH.nil
  obtain ⟨Ua5u3, E1, F1, hst, hA⟩ := HA.out.storeB HW.out.2.1 HW.out.1 HW.out.2.2
  have hst2 : (Instr.mapUpdate 55 (.map (some mb)) (.agg #[.int .i64 s.af.1, .int .i64 s.af.2]) (.slice a1 n1 c1)).run Try.prog Ua5u2 = .ok () Ua5u3 := hst
  have HA1 : Hid (AdS F w bx rb s F1 Ua5u3 L (updB (behZ L) s.af (insS (behZ L s.af) s.ts)) (frL L) ma mb fv E1) := hA
  have hS2 : Bx3R bx rb s Ua5u3 ∧ Ua5u3.cell? ⟨rb, 1, none⟩ = some (.map (some mb)) := ⟨hA.bxs, hA.row.c1⟩
  clear hst hA
  go_simp
  refine hK.out _ _ (hS2) (fun hHeld2 => ?_)
  clear hK K hHeld
  have hHeld := hHeld2
  clear hHeld2
  (try simp only [Act.put, List.setIfInBounds_toArray, List.set_cons_zero, List.set_cons_succ])
  clear hst2 hS2 HW HA
  refine wpAnyH_done (by kernel_rfl) ?_ _
  clear hHeld
  have HA := HA1
  clear HA1
  have p0 := HA.out.bxs.p0
  have a0 := HA.out.bxs.a0
  have a1 := HA.out.bxs.a1
  have f0 := HA.out.bxs.f0
  have f1 := HA.out.bxs.f1
  gi_wp2_with fail
  refine ⟨trivial, ?_⟩
  refine (callsIn_wide.2 (hasIs_any F1 rb L (updB (behZ L) s.af (insS (behZ L s.af) s.ts)) (frL L) ma mb fv E1 s.af _ HA.out.row)).mono ?_
  rintro e W3 ⟨rfl, hb⟩
  replace HA : Hid (AdS F w bx rb s F1 W3 L (updB (behZ L) s.af (insS (behZ L s.af) s.ts)) (frL L) ma mb fv E1) := HA.out.below hb
  clear hb p0 a0 a1 f0 f1
  have p0 := HA.out.bxs.p0
  have a0 := HA.out.bxs.a0
  have a1 := HA.out.bxs.a1
  have f0 := HA.out.bxs.f0
  have f1 := HA.out.bxs.f1
  rw [hAf]
  have HBeq : Hid ((updB (behZ L) s.af (insS (behZ L s.af) s.ts)) s.ts = behZ L s.ts) := updB_ne (okS_ne HOk.out)
  clear p0 a0 a1 f0 f1
  have HFrl : Hid ((frL L).length ≤ 4096) := by (show _ ≤ _; have := HFl.out; exact this)
  have HFs : Hid (SrtS (frL L)) := frL_srt L
  have HBo : Hid (∀ k, F1 k → k < W3.heap.size) := HA.out.row.lt
  have HAf : Hid (hasL L s.af = true) := hAf
  clear hO hH hAf
  obtain ⟨av, cv, evb⟩ := (HA.out.row.ownB s.ts).form
  skip
  have HBe : Hid ((updB (behZ L) s.af (insS (behZ L s.af) s.ts)) s.ts = behZ L s.ts) := HBeq.out
  rw [HBe.out] at evb
  have HVb : Hid (vB E1 s.ts = .slice av (behZ L s.ts).length cv) := evb
  have HLs : Hid (LsE stCells 2 (fun k => ∃ x ∈ E1, x.2.ownBlock = some k) W3 (.slice av (behZ L s.ts).length cv) (behZ L s.ts)) := by (rw [← evb, ← HBe.out]; exact (HA.out.row.ownB s.ts).lsE stCells_len (by rw [HBe.out]; have := HBl2.out; omega) (fun k e => vB_mem e))
  clear evb
  gi_wp2
  refine wpIn_wide.2 ?_
  refine wp_region_held_drew (S := fun W' => Bx3R bx rb s W' ∧ RowIs F1 W' rb L (updB (behZ L) s.af (insS (behZ L s.af) s.ts)) (frL L) ma mb fv E1) (by kernel_rfl) ⟨HA.out.bxs.drew, HA.out.row.below (Below.refl _ _).drew⟩ (fun hHeld => ?_)
  obtain ⟨Uc6u0, eW⟩ : ∃ X, X = W3.drew := ⟨_, rfl⟩
  have hb : Below W3.heap.size W3 Uc6u0 := by rw [eW]; exact (Below.refl _ _).drew
  replace HA : Hid (AdS F w bx rb s F1 Uc6u0 L (updB (behZ L) s.af (insS (behZ L s.af) s.ts)) (frL L) ma mb fv E1) := HA.out.below hb
  replace HLs : Hid (LsE stCells 2 (fun k => ∃ x ∈ E1, x.2.ownBlock = some k) Uc6u0 (.slice av (behZ L s.ts).length cv) (behZ L s.ts)) := HLs.out.below hb
  rw [← eW] at hHeld ⊢
  clear eW hb
  refine tkW 0 (some 47) (v := ?_) ?_ hHeld ?_
  rotate_left
  · (intro ww hSw; (try dsimp only at hSw); have hS := hSw; have c1 := hS.2.c1; have hlk : (Instr.lookup 55 (.map (some mb)) (.agg #[.int .i64 s.ts.1, .int .i64 s.ts.2]) false).run Try.prog ww = .ok (.slice av (behZ L s.ts).length cv) ww := (by have h9 := hS.2.lookB s.ts; rw [HVb.out] at h9; exact h9); have p0 := hS.1.p0; have a0 := hS.1.a0; have a1 := hS.1.a1; go_simp; try with_reducible rfl)
  refine tkW 1 (some 48) (v := ?_) ?_ hHeld ?_
  rotate_left
  · (intro ww hSw; (try dsimp only at hSw); have hS := hSw; go_simp; try with_reducible rfl)
  refine tkW 2 (some 49) (v := ?_) ?_ hHeld ?_
  rotate_left
  · (intro ww _; go_simp; try with_reducible rfl)
  refine tkW 3 (some 50) (v := ?_) ?_ hHeld ?_
  rotate_left
  · (intro ww hSw; (try dsimp only at hSw); have hS := hSw; have c1 := hS.2.c1; have hlk : (Instr.lookup 55 (.map (some mb)) (.agg #[.int .i64 s.ts.1, .int .i64 s.ts.2]) false).run Try.prog ww = .ok (.slice av (behZ L s.ts).length cv) ww := (by have h9 := hS.2.lookB s.ts; rw [HVb.out] at h9; exact h9); have p0 := hS.1.p0; have a0 := hS.1.a0; have a1 := hS.1.a1; go_simp; try with_reducible rfl)
  refine tkW 4 (some 51) (v := ?_) ?_ hHeld ?_
  rotate_left
  · (intro ww hSw; (try dsimp only at hSw); have hS := hSw; have c1 := hS.2.c1; have hlk : (Instr.lookup 55 (.map (some mb)) (.agg #[.int .i64 s.ts.1, .int .i64 s.ts.2]) false).run Try.prog ww = .ok (.slice av (behZ L s.ts).length cv) ww := (by have h9 := hS.2.lookB s.ts; rw [HVb.out] at h9; exact h9); have p0 := hS.1.p0; have a0 := hS.1.a0; have a1 := hS.1.a1; go_simp; try with_reducible rfl)
  refine tkW 5 (some 52) (v := ?_) ?_ hHeld ?_
  rotate_left
  · (intro ww hSw; (try dsimp only at hSw); have hS := hSw; have c1 := hS.2.c1; have hlk : (Instr.lookup 55 (.map (some mb)) (.agg #[.int .i64 s.ts.1, .int .i64 s.ts.2]) false).run Try.prog ww = .ok (.slice av (behZ L s.ts).length cv) ww := (by have h9 := hS.2.lookB s.ts; rw [HVb.out] at h9; exact h9); have p0 := hS.1.p0; have a0 := hS.1.a0; have a1 := hS.1.a1; go_simp; try with_reducible rfl)
  refine wpAnyH_ready (rs := [6]) (by kernel_rfl) (by simp) ?_
  refine AllReadyH.cons (o := ⟨some 53, _, _, _, _, _⟩) rfl (fun K hK => ?_) AllReadyH.nil
  go_simp
  refine (back_any _ _ ⟨_, _, _, rfl⟩).mono ?_
  rintro e Uc6u1 ⟨rfl, hw⟩
  have hb : Below Uc6u0.heap.size Uc6u0 Uc6u1 := by (rw [hw]; exact (Below.refl _ _).alloc (Nat.le_refl _) _)
  have HBk : Hid (BxC Uc6u0.heap.size [.slice av (behZ L s.ts).length cv] 38 Uc6u1) := by (rw [hw]; exact BxC.new _ _ _)
  have HKb : Hid (∀ k, F1 k → k < Uc6u0.heap.size) := HA.out.row.lt
  have HBb : Hid (bx + 2 < Uc6u0.heap.size) := HA.out.bxs.r2.lt
  clear hw
  (try go_wp2_with fail)
  refine hK.out _ _ (⟨hHeld.1.below hb, hHeld.2.below hb⟩) (fun hHeld2 => ?_)
  clear hK K hHeld
  have hHeld := hHeld2
  clear hHeld2
  (try simp only [Act.put, List.setIfInBounds_toArray, List.set_cons_zero, List.set_cons_succ])
  replace HA : Hid (AdS F w bx rb s F1 Uc6u1 L (updB (behZ L) s.af (insS (behZ L s.af) s.ts)) (frL L) ma mb fv E1) := HA.out.below hb
  replace HLs : Hid (LsE stCells 2 (fun k => ∃ x ∈ E1, x.2.ownBlock = some k) Uc6u1 (.slice av (behZ L s.ts).length cv) (behZ L s.ts)) := HLs.out.below hb
  obtain ⟨bk, ebk⟩ : ∃ b, b = Uc6u0.heap.size := ⟨_, rfl⟩
  rw [← ebk] at HBk HKb HBb ⊢
  clear ebk
  clear hb
  refine wpAnyH_done (by kernel_rfl) ?_ _
  clear hHeld
  have HAdd : Hid (∀ (_ : Unit) (W' : World) (Dd : Nat) (fk : Value) (E : List (St × Value)), RowIs F1 W' rb (L ++ [s]) (updB (behZ L) s.af (insS (behZ L s.af) s.ts)) (delAll (frL L) (behZ L s.ts).reverse) ma mb fk E → Touch F w W' → Uc6u1.heap.size ≤ Dd → AddP F w rb L s (.returned (.int .i64 0)) (W'.putObj Dd (.deferred none))) := fun _ W' Dd fk E h1 h2 h3 => HA.out.done HGd.out HOk.out HNo.out HLt.out (by rw [if_neg HZ.out]) (by rw [if_pos HAf.out]) h1 h2 h3 HE.out HLe.out
  have HSl : Hid (∀ k, (fun k => k = bk ∨ ∃ x ∈ E1, x.2.ownBlock = some k) k → k < Uc6u1.heap.size) := fun k hk => hk.elim (fun e => by rw [e]; exact HBk.out.lt) (fun ⟨x, hx, e⟩ => HA.out.row.lt k (HA.out.row.fe x hx k e))
  have HSq := back_seq (n0 - 1) (by omega) bk cv (fun k => k = bk ∨ ∃ x ∈ E1, x.2.ownBlock = some k) av (behZ L s.ts) Uc6u1 (.inl rfl) HSl.out (HBk.out.cell 0 _ rfl) (HLs.out.mono (fun k hk => .inr hk)) HBl2.out
  have HA0 : Hid (RngS F w bx rb s F1 Uc6u1 bk L (updB (behZ L) s.af (insS (behZ L s.af) s.ts)) (frL L) ma mb E1 Uc6u1) := HA.out.rng HKb.out HBk.out.lt HBb.out
  gi_wp2
  refine range_of h1n (gf := 39) (lb := #[.pointer (some ⟨bk, 0, none⟩)]) rfl (enters_of Try.func39 (by kernel_rfl) rfl) HSq KeepsS.trans (keepsSK_b HSl.out) (Below.refl _ _) (fun _ => rfl)
    (fun k W => RngS F w bx rb s F1 Uc6u1 bk L (updB (behZ L) s.af (insS (behZ L s.af) s.ts)) (delAll (frL L) (((backL (behZ L s.ts)).map Prod.fst).take k)) ma mb E1 W) (fun _ _ _ => False)
    (fun k A B row h1 hg hr => h1.grown hg hr) (fun c k A B row hf _ _ => hf) (by simpa [delAll] using HA0.out)
    (fun x a' W => ∃ Bx, Uc6u1.heap.size ≤ Bx ∧ BxC Bx (stCells x.1) 33 W ∧ ∃ u0 u1 u2 u7 u9 u10 u11 u12 u13 u14 u15 u16 u17 u18 u19 u20 u21 u22 u23 u24 u25 u26 u27 u28 u29 u30 u31 u32 u33 u34 u35 u36 u37 u38 u39 u40 u41 u42 u43 u44 u45 u46 u47 u48 u49 u50 u51 u52 u53 u54 u55 u56 u57 u58 u59 u60 u61 u62 u63 u64 u65 u66 u67 u68 u69 u70, a' = { tmps := #[u0, u1, u2, .pointer (some ⟨bx, 0, none⟩), .pointer (some ⟨bx + 1, 0, none⟩), .pointer (some ⟨bx + 2, 0, none⟩), .int .i64 0, u7, .pointer (some ⟨Bx, 0, none⟩), u9, u10, u11, u12, u13, u14, u15, u16, u17, u18, u19, u20, u21, u22, u23, u24, u25, u26, u27, u28, u29, u30, u31, u32, u33, u34, u35, u36, u37, u38, u39, u40, u41, u42, u43, u44, u45, u46, u47, u48, u49, u50, u51, u52, u53, u54, u55, u56, u57, u58, u59, u60, u61, u62, u63, u64, u65, u66, u67, u68, u69, u70], defers := [] })
    (fun x a' u A B row ⟨Bx, h1, h2, h5⟩ hg hr => ⟨Bx, h1, row_own h2 hg (fun r e => (hr r e).2), h5⟩)
    ?assign ?body ?done ?stop
  case assign =>
    rintro l k hk Wa K hA hK
    obtain ⟨x, hx⟩ : ∃ x, x = (backL (behZ L s.ts))[k] := ⟨_, rfl⟩
    rw [← hx] at hK ⊢
    clear hx
    have hb : Below Wa.heap.size Wa (Wa.alloc (.cells (stCells x.1).toArray 33)) := (Below.refl _ _).alloc (Nat.le_refl _) _
    have hfin := fun a' e5 => hK a' (Wa.alloc (.cells (stCells x.1).toArray 33)) (keepsFrom_below hb) (KeepsS.of_below hb (fun j hj => Nat.lt_of_lt_of_le (HSl.out j hj) hA.size)) (hA.below hb) ⟨Wa.heap.size, hA.size, BxC.new _ _ _, e5⟩
    have HFin2 : Hid (∀ a', (∃ u0 u1 u2 u7 u9 u10 u11 u12 u13 u14 u15 u16 u17 u18 u19 u20 u21 u22 u23 u24 u25 u26 u27 u28 u29 u30 u31 u32 u33 u34 u35 u36 u37 u38 u39 u40 u41 u42 u43 u44 u45 u46 u47 u48 u49 u50 u51 u52 u53 u54 u55 u56 u57 u58 u59 u60 u61 u62 u63 u64 u65 u66 u67 u68 u69 u70, a' = { tmps := #[u0, u1, u2, .pointer (some ⟨bx, 0, none⟩), .pointer (some ⟨bx + 1, 0, none⟩), .pointer (some ⟨bx + 2, 0, none⟩), .int .i64 0, u7, .pointer (some ⟨Wa.heap.size, 0, none⟩), u9, u10, u11, u12, u13, u14, u15, u16, u17, u18, u19, u20, u21, u22, u23, u24, u25, u26, u27, u28, u29, u30, u31, u32, u33, u34, u35, u36, u37, u38, u39, u40, u41, u42, u43, u44, u45, u46, u47, u48, u49, u50, u51, u52, u53, u54, u55, u56, u57, u58, u59, u60, u61, u62, u63, u64, u65, u66, u67, u68, u69, u70], defers := [] }) → K a' (Wa.alloc (.cells (stCells x.1).toArray 33))) := hfin
    clear hK hfin hb hA
    simp only [encB]
    gi_wp2
    exact HFin2.out _ ⟨_, _, _, _, _, _, _, _, _, _, _, _, _, _, _, _, _, _, _, _, _, _, _, _, _, _, _, _, _, _, _, _, _, _, _, _, _, _, _, _, _, _, _, _, _, _, _, _, _, _, _, _, _, _, _, _, _, _, _, _, _, _, _, _, _, _, rfl⟩
  case body =>
    rintro l k hk a' Wb hlD hA ⟨Bx, hx1, hx2, u0, u1, u2, u7, u9, u10, u11, u12, u13, u14, u15, u16, u17, u18, u19, u20, u21, u22, u23, u24, u25, u26, u27, u28, u29, u30, u31, u32, u33, u34, u35, u36, u37, u38, u39, u40, u41, u42, u43, u44, u45, u46, u47, u48, u49, u50, u51, u52, u53, u54, u55, u56, u57, u58, u59, u60, u61, u62, u63, u64, u65, u66, u67, u68, u69, u70, rfl⟩
    obtain ⟨x, hx⟩ : ∃ x, x = (backL (behZ L s.ts))[k] := ⟨_, rfl⟩
    rw [← hx] at hx2
    have HNx : Hid (delAll (frL L) (((backL (behZ L s.ts)).map Prod.fst).take (k + 1)) = delS (delAll (frL L) (((backL (behZ L s.ts)).map Prod.fst).take k)) x.1) := by (show _ = _; rw [List.take_succ_eq_append_getElem (by simpa using hk), delAll_snoc, List.getElem_map, ← hx])
    have HX : Hid (BxC Bx (stCells x.1) 33 Wb) := hx2
    have HBx : Hid (Uc6u1.heap.size ≤ Bx) := hx1
    clear hx2 hx1 hx
    obtain ⟨dk, edk⟩ : ∃ dk, dk = delAll (frL L) (((backL (behZ L s.ts)).map Prod.fst).take k) := ⟨_, rfl⟩
    have HFk : Hid (dk.length ≤ 4096) := by (rw [edk]; exact Nat.le_trans (delAll_length _ _) HFrl.out)
    have HFd : Hid (SrtS dk) := by (rw [edk]; exact delAll_srt HFs.out _)
    rw [← edk] at hA HNx
    clear edk
    obtain ⟨fk, hI⟩ := hA
    have HI : Hid (RngI F w bx rb s F1 Uc6u1 bk L (updB (behZ L) s.af (insS (behZ L s.af) s.ts)) dk ma mb fk E1 Wb) := hI
    have HWb : Hid (Uc6u1.heap.size ≤ Wb.heap.size) := hI.size
    have HK : Hid (KeepsS (fun k => k = bk ∨ ∃ x ∈ E1, x.2.ownBlock = some k) Wb Wb ∧ KeepsFrom Uc6u1.heap.size Wb Wb) := ⟨KeepsS.refl _ _, KeepsFrom.refl _ _⟩
    obtain ⟨a8, n8, c8, e8⟩ : ∃ a1 n1 c1, fk = .slice a1 n1 c1 := by (obtain ⟨a1, c1, e1⟩ := hI.row.own.form; exact ⟨a1, _, c1, e1⟩)
    clear hI
    subst e8
    gi_wp2
    refine region_round_held (S := fun W' => Bx3R bx rb s W' ∧ BxC Bx (stCells x.1) 33 W') l (by kernel_rfl) (by kernel_rfl) (lets_block lets_round) ⟨HI.out.bxs.drew, HX.out.below (Below.refl _ _).drew⟩ (fun hHeld => ?_)
    obtain ⟨Ud7u0, eW⟩ : ∃ X, X = Wb.drew := ⟨_, rfl⟩
    have hb : Below Wb.heap.size Wb Ud7u0 := by rw [eW]; exact (Below.refl _ _).drew
    replace HI : Hid (RngI F w bx rb s F1 Uc6u1 bk L (updB (behZ L) s.af (insS (behZ L s.af) s.ts)) dk ma mb (.slice a8 n8 c8) E1 Ud7u0) := HI.out.below hb
    replace HK : Hid (KeepsS (fun k => k = bk ∨ ∃ x ∈ E1, x.2.ownBlock = some k) Wb Ud7u0 ∧ KeepsFrom Uc6u1.heap.size Wb Ud7u0) := ⟨HK.out.1.trans (KeepsS.of_below hb (fun j hj => Nat.lt_of_lt_of_le (HSl.out j hj) (Nat.le_trans HWb.out HK.out.1.1))), HK.out.2.trans (keepsFrom_below hb)⟩
    rw [← eW] at hHeld ⊢
    clear eW hb
    refine tkW 0 (some 56) (v := ?_) ?_ hHeld ?_
    rotate_left
    · (intro ww hSw; (try dsimp only at hSw); obtain ⟨hS, hx⟩ := hSw; have p0 := hS.p0; have a0 := hS.a0; have a1 := hS.a1; have f0 := hS.f0; have f1 := hS.f1; have x0 := hx.cell 0 _ rfl; have x1 := hx.cell 1 _ rfl; go_simp; try with_reducible rfl)
    refine tkW 1 (some 57) (v := ?_) ?_ hHeld ?_
    rotate_left
    · (intro ww hSw; (try dsimp only at hSw); obtain ⟨hS, hx⟩ := hSw; have p0 := hS.p0; have a0 := hS.a0; have a1 := hS.a1; have f0 := hS.f0; have f1 := hS.f1; have x0 := hx.cell 0 _ rfl; have x1 := hx.cell 1 _ rfl; go_simp; try with_reducible rfl)
    refine tkW 2 (some 58) (v := ?_) ?_ hHeld ?_
    rotate_left
    · (intro ww hSw; (try dsimp only at hSw); obtain ⟨hS, hx⟩ := hSw; have p0 := hS.p0; have a0 := hS.a0; have a1 := hS.a1; have f0 := hS.f0; have f1 := hS.f1; have x0 := hx.cell 0 _ rfl; have x1 := hx.cell 1 _ rfl; go_simp; try with_reducible rfl)
    refine tkW 3 (some 59) (v := ?_) ?_ hHeld ?_
    rotate_left
    · (intro ww _; go_simp; try with_reducible rfl)
    refine tkW 5 (some 61) (v := ?_) ?_ hHeld ?_
    rotate_left
    · (intro ww hSw; (try dsimp only at hSw); obtain ⟨hS, hx⟩ := hSw; have p0 := hS.p0; have a0 := hS.a0; have a1 := hS.a1; have f0 := hS.f0; have f1 := hS.f1; have x0 := hx.cell 0 _ rfl; have x1 := hx.cell 1 _ rfl; go_simp; try with_reducible rfl)
    refine wpAnyH_ready (rs := [4]) (by kernel_rfl) (by simp) ?_
    refine AllReadyH.cons (o := ⟨some 60, _, _, _, _, _⟩) rfl (fun K hK => ?_) AllReadyH.nil
    have c2 := HI.out.row.c2
    go_simp
    refine hK.out _ _ (hHeld) (fun hHeld2 => ?_)
    clear hK K hHeld
    have hHeld := hHeld2
    clear hHeld2
    (try simp only [Act.put, List.setIfInBounds_toArray, List.set_cons_zero, List.set_cons_succ])
    clear c2
    refine wpAnyH_ready (rs := [6]) (by kernel_rfl) (by simp) ?_
    refine AllReadyH.cons (o := ⟨some 62, _, _, _, _, _⟩) rfl (fun K hK => ?_) AllReadyH.nil
    go_simp
    refine (without_any (.slice a8 n8 c8) _ x.1 _ HI.out.row.own HFk.out HFd.out).mono ?_
    rintro e Ud7u2 ⟨v1, rfl, ho, hg, hv⟩
    (try go_wp2_with fail)
    obtain ⟨a2, n2, c2, e1⟩ : ∃ a1 n1 c1, v1 = .slice a1 n1 c1 := by (obtain ⟨a1, c1, e1⟩ := ho.form; exact ⟨a1, _, c1, e1⟩)
    subst e1
    have HW : Hid (OwnSt 0 Ud7u2 (.slice a2 n2 c2) (delS dk x.1) ∧ Ud7u0.grownBy Ud7u2 (Value.slice a8 n8 c8).ownBlock ∧ (Value.slice a2 n2 c2).ownBlock = (Value.slice a8 n8 c8).ownBlock) := ⟨ho, hg, hv⟩
    have hS2 : Bx3R bx rb s Ud7u2 ∧ BxC Bx (stCells x.1) 33 Ud7u2 := ⟨HI.out.bxGrown hg, hHeld.2.keep (hg.block _ hHeld.2.lt (fun e => by have h8 := HI.out.far (.slice a8 n8 c8) e.symm; have h7 := HBx.out; omega))⟩
    refine hK.out _ _ (hS2) (fun hHeld2 => ?_)
    clear hK K hHeld
    have hHeld := hHeld2
    clear hHeld2
    (try simp only [Act.put, List.setIfInBounds_toArray, List.set_cons_zero, List.set_cons_succ])
    clear ho hg hv hS2
    refine tkW 7 (some 63) (v := ?_) ?_ hHeld ?_
    rotate_left
    · (intro ww hSw; (try dsimp only at hSw); obtain ⟨hS, hx⟩ := hSw; have p0 := hS.p0; have a0 := hS.a0; have a1 := hS.a1; have f0 := hS.f0; have f1 := hS.f1; have x0 := hx.cell 0 _ rfl; have x1 := hx.cell 1 _ rfl; go_simp; try with_reducible rfl)
    refine tkW 8 (some 64) (v := ?_) ?_ hHeld ?_
    rotate_left
    · (intro ww _; go_simp; try with_reducible rfl)
    refine wpAnyH_ready (rs := [9]) (by kernel_rfl) (by simp) ?_
    refine AllReadyH.cons (o := ⟨none, _, _, _, _, _⟩) rfl (fun K hK => ?_) AllReadyH.nil
    obtain ⟨Ud7u3, eW⟩ : ∃ Y, Y = Ud7u2.setCell ⟨rb, 2, none⟩ (Value.slice a2 n2 c2) := ⟨_, rfl⟩
    have hrw : Ud7u2.heap[rb]? = _ := (HW.out.2.1.block rb (HI.out.row.lt _ HI.out.row.fr) (fun e => (HI.out.row.apart HI.out.row.own e.symm).1 rfl)).trans HI.out.row.row
    have hc2 : Ud7u2.cell? ⟨rb, 2, none⟩ = some (.slice a8 n8 c8) := by (rw [cell_of_row Ud7u2 rb 2 _ _ _ hrw]; rfl)
    have hz2 : Ud7u2.frozen? ⟨rb, 2, none⟩ = false := frozen_of_row Ud7u2 rb 2 _ _ hrw
    have hA := HI.out.storeF HW.out.2.1 HW.out.1 HW.out.2.2
    rw [← eW] at hA
    have HI2 : Hid (RngS F w bx rb s F1 Uc6u1 bk L (updB (behZ L) s.af (insS (behZ L s.af) s.ts)) (delS dk x.1) ma mb E1 Ud7u3 ∧ KeepsS (fun k => k = bk ∨ ∃ x ∈ E1, x.2.ownBlock = some k) Wb Ud7u3 ∧ KeepsFrom Uc6u1.heap.size Wb Ud7u3) := ⟨hA.1, HK.out.1.trans hA.2.1, HK.out.2.trans hA.2.2⟩
    have hS2 : Bx3R bx rb s Ud7u3 ∧ BxC Bx (stCells x.1) 33 Ud7u3 := ⟨(by obtain ⟨_, h9⟩ := hA.1; exact h9.bxs), hHeld.2.keep (by rw [eW]; exact Below.heap_setCell _ _ _ _ (fun (e : Bx = rb) => by have h8 := HI.out.rbl; have h7 := HBx.out; omega))⟩
    clear hA hrw
    go_simp
    rw [← eW]
    refine hK.out _ _ (hS2) (fun hHeld2 => ?_)
    clear hK K hHeld
    have hHeld := hHeld2
    clear hHeld2
    (try simp only [Act.put, List.setIfInBounds_toArray, List.set_cons_zero, List.set_cons_succ])
    clear eW hS2 hc2 hz2 HW
    refine wpAnyH_done (by kernel_rfl) ?_ _
    clear hHeld
    gi_wp2
    exact ⟨HI2.out.2.2, HI2.out.2.1, by show RngS _ _ _ _ _ _ _ _ _ _ (delAll _ _) _ _ _ _; rw [HNx.out]; exact HI2.out.1⟩
  case done =>
    rintro Dd Wd hDd ⟨fk, hI⟩ hDf
    have HDl : Hid (Uc6u1.heap.size ≤ Dd) := hDd
    have HDf : Hid (Wd.heap[Dd]? = some (.deferred (some []))) := hDf
    obtain ⟨dk, edk⟩ : ∃ dk, dk = delAll (frL L) (((backL (behZ L s.ts)).map Prod.fst).take (backL (behZ L s.ts)).length) := ⟨_, rfl⟩
    have HDk : Hid (dk = delAll (frL L) (behZ L s.ts).reverse) := by (rw [edk, List.take_of_length_le (by simp), backL_fst]; exact rfl)
    rw [← edk] at hI
    clear edk hDf
    have HI : Hid (RngI F w bx rb s F1 Uc6u1 bk L (updB (behZ L) s.af (insS (behZ L s.af) s.ts)) dk ma mb fk E1 Wd) := hI
    clear hI
    have HFin : Hid (∀ (W' : World) (Dd : Nat) (fk : Value) (E : List (St × Value)), RowIs F1 W' rb (L ++ [s]) (updB (behZ L) s.af (insS (behZ L s.af) s.ts)) dk ma mb fk E → Touch F w W' → Uc6u1.heap.size ≤ Dd → AddP F w rb L s (.returned (.int .i64 0)) (W'.putObj Dd (.deferred none))) := fun W' Dd fk E h1 h2 h3 => by (rw [HDk.out] at h1; exact HAdd.out () W' Dd fk E h1 h2 h3)
    gi_wp2
    refine wpIn_wide.2 ?_
    refine wp_region_held_drew (S := fun W' => Bx3R bx rb s W' ∧ W'.cell? ⟨rb, 0, none⟩ = some (.map (some ma))) (by kernel_rfl) ⟨HI.out.bxs.drew, HI.out.row.c0⟩ (fun hHeld => ?_)
    obtain ⟨Ue8u0, eW⟩ : ∃ X, X = Wd.drew := ⟨_, rfl⟩
    have hb : Below Wd.heap.size Wd Ue8u0 := by rw [eW]; exact (Below.refl _ _).drew
    replace HI : Hid (RngI F w bx rb s F1 Uc6u1 bk L (updB (behZ L) s.af (insS (behZ L s.af) s.ts)) dk ma mb fk E1 Ue8u0) := HI.out.below hb
    replace HDf : Hid (Ue8u0.heap[Dd]? = some (.deferred (some []))) := (hb.block _ (row_lt HDf.out)).trans HDf.out
    rw [← eW] at hHeld ⊢
    clear eW hb
    refine tkW 0 (some 65) (v := ?_) ?_ hHeld ?_
    rotate_left
    · (intro ww hSw; (try dsimp only at hSw); obtain ⟨hS, hc0⟩ := hSw; have p0 := hS.p0; have a0 := hS.a0; have a1 := hS.a1; have f0 := hS.f0; have f1 := hS.f1; go_simp; try with_reducible rfl)
    refine tkW 1 (some 66) (v := ?_) ?_ hHeld ?_
    rotate_left
    · (intro ww hSw; (try dsimp only at hSw); obtain ⟨hS, hc0⟩ := hSw; have p0 := hS.p0; have a0 := hS.a0; have a1 := hS.a1; have f0 := hS.f0; have f1 := hS.f1; go_simp; try with_reducible rfl)
    refine tkW 2 (some 67) (v := ?_) ?_ hHeld ?_
    rotate_left
    · (intro ww _; go_simp; try with_reducible rfl)
    refine tkW 3 (some 68) (v := ?_) ?_ hHeld ?_
    rotate_left
    · (intro ww hSw; (try dsimp only at hSw); obtain ⟨hS, hc0⟩ := hSw; have p0 := hS.p0; have a0 := hS.a0; have a1 := hS.a1; have f0 := hS.f0; have f1 := hS.f1; go_simp; try with_reducible rfl)
    refine tkW 4 (some 69) (v := ?_) ?_ hHeld ?_
    rotate_left
    · (intro ww hSw; (try dsimp only at hSw); obtain ⟨hS, hc0⟩ := hSw; have p0 := hS.p0; have a0 := hS.a0; have a1 := hS.a1; have f0 := hS.f0; have f1 := hS.f1; go_simp; try with_reducible rfl)
    refine tkW 5 (some 70) (v := ?_) ?_ hHeld ?_
    rotate_left
    · (intro ww hSw; (try dsimp only at hSw); obtain ⟨hS, hc0⟩ := hSw; have p0 := hS.p0; have a0 := hS.a0; have a1 := hS.a1; have f0 := hS.f0; have f1 := hS.f1; go_simp; try with_reducible rfl)
    refine wpAnyH_ready (rs := [6]) (by kernel_rfl) (by simp) ?_
    refine AllReadyH.cons (o := ⟨none, _, _, _, _, _⟩) rfl (fun K hK => ?_) AllReadyH.nil
    obtain ⟨Ue8u1, hst, hA⟩ := HI.out.storeA HOk.out HNo.out
    have hst2 : (Instr.mapUpdate 53 (.map (some ma)) (.agg #[.int .i64 s.ts.1, .int .i64 s.ts.2]) (.agg #[.int .i64 s.af.1, .int .i64 s.af.2])).run Try.prog Ue8u0 = .ok () Ue8u1 := hst
    have HF : Hid (RowIs F1 Ue8u1 rb (L ++ [s]) (updB (behZ L) s.af (insS (behZ L s.af) s.ts)) dk ma mb fk E1 ∧ Touch F w Ue8u1 ∧ Ue8u1.heap[Dd]? = some (.deferred (some []))) := ⟨hA.1, hA.2.1, (hA.2.2 Dd (.inl ⟨Nat.le_trans HDl.out (Nat.le_refl _), row_lt HDf.out⟩)).trans HDf.out⟩
    have hS2 : Bx3R bx rb s Ue8u1 ∧ Ue8u1.cell? ⟨rb, 0, none⟩ = some (.map (some ma)) := ⟨HI.out.bxs.keep fun j h1 h2 => hA.2.2 j (.inr ⟨h1, h2⟩), hA.1.c0⟩
    clear hst hA
    go_simp
    refine hK.out _ _ (hS2) (fun hHeld2 => ?_)
    clear hK K hHeld
    have hHeld := hHeld2
    clear hHeld2
    (try simp only [Act.put, List.setIfInBounds_toArray, List.set_cons_zero, List.set_cons_succ])
    clear hst2 hS2
    refine wpAnyH_done (by kernel_rfl) ?_ _
    clear hHeld
    gi_wp2
    refine ⟨by simp, .inl ⟨_, _, rfl, run_takeDeferred HF.out.2.2, ?_⟩⟩
    refine ⟨_, results_tmp rfl _ _ _, ?_⟩
    exact HFin.out _ _ fk E1 HF.out.1 HF.out.2.1 HDl.out
  case stop => rintro D c k W hD hk hf; exact hf.elim

end Go.Proofs.Ytfgkdbidgbpobaa
