/- OplogClones of package topiarylaw07 is proved at this commit: for every input (a list of changes, a list of changes, any) the call returns true and the arguments read as they did. No condition. -/
import Derived.Test.YtckipepodohnpaaGreatOlA
import Derived.Test.YtckipepodohnpaaGreatCkA
import Derived.Test.YtckipepodohnpaaGreatOlB
import Derived.Test.YtckipepodohnpaaGreatOlW1
import Derived.Test.YtckipepodohnpaaGreatOlY2
import Derived.Test.YtckipepodohnpaaGreatZI
import Derived.Test.YtckipepodohnpaaGreatOlV5
import Derived.Deep.MidRow
import Derived.Test.YtckipepodohnpaaGreatBaseO
namespace Go.Proofs.YtckipepodohnpaaGreat
open Go.RowKit
set_option linter.unusedVariables false
set_option linter.unusedSimpArgs false

set_option maxRecDepth 100000 in
set_option maxHeartbeats 8000000 in
theorem refSameCh_eq (ac ar sq : Int) (v1 v2 : Value) (kd nc nr pc pr fc fr : Int) (nm vl : ByteArray) (ds : List Int) (w : World) (h1 : IsI w v1 ds) (h2 : IsI w v2 ds) :
    Calls Tryz.prog 18 #[.agg #[.int .i64 ac, .int .i64 ar, .int .i64 sq, v1, .int .i64 kd, .int .i64 nc, .int .i64 nr, .int .i64 pc, .int .i64 pr, .int .i64 fc, .int .i64 fr, .string nm, .string vl], .agg #[.int .i64 ac, .int .i64 ar, .int .i64 sq, v2, .int .i64 kd, .int .i64 nc, .int .i64 nr, .int .i64 pc, .int .i64 pr, .int .i64 fc, .int .i64 fr, .string nm, .string vl]] w fun e w' => e = .returned (.bool true) ∧ Below w.heap.size w w' := by
  obtain ⟨a1, c1, e1⟩ := h1.form
  subst e1
  obtain ⟨a2, c2, e2⟩ := h2.form
  subst e2
  have K0 := KeptC.start w [.int .i64 ac, .int .i64 ar, .int .i64 sq, .slice a1 ds.length c1, .int .i64 kd, .int .i64 nc, .int .i64 nr, .int .i64 pc, .int .i64 pr, .int .i64 fc, .int .i64 fr, .string nm, .string vl] 34
  have M0 := KeptC.start (w.alloc (.cells #[.int .i64 ac, .int .i64 ar, .int .i64 sq, .slice a1 ds.length c1, .int .i64 kd, .int .i64 nc, .int .i64 nr, .int .i64 pc, .int .i64 pr, .int .i64 fc, .int .i64 fr, .string nm, .string vl] 34)) [.int .i64 ac, .int .i64 ar, .int .i64 sq, .slice a2 ds.length c2, .int .i64 kd, .int .i64 nc, .int .i64 nr, .int .i64 pc, .int .i64 pr, .int .i64 fc, .int .i64 fr, .string nm, .string vl] 34
  rw [show (w.alloc (.cells #[.int .i64 ac, .int .i64 ar, .int .i64 sq, .slice a1 ds.length c1, .int .i64 kd, .int .i64 nc, .int .i64 nr, .int .i64 pc, .int .i64 pr, .int .i64 fc, .int .i64 fr, .string nm, .string vl] 34)).heap.size = w.heap.size + 1 by simp] at M0
  have K1 := K0.step M0.2.2
  have H1 : Hid (IsI _ (.slice a1 ds.length c1) ds) := h1.below K1.2.2
  have H2 : Hid (IsI _ (.slice a2 ds.length c2) ds) := h2.below K1.2.2
  clear h1 h2
  go_enter Tryz.func18, Tryz.ntmps18
  go_wp2_with fail
  refine (sameI_any _ _ ds ds _ H1.out H2.out).mono ?_
  rintro e w1 ⟨rfl, hb1⟩
  have d0 : decide (ds = ds) = true := by simp
  rw [d0]
  have K2 := K1.step hb1
  have M2 := M0.step hb1
  obtain ⟨k_0, k_1, k_2, k_3, k_4, k_5, k_6, k_7, k_8, k_9, k_10, k_11, k_12⟩ := K2.all
  obtain ⟨m_0, m_1, m_2, m_3, m_4, m_5, m_6, m_7, m_8, m_9, m_10, m_11, m_12⟩ := M2.all
  have q1 : (nm.toList == nm.toList) = true := by simp
  have q2 : (vl.toList == vl.toList) = true := by simp
  go_wp2
  go_ret
  exact ⟨rfl, K2.2.2⟩

end Go.Proofs.YtckipepodohnpaaGreat

namespace Go.Proofs.YtckipepodohnpaaGreat
open Go.RowKit
set_option linter.unusedVariables false
set_option linter.unusedSimpArgs false

theorem rangeAt_below {w W : World} {b o : Nat} {c : Ch} {dv : Value} (h : w.rangeAt b o (chCells c dv)) (hb : Below w.heap.size w W) : W.rangeAt b o (chCells c dv) := fun j v hj => by
  have h0 := h 0 _ rfl
  have hlt : b < w.heap.size := by
    rcases Nat.lt_or_ge b w.heap.size with h' | h'
    · exact h'
    · simp [World.cell?, h'] at h0
  exact (hb.cell (p := ⟨b, o + j, none⟩) hlt).trans (h j v hj)

set_option maxRecDepth 100000 in
set_option maxHeartbeats 4000000 in
theorem sameAll_eq (v1 v2 : Value) (L : List Ch) (w : World) (h1 : IsH w v1 L) (h2 : IsH w v2 L) :
    Calls Tryz.prog 23 #[v1, v2] w fun e w' => e = .returned (.bool true) ∧ Below w.heap.size w w' := by
  obtain ⟨a1, c1, rfl, hc1, hl1, r1⟩ := h1
  obtain ⟨a2, c2, rfl, hc2, hl2, r2⟩ := h2
  have R1 : Hid (L = [] ∨ ∃ b o, a1 = some ⟨b, o, none⟩ ∧ ChsAt w b o L) := r1
  have R2 : Hid (L = [] ∨ ∃ b o, a2 = some ⟨b, o, none⟩ ∧ ChsAt w b o L) := r2
  have q : ((L.length : Int) != (L.length : Int)) = false := by simp
  clear r1 r2
  go_enter Tryz.func23, Tryz.ntmps23
  go_wp2
  go_loopw [5] (fun i wr => ∃ k : Nat, k ≤ L.length ∧ i = .int .i64 (k : Int) ∧ Below w.heap.size w wr) (fun i _ => L.length - (intOf i).toNat)
  case atStart => exact ⟨0, Nat.zero_le _, rfl, Below.refl _ _⟩
  case round =>
    obtain ⟨k, hk, rfl, hb⟩ := hrel
    by_cases hlt : k < L.length
    · obtain ⟨b1, o1, rfl, g1⟩ := R1.out.resolve_left (by intro e; subst e; simp at hlt)
      obtain ⟨b2, o2, rfl, g2⟩ := R2.out.resolve_left (by intro e; subst e; simp at hlt)
      obtain ⟨a3, c3, i3, hs3, x3⟩ := (g1 k hlt).open
      obtain ⟨a4, c4, i4, hs4, x4⟩ := (g2 k hlt).open
      have k1 : (k : Int) < (L.length : Int) := by omega
      have k0 : (0 : Int) ≤ (k : Int) := by omega
      generalize L[k] = c at *
      have X3 : Hid (w.rangeAt b1 (o1 + k * 13) (chCells c (.slice a3 c.deps.length c3))) := x3
      have X4 : Hid (w.rangeAt b2 (o2 + k * 13) (chCells c (.slice a4 c.deps.length c4))) := x4
      have I3 : Hid (IsI w (.slice a3 c.deps.length c3) c.deps) := i3
      have I4 : Hid (IsI w (.slice a4 c.deps.length c4) c.deps) := i4
      have HB : Hid (Below w.heap.size w wr) := hb
      have hsw := hb.size
      clear g1 g2 i3 i4 hs3 hs4 x3 x4 hb
      go_upto_region 6 with fail
      refine wp_region_held_drew (S := fun W' => Below w.heap.size w W') (by kernel_rfl) (below_drewN HB.out 1) (fun hHeld => ?_)
      obtain ⟨Ua0, eW⟩ : ∃ X, X = wr.drew := ⟨_, rfl⟩
      rw [← eW] at hHeld ⊢
      clear eW
      refine wpAnyH_take (i := 0) (oi := ⟨some 17, _, _, _, _, _⟩) (v := ?vax0) rfl (by kernel_rfl) (by kernel_rfl) (by kernel_rfl) (fun _ _ _ h => h) (Or.inl ⟨by rfl, ?hyax0⟩) hHeld ?restax0
      case hyax0 => (intro w hSw; (try dsimp only at hSw); go_simp; try with_reducible rfl)
      simp only [Act.put, List.setIfInBounds_toArray, List.set_cons_zero, List.set_cons_succ]
      refine wpAnyH_take (i := 1) (oi := ⟨some 18, _, _, _, _, _⟩) (v := ?vax1) rfl (by kernel_rfl) (by kernel_rfl) (by kernel_rfl) (fun _ _ _ h => h) (Or.inl ⟨by rfl, ?hyax1⟩) hHeld ?restax1
      case hyax1 => (intro w hSw; (try dsimp only at hSw); go_simp; try with_reducible rfl)
      simp only [Act.put, List.setIfInBounds_toArray, List.set_cons_zero, List.set_cons_succ]
      refine wpAnyH_take (i := 2) (oi := ⟨some 19, _, _, _, _, _⟩) (v := ?vax2) rfl (by kernel_rfl) (by kernel_rfl) (by kernel_rfl) (fun _ _ _ h => h) (Or.inl ⟨by rfl, ?hyax2⟩) hHeld ?restax2
      case hyax2 => (intro w hSw; (try dsimp only at hSw); go_simp; try with_reducible rfl)
      simp only [Act.put, List.setIfInBounds_toArray, List.set_cons_zero, List.set_cons_succ]
      refine wpAnyH_take (i := 3) (oi := ⟨some 20, _, _, _, _, _⟩) (v := .agg (chCells c (.slice a3 c.deps.length c3)).toArray) rfl (by kernel_rfl) (by kernel_rfl) (by kernel_rfl) (fun _ _ _ h => h) (yieldsIf_load_mid (by rfl) 34 (.tmp 19) rfl b1 (o1 + k * 13) rfl (chCells c (.slice a3 c.deps.length c3)) _ (fun W hS => rangeAt_below X3.out hS) Tryz.underlying34 rfl sizeChange) hHeld ?_
      simp only [Act.put, List.setIfInBounds_toArray, List.set_cons_zero, List.set_cons_succ]
      refine wpAnyH_take (i := 4) (oi := ⟨some 21, _, _, _, _, _⟩) (v := ?vax4) rfl (by kernel_rfl) (by kernel_rfl) (by kernel_rfl) (fun _ _ _ h => h) (Or.inl ⟨by rfl, ?hyax4⟩) hHeld ?restax4
      case hyax4 => (intro w hSw; (try dsimp only at hSw); go_simp; try with_reducible rfl)
      simp only [Act.put, List.setIfInBounds_toArray, List.set_cons_zero, List.set_cons_succ]
      refine wpAnyH_take (i := 5) (oi := ⟨some 22, _, _, _, _, _⟩) (v := ?vax5) rfl (by kernel_rfl) (by kernel_rfl) (by kernel_rfl) (fun _ _ _ h => h) (Or.inl ⟨by rfl, ?hyax5⟩) hHeld ?restax5
      case hyax5 => (intro w hSw; (try dsimp only at hSw); go_simp; try with_reducible rfl)
      simp only [Act.put, List.setIfInBounds_toArray, List.set_cons_zero, List.set_cons_succ]
      refine wpAnyH_take (i := 6) (oi := ⟨some 23, _, _, _, _, _⟩) (v := ?vax6) rfl (by kernel_rfl) (by kernel_rfl) (by kernel_rfl) (fun _ _ _ h => h) (Or.inl ⟨by rfl, ?hyax6⟩) hHeld ?restax6
      case hyax6 => (intro w hSw; (try dsimp only at hSw); go_simp; try with_reducible rfl)
      simp only [Act.put, List.setIfInBounds_toArray, List.set_cons_zero, List.set_cons_succ]
      refine wpAnyH_take (i := 7) (oi := ⟨some 24, _, _, _, _, _⟩) (v := .agg (chCells c (.slice a4 c.deps.length c4)).toArray) rfl (by kernel_rfl) (by kernel_rfl) (by kernel_rfl) (fun _ _ _ h => h) (yieldsIf_load_mid (by rfl) 34 (.tmp 23) rfl b2 (o2 + k * 13) rfl (chCells c (.slice a4 c.deps.length c4)) _ (fun W hS => rangeAt_below X4.out hS) Tryz.underlying34 rfl sizeChange) hHeld ?_
      simp only [Act.put, List.setIfInBounds_toArray, List.set_cons_zero, List.set_cons_succ]
      refine wpAnyH_ready (rs := [8]) (by kernel_rfl) (by simp) ?_
      refine AllReadyH.cons (o := ⟨some 25, _, _, _, _, _⟩) rfl (fun K hK => ?_) AllReadyH.nil
      go_simp
      refine (refSameCh_eq c.ac c.ar c.seq (.slice a3 c.deps.length c3) (.slice a4 c.deps.length c4) c.kind c.nc c.nr c.pc c.pr c.fc c.fr c.name c.value c.deps _ (I3.out.below hHeld) (I4.out.below hHeld)).mono ?_
      rintro e Va1 ⟨rfl, hb⟩
      (try go_wp2_with fail)
      refine hK.out _ _ (hHeld.trans (hb.mono hHeld.size)) (fun hHeld2 => ?_)
      clear hK K hHeld
      have hHeld := hHeld2
      clear hHeld2
      (try simp only [Act.put, List.setIfInBounds_toArray, List.set_cons_zero, List.set_cons_succ])
      clear hb
      refine wpAnyH_take (i := 9) (oi := ⟨some 26, _, _, _, _, _⟩) (v := ?va_8x9) rfl (by kernel_rfl) (by kernel_rfl) (by kernel_rfl) (fun _ _ _ h => h) (Or.inl ⟨by rfl, ?hya_8x9⟩) hHeld ?resta_8x9
      case hya_8x9 => (intro w hSw; (try dsimp only at hSw); go_simp; try with_reducible rfl)
      simp only [Act.put, List.setIfInBounds_toArray, List.set_cons_zero, List.set_cons_succ]
      refine wpAnyH_done (by kernel_rfl) ?_ _
      have HZ := hHeld
      clear hHeld
      go_wp2
      go_roundw
      case rel => exact ⟨k + 1, by omega, by go_num, HZ⟩
      case measure => simp [intOf]; omega
    · go_wp2
      go_ret
      exact ⟨rfl, hb⟩

end Go.Proofs.YtckipepodohnpaaGreat

namespace Go.Proofs.YtckipepodohnpaaGreat
open Go.RowKit
set_option linter.unusedVariables false
set_option linter.unusedSimpArgs false

theorem all_any (v : Value) (room : Int) (L : List Ch) (F : Nat → Prop) (w : World) (h : LogV F w v room L) (hg : Good L) (hl : L.length ≤ 4096) :
    Calls Tryz.prog 29 #[v] w fun e w' => ∃ v' E, e = .returned v' ∧ E.map Prod.fst = L ∧ OwnH w.heap.size w' v' E ∧ (∀ x ∈ E, OwnI w.heap.size w' x.2 x.1.deps ∧ Sized x.1 ∧ x.1.deps.length ≤ 17592186044416) ∧ Below w.heap.size w w' :=
  (callsIn_wide.1 (all_in 5 (Nat.le_refl _) v room L F w h hg.srt hl)).mono fun e w' ⟨v', E, h1, h2, h3⟩ => ⟨v', E, h1, h2.trans (lackL_all hg), h3⟩

set_option maxRecDepth 100000 in
set_option maxHeartbeats 16000000 in
theorem told_any (F : Nat → Prop) (v : Value) (room : Int) (L : List Ch) (yv : Value) (w : World) (h : LogV F w v room L) (hy : IsH w yv L) (hg : Good L) (hl : L.length ≤ 4096) :
    Calls Tryz.prog 14 #[v, .agg #[.int .i64 room, yv]] w fun e w' => e = .returned (.bool true) ∧ Below w.heap.size w w' := by
  obtain ⟨ay, cy, ey⟩ := hy.form
  subst ey
  obtain ⟨W0, eW⟩ : ∃ X, X = w.alloc (.cells #[.int .i64 room, .slice ay L.length cy] 29) := ⟨_, rfl⟩
  have hb0 : Below w.heap.size w W0 := by rw [eW]; exact (Below.refl _ _).alloc (Nat.le_refl _) _
  have HRow : Hid (W0.drew.heap[w.heap.size]? = some (.cells #[.int .i64 room, .slice ay L.length cy] 29)) := by rw [eW]; exact heap_alloc_new _ _
  have HLv : Hid (LogV F W0 v room L) := h.below hb0
  have HH : Hid (IsH W0 (.slice ay L.length cy) L) := hy.below hb0
  have HBw : Hid (Below w.heap.size w W0) := hb0
  have HG : Hid (Good L) := hg
  have HLm : Hid (L.foldl (fun m c => max m c.ac) 0 = lastL L) := lastL_max hg
  clear h hy hg hb0
  go_enter Tryz.func14, Tryz.ntmps14
  go_upto_region 1 with fail
  rw [← eW]
  clear eW
  refine wp_region_held_drew (S := fun W' => W'.heap[w.heap.size]? = some (.cells #[.int .i64 room, .slice ay L.length cy] 29)) (by kernel_rfl) HRow.out (fun hHeld => ?_)
  obtain ⟨Ut1u0, eW⟩ : ∃ X, X = W0.drew := ⟨_, rfl⟩
  have hb : Below W0.heap.size W0 Ut1u0 := by rw [eW]; exact (Below.refl _ _).drew
  replace HLv : Hid (LogV F Ut1u0 v room L) := HLv.out.below hb
  replace HH : Hid (IsH Ut1u0 (.slice ay L.length cy) L) := HH.out.below hb
  replace HBw : Hid (Below w.heap.size w Ut1u0) := HBw.out.trans (hb.mono HBw.out.size)
  rw [← eW] at hHeld ⊢
  clear eW hb
  refine wpAnyH_take (i := 0) (oi := ⟨some 5, _, _, _, _, _⟩) (v := ?vt1ux0) rfl (by kernel_rfl) (by kernel_rfl) (by kernel_rfl) (fun _ _ _ h => h) (Or.inl ⟨by rfl, ?hyt1ux0⟩) hHeld ?restt1ux0
  case hyt1ux0 => (intro w _; go_simp; try with_reducible rfl)
  simp only [Act.put, List.setIfInBounds_toArray, List.set_cons_zero, List.set_cons_succ]
  refine wpAnyH_take (i := 2) (oi := ⟨some 7, _, _, _, _, _⟩) (v := ?vt1ux2) rfl (by kernel_rfl) (by kernel_rfl) (by kernel_rfl) (fun _ _ _ h => h) (Or.inl ⟨by rfl, ?hyt1ux2⟩) hHeld ?restt1ux2
  case hyt1ux2 => (intro w _; go_simp; try with_reducible rfl)
  simp only [Act.put, List.setIfInBounds_toArray, List.set_cons_zero, List.set_cons_succ]
  refine wpAnyH_take (i := 3) (oi := ⟨some 8, _, _, _, _, _⟩) (v := ?vt1ux3) rfl (by kernel_rfl) (by kernel_rfl) (by kernel_rfl) (fun _ _ _ h => h) (Or.inl ⟨by rfl, ?hyt1ux3⟩) hHeld ?restt1ux3
  case hyt1ux3 => (intro w hSw; (try dsimp only at hSw); have hk := hSw; obtain ⟨x_0, x_1, _, _⟩ := row2_cells hk; go_simp; try with_reducible rfl)
  simp only [Act.put, List.setIfInBounds_toArray, List.set_cons_zero, List.set_cons_succ]
  refine wpAnyH_take (i := 4) (oi := ⟨some 9, _, _, _, _, _⟩) (v := ?vt1ux4) rfl (by kernel_rfl) (by kernel_rfl) (by kernel_rfl) (fun _ _ _ h => h) (Or.inl ⟨by rfl, ?hyt1ux4⟩) hHeld ?restt1ux4
  case hyt1ux4 => (intro w hSw; (try dsimp only at hSw); have hk := hSw; obtain ⟨x_0, x_1, _, _⟩ := row2_cells hk; go_simp; try with_reducible rfl)
  simp only [Act.put, List.setIfInBounds_toArray, List.set_cons_zero, List.set_cons_succ]
  refine wpAnyH_ready (rs := [1]) (by kernel_rfl) (by simp) ?_
  refine AllReadyH.cons (o := ⟨some 6, _, _, _, _, _⟩) rfl (fun K hK => ?_) AllReadyH.nil
  go_simp
  refine (len_any _ room L F _ HLv.out).mono ?_
  rintro e Ut1u1 ⟨rfl, hb⟩
  (try go_wp2_with fail)
  refine hK.out _ _ ((hb.block _ (row_lt hHeld)).trans hHeld) (fun hHeld2 => ?_)
  clear hK K hHeld
  have hHeld := hHeld2
  clear hHeld2
  (try simp only [Act.put, List.setIfInBounds_toArray, List.set_cons_zero, List.set_cons_succ])
  replace HLv : Hid (LogV F Ut1u1 v room L) := HLv.out.below hb
  replace HH : Hid (IsH Ut1u1 (.slice ay L.length cy) L) := HH.out.below hb
  replace HBw : Hid (Below w.heap.size w Ut1u1) := HBw.out.trans (hb.mono HBw.out.size)
  clear hb
  refine wpAnyH_take (i := 5) (oi := ⟨some 10, _, _, _, _, _⟩) (v := ?vt1u_1x5) rfl (by kernel_rfl) (by kernel_rfl) (by kernel_rfl) (fun _ _ _ h => h) (Or.inl ⟨by rfl, ?hyt1u_1x5⟩) hHeld ?restt1u_1x5
  case hyt1u_1x5 => (intro w hSw; (try dsimp only at hSw); have hk := hSw; obtain ⟨x_0, x_1, _, _⟩ := row2_cells hk; go_simp; try with_reducible rfl)
  simp only [Act.put, List.setIfInBounds_toArray, List.set_cons_zero, List.set_cons_succ]
  refine wpAnyH_take (i := 6) (oi := ⟨some 11, _, _, _, _, _⟩) (v := ?vt1u_1x6) rfl (by kernel_rfl) (by kernel_rfl) (by kernel_rfl) (fun _ _ _ h => h) (Or.inl ⟨by rfl, ?hyt1u_1x6⟩) hHeld ?restt1u_1x6
  case hyt1u_1x6 => (intro w _; go_simp; try with_reducible rfl)
  simp only [Act.put, List.setIfInBounds_toArray, List.set_cons_zero, List.set_cons_succ]
  refine wpAnyH_take (i := 7) (oi := ⟨some 12, _, _, _, _, _⟩) (v := ?vt1u_1x7) rfl (by kernel_rfl) (by kernel_rfl) (by kernel_rfl) (fun _ _ _ h => h) (Or.inl ⟨by rfl, ?hyt1u_1x7⟩) hHeld ?restt1u_1x7
  case hyt1u_1x7 => (intro w _; go_simp; try with_reducible rfl)
  simp only [Act.put, List.setIfInBounds_toArray, List.set_cons_zero, List.set_cons_succ]
  refine wpAnyH_take (i := 9) (oi := ⟨some 14, _, _, _, _, _⟩) (v := ?vt1u_1x9) rfl (by kernel_rfl) (by kernel_rfl) (by kernel_rfl) (fun _ _ _ h => h) (Or.inl ⟨by rfl, ?hyt1u_1x9⟩) hHeld ?restt1u_1x9
  case hyt1u_1x9 => (intro w _; go_simp; try with_reducible rfl)
  simp only [Act.put, List.setIfInBounds_toArray, List.set_cons_zero, List.set_cons_succ]
  refine wpAnyH_take (i := 10) (oi := ⟨some 15, _, _, _, _, _⟩) (v := ?vt1u_1x10) rfl (by kernel_rfl) (by kernel_rfl) (by kernel_rfl) (fun _ _ _ h => h) (Or.inl ⟨by rfl, ?hyt1u_1x10⟩) hHeld ?restt1u_1x10
  case hyt1u_1x10 => (intro w hSw; (try dsimp only at hSw); have hk := hSw; obtain ⟨x_0, x_1, _, _⟩ := row2_cells hk; go_simp; try with_reducible rfl)
  simp only [Act.put, List.setIfInBounds_toArray, List.set_cons_zero, List.set_cons_succ]
  refine wpAnyH_ready (rs := [8]) (by kernel_rfl) (by simp) ?_
  refine AllReadyH.cons (o := ⟨some 13, _, _, _, _, _⟩) rfl (fun K hK => ?_) AllReadyH.nil
  go_simp
  refine (room_any _ room L F _ HLv.out).mono ?_
  rintro e Ut1u2 ⟨rfl, hb⟩
  (try go_wp2_with fail)
  refine hK.out _ _ ((hb.block _ (row_lt hHeld)).trans hHeld) (fun hHeld2 => ?_)
  clear hK K hHeld
  have hHeld := hHeld2
  clear hHeld2
  (try simp only [Act.put, List.setIfInBounds_toArray, List.set_cons_zero, List.set_cons_succ])
  replace HLv : Hid (LogV F Ut1u2 v room L) := HLv.out.below hb
  replace HH : Hid (IsH Ut1u2 (.slice ay L.length cy) L) := HH.out.below hb
  replace HBw : Hid (Below w.heap.size w Ut1u2) := HBw.out.trans (hb.mono HBw.out.size)
  clear hb
  refine wpAnyH_take (i := 11) (oi := ⟨some 16, _, _, _, _, _⟩) (v := ?vt1u_1_8x11) rfl (by kernel_rfl) (by kernel_rfl) (by kernel_rfl) (fun _ _ _ h => h) (Or.inl ⟨by rfl, ?hyt1u_1_8x11⟩) hHeld ?restt1u_1_8x11
  case hyt1u_1_8x11 => (intro w hSw; (try dsimp only at hSw); have hk := hSw; obtain ⟨x_0, x_1, _, _⟩ := row2_cells hk; go_simp; try with_reducible rfl)
  simp only [Act.put, List.setIfInBounds_toArray, List.set_cons_zero, List.set_cons_succ]
  refine wpAnyH_take (i := 12) (oi := ⟨some 17, _, _, _, _, _⟩) (v := ?vt1u_1_8x12) rfl (by kernel_rfl) (by kernel_rfl) (by kernel_rfl) (fun _ _ _ h => h) (Or.inl ⟨by rfl, ?hyt1u_1_8x12⟩) hHeld ?restt1u_1_8x12
  case hyt1u_1_8x12 => (intro w _; go_simp; try with_reducible rfl)
  simp only [Act.put, List.setIfInBounds_toArray, List.set_cons_zero, List.set_cons_succ]
  refine wpAnyH_take (i := 13) (oi := ⟨some 18, _, _, _, _, _⟩) (v := ?vt1u_1_8x13) rfl (by kernel_rfl) (by kernel_rfl) (by kernel_rfl) (fun _ _ _ h => h) (Or.inl ⟨by rfl, ?hyt1u_1_8x13⟩) hHeld ?restt1u_1_8x13
  case hyt1u_1_8x13 => (intro w _; go_simp; try with_reducible rfl)
  simp only [Act.put, List.setIfInBounds_toArray, List.set_cons_zero, List.set_cons_succ]
  refine wpAnyH_take (i := 14) (oi := ⟨some 19, _, _, _, _, _⟩) (v := ?vt1u_1_8x14) rfl (by kernel_rfl) (by kernel_rfl) (by kernel_rfl) (fun _ _ _ h => h) (Or.inl ⟨by rfl, ?hyt1u_1_8x14⟩) hHeld ?restt1u_1_8x14
  case hyt1u_1_8x14 => (intro w _; go_simp; try with_reducible rfl)
  simp only [Act.put, List.setIfInBounds_toArray, List.set_cons_zero, List.set_cons_succ]
  refine wpAnyH_take (i := 16) (oi := ⟨some 21, _, _, _, _, _⟩) (v := ?vt1u_1_8x16) rfl (by kernel_rfl) (by kernel_rfl) (by kernel_rfl) (fun _ _ _ h => h) (Or.inl ⟨by rfl, ?hyt1u_1_8x16⟩) hHeld ?restt1u_1_8x16
  case hyt1u_1_8x16 => (intro w _; go_simp; try with_reducible rfl)
  simp only [Act.put, List.setIfInBounds_toArray, List.set_cons_zero, List.set_cons_succ]
  refine wpAnyH_take (i := 17) (oi := ⟨some 22, _, _, _, _, _⟩) (v := ?vt1u_1_8x17) rfl (by kernel_rfl) (by kernel_rfl) (by kernel_rfl) (fun _ _ _ h => h) (Or.inl ⟨by rfl, ?hyt1u_1_8x17⟩) hHeld ?restt1u_1_8x17
  case hyt1u_1_8x17 => (intro w hSw; (try dsimp only at hSw); have hk := hSw; obtain ⟨x_0, x_1, _, _⟩ := row2_cells hk; go_simp; try with_reducible rfl)
  simp only [Act.put, List.setIfInBounds_toArray, List.set_cons_zero, List.set_cons_succ]
  refine wpAnyH_ready (rs := [15]) (by kernel_rfl) (by simp) ?_
  refine AllReadyH.cons (o := ⟨some 20, _, _, _, _, _⟩) rfl (fun K hK => ?_) AllReadyH.nil
  go_simp
  refine (last_any _ room L F _ HLv.out hl).mono ?_
  rintro e Ut1u3 ⟨rfl, hb⟩
  (try go_wp2_with fail)
  refine hK.out _ _ ((hb.block _ (row_lt hHeld)).trans hHeld) (fun hHeld2 => ?_)
  clear hK K hHeld
  have hHeld := hHeld2
  clear hHeld2
  (try simp only [Act.put, List.setIfInBounds_toArray, List.set_cons_zero, List.set_cons_succ])
  replace HLv : Hid (LogV F Ut1u3 v room L) := HLv.out.below hb
  replace HH : Hid (IsH Ut1u3 (.slice ay L.length cy) L) := HH.out.below hb
  replace HBw : Hid (Below w.heap.size w Ut1u3) := HBw.out.trans (hb.mono HBw.out.size)
  clear hb
  refine wpAnyH_ready (rs := [18]) (by kernel_rfl) (by simp) ?_
  refine AllReadyH.cons (o := ⟨some 23, _, _, _, _, _⟩) rfl (fun K hK => ?_) AllReadyH.nil
  go_simp
  refine (refLast_any _ L _ HH.out).mono ?_
  rintro e Ut1u4 ⟨rfl, hb⟩
  rw [HLm.out]
  (try go_wp2_with fail)
  refine hK.out _ _ ((hb.block _ (row_lt hHeld)).trans hHeld) (fun hHeld2 => ?_)
  clear hK K hHeld
  have hHeld := hHeld2
  clear hHeld2
  (try simp only [Act.put, List.setIfInBounds_toArray, List.set_cons_zero, List.set_cons_succ])
  replace HLv : Hid (LogV F Ut1u4 v room L) := HLv.out.below hb
  replace HH : Hid (IsH Ut1u4 (.slice ay L.length cy) L) := HH.out.below hb
  replace HBw : Hid (Below w.heap.size w Ut1u4) := HBw.out.trans (hb.mono HBw.out.size)
  clear hb
  refine wpAnyH_take (i := 19) (oi := ⟨some 24, _, _, _, _, _⟩) (v := ?vt1u_1_8_15_18x19) rfl (by kernel_rfl) (by kernel_rfl) (by kernel_rfl) (fun _ _ _ h => h) (Or.inl ⟨by rfl, ?hyt1u_1_8_15_18x19⟩) hHeld ?restt1u_1_8_15_18x19
  case hyt1u_1_8_15_18x19 => (intro w hSw; (try dsimp only at hSw); have hk := hSw; obtain ⟨x_0, x_1, _, _⟩ := row2_cells hk; go_simp; try with_reducible rfl)
  simp only [Act.put, List.setIfInBounds_toArray, List.set_cons_zero, List.set_cons_succ]
  refine wpAnyH_take (i := 20) (oi := ⟨some 25, _, _, _, _, _⟩) (v := ?vt1u_1_8_15_18x20) rfl (by kernel_rfl) (by kernel_rfl) (by kernel_rfl) (fun _ _ _ h => h) (Or.inl ⟨by rfl, ?hyt1u_1_8_15_18x20⟩) hHeld ?restt1u_1_8_15_18x20
  case hyt1u_1_8_15_18x20 => (intro w _; go_simp; try with_reducible rfl)
  simp only [Act.put, List.setIfInBounds_toArray, List.set_cons_zero, List.set_cons_succ]
  refine wpAnyH_take (i := 21) (oi := ⟨some 26, _, _, _, _, _⟩) (v := ?vt1u_1_8_15_18x21) rfl (by kernel_rfl) (by kernel_rfl) (by kernel_rfl) (fun _ _ _ h => h) (Or.inl ⟨by rfl, ?hyt1u_1_8_15_18x21⟩) hHeld ?restt1u_1_8_15_18x21
  case hyt1u_1_8_15_18x21 => (intro w _; go_simp; try with_reducible rfl)
  simp only [Act.put, List.setIfInBounds_toArray, List.set_cons_zero, List.set_cons_succ]
  refine wpAnyH_take (i := 22) (oi := ⟨some 27, _, _, _, _, _⟩) (v := ?vt1u_1_8_15_18x22) rfl (by kernel_rfl) (by kernel_rfl) (by kernel_rfl) (fun _ _ _ h => h) (Or.inl ⟨by rfl, ?hyt1u_1_8_15_18x22⟩) hHeld ?restt1u_1_8_15_18x22
  case hyt1u_1_8_15_18x22 => (intro w _; go_simp; try with_reducible rfl)
  simp only [Act.put, List.setIfInBounds_toArray, List.set_cons_zero, List.set_cons_succ]
  refine wpAnyH_take (i := 24) (oi := ⟨some 29, _, _, _, _, _⟩) (v := ?vt1u_1_8_15_18x24) rfl (by kernel_rfl) (by kernel_rfl) (by kernel_rfl) (fun _ _ _ h => h) (Or.inl ⟨by rfl, ?hyt1u_1_8_15_18x24⟩) hHeld ?restt1u_1_8_15_18x24
  case hyt1u_1_8_15_18x24 => (intro w _; go_simp; try with_reducible rfl)
  simp only [Act.put, List.setIfInBounds_toArray, List.set_cons_zero, List.set_cons_succ]
  refine wpAnyH_take (i := 25) (oi := ⟨some 30, _, _, _, _, _⟩) (v := ?vt1u_1_8_15_18x25) rfl (by kernel_rfl) (by kernel_rfl) (by kernel_rfl) (fun _ _ _ h => h) (Or.inl ⟨by rfl, ?hyt1u_1_8_15_18x25⟩) hHeld ?restt1u_1_8_15_18x25
  case hyt1u_1_8_15_18x25 => (intro w hSw; (try dsimp only at hSw); have hk := hSw; obtain ⟨x_0, x_1, _, _⟩ := row2_cells hk; go_simp; try with_reducible rfl)
  simp only [Act.put, List.setIfInBounds_toArray, List.set_cons_zero, List.set_cons_succ]
  refine wpAnyH_ready (rs := [23]) (by kernel_rfl) (by simp) ?_
  refine AllReadyH.cons (o := ⟨some 28, _, _, _, _, _⟩) rfl (fun K hK => ?_) AllReadyH.nil
  have hsW := HBw.out.size
  go_simp
  refine (clock_any _ room L F _ HLv.out).mono ?_
  rintro e Ut1u5 ⟨v5, rfl, ho5, hb⟩
  (try go_wp2_with fail)
  refine hK.out _ _ ((hb.block _ (row_lt hHeld)).trans hHeld) (fun hHeld2 => ?_)
  clear hK K hHeld
  have hHeld := hHeld2
  clear hHeld2
  (try simp only [Act.put, List.setIfInBounds_toArray, List.set_cons_zero, List.set_cons_succ])
  replace HLv : Hid (LogV F Ut1u5 v room L) := HLv.out.below hb
  replace HH : Hid (IsH Ut1u5 (.slice ay L.length cy) L) := HH.out.below hb
  replace HBw : Hid (Below w.heap.size w Ut1u5) := HBw.out.trans (hb.mono HBw.out.size)
  have hi5 := ho5.isI (by have := clockL_length L; omega)
  obtain ⟨a5, c5, e5⟩ := hi5.form
  subst e5
  have HC5 : Hid (IsI Ut1u5 (.slice a5 (clockL L).length c5) (clockL L)) := hi5
  clear ho5 hi5 hsW
  clear hb
  refine wpAnyH_ready (rs := [26]) (by kernel_rfl) (by simp) ?_
  refine AllReadyH.cons (o := ⟨some 31, _, _, _, _, _⟩) rfl (fun K hK => ?_) AllReadyH.nil
  have hsW := HBw.out.size
  go_simp
  refine (refClock_any _ L _ HH.out).mono ?_
  rintro e Ut1u6 ⟨v6, rfl, ho6, hb⟩
  (try go_wp2_with fail)
  refine hK.out _ _ ((hb.block _ (row_lt hHeld)).trans hHeld) (fun hHeld2 => ?_)
  clear hK K hHeld
  have hHeld := hHeld2
  clear hHeld2
  (try simp only [Act.put, List.setIfInBounds_toArray, List.set_cons_zero, List.set_cons_succ])
  replace HLv : Hid (LogV F Ut1u6 v room L) := HLv.out.below hb
  replace HH : Hid (IsH Ut1u6 (.slice ay L.length cy) L) := HH.out.below hb
  replace HBw : Hid (Below w.heap.size w Ut1u6) := HBw.out.trans (hb.mono HBw.out.size)
  replace HC5 : Hid (IsI Ut1u6 (.slice a5 (clockL L).length c5) (clockL L)) := HC5.out.below hb
  have hi6 := ho6.isI (by have := clockL_length L; omega)
  obtain ⟨a6, c6, e6⟩ := hi6.form
  subst e6
  have HC6 : Hid (IsI Ut1u6 (.slice a6 (clockL L).length c6) (clockL L)) := hi6
  clear ho6 hi6 hsW
  clear hb
  refine wpAnyH_ready (rs := [27]) (by kernel_rfl) (by simp) ?_
  refine AllReadyH.cons (o := ⟨some 32, _, _, _, _, _⟩) rfl (fun K hK => ?_) AllReadyH.nil
  go_simp
  refine (sameI_any _ _ (clockL L) (clockL L) _ HC5.out HC6.out).mono ?_
  rintro e Ut1u7 ⟨rfl, hb⟩
  rw [decide_eq_true (rfl : clockL L = clockL L)]
  (try go_wp2_with fail)
  refine hK.out _ _ ((hb.block _ (row_lt hHeld)).trans hHeld) (fun hHeld2 => ?_)
  clear hK K hHeld
  have hHeld := hHeld2
  clear hHeld2
  (try simp only [Act.put, List.setIfInBounds_toArray, List.set_cons_zero, List.set_cons_succ])
  replace HLv : Hid (LogV F Ut1u7 v room L) := HLv.out.below hb
  replace HH : Hid (IsH Ut1u7 (.slice ay L.length cy) L) := HH.out.below hb
  replace HBw : Hid (Below w.heap.size w Ut1u7) := HBw.out.trans (hb.mono HBw.out.size)
  replace HC5 : Hid (IsI Ut1u7 (.slice a5 (clockL L).length c5) (clockL L)) := HC5.out.below hb
  replace HC6 : Hid (IsI Ut1u7 (.slice a6 (clockL L).length c6) (clockL L)) := HC6.out.below hb
  clear hb
  refine wpAnyH_take (i := 28) (oi := ⟨some 33, _, _, _, _, _⟩) (v := ?vt1u_1_8_15_18_23_26_27x28) rfl (by kernel_rfl) (by kernel_rfl) (by kernel_rfl) (fun _ _ _ h => h) (Or.inl ⟨by rfl, ?hyt1u_1_8_15_18_23_26_27x28⟩) hHeld ?restt1u_1_8_15_18_23_26_27x28
  case hyt1u_1_8_15_18_23_26_27x28 => (intro w _; go_simp; try with_reducible rfl)
  simp only [Act.put, List.setIfInBounds_toArray, List.set_cons_zero, List.set_cons_succ]
  refine wpAnyH_take (i := 29) (oi := ⟨some 34, _, _, _, _, _⟩) (v := ?vt1u_1_8_15_18_23_26_27x29) rfl (by kernel_rfl) (by kernel_rfl) (by kernel_rfl) (fun _ _ _ h => h) (Or.inl ⟨by rfl, ?hyt1u_1_8_15_18_23_26_27x29⟩) hHeld ?restt1u_1_8_15_18_23_26_27x29
  case hyt1u_1_8_15_18_23_26_27x29 => (intro w _; go_simp; try with_reducible rfl)
  simp only [Act.put, List.setIfInBounds_toArray, List.set_cons_zero, List.set_cons_succ]
  refine wpAnyH_take (i := 30) (oi := ⟨some 35, _, _, _, _, _⟩) (v := ?vt1u_1_8_15_18_23_26_27x30) rfl (by kernel_rfl) (by kernel_rfl) (by kernel_rfl) (fun _ _ _ h => h) (Or.inl ⟨by rfl, ?hyt1u_1_8_15_18_23_26_27x30⟩) hHeld ?restt1u_1_8_15_18_23_26_27x30
  case hyt1u_1_8_15_18_23_26_27x30 => (intro w _; go_simp; try with_reducible rfl)
  simp only [Act.put, List.setIfInBounds_toArray, List.set_cons_zero, List.set_cons_succ]
  refine wpAnyH_take (i := 32) (oi := ⟨some 37, _, _, _, _, _⟩) (v := ?vt1u_1_8_15_18_23_26_27x32) rfl (by kernel_rfl) (by kernel_rfl) (by kernel_rfl) (fun _ _ _ h => h) (Or.inl ⟨by rfl, ?hyt1u_1_8_15_18_23_26_27x32⟩) hHeld ?restt1u_1_8_15_18_23_26_27x32
  case hyt1u_1_8_15_18_23_26_27x32 => (intro w _; go_simp; try with_reducible rfl)
  simp only [Act.put, List.setIfInBounds_toArray, List.set_cons_zero, List.set_cons_succ]
  refine wpAnyH_take (i := 33) (oi := ⟨some 38, _, _, _, _, _⟩) (v := ?vt1u_1_8_15_18_23_26_27x33) rfl (by kernel_rfl) (by kernel_rfl) (by kernel_rfl) (fun _ _ _ h => h) (Or.inl ⟨by rfl, ?hyt1u_1_8_15_18_23_26_27x33⟩) hHeld ?restt1u_1_8_15_18_23_26_27x33
  case hyt1u_1_8_15_18_23_26_27x33 => (intro w hSw; (try dsimp only at hSw); have hk := hSw; obtain ⟨x_0, x_1, _, _⟩ := row2_cells hk; go_simp; try with_reducible rfl)
  simp only [Act.put, List.setIfInBounds_toArray, List.set_cons_zero, List.set_cons_succ]
  refine wpAnyH_ready (rs := [31]) (by kernel_rfl) (by simp) ?_
  refine AllReadyH.cons (o := ⟨some 36, _, _, _, _, _⟩) rfl (fun K hK => ?_) AllReadyH.nil
  go_simp
  refine (all_any _ room L F _ HLv.out HG.out hl).mono ?_
  rintro e Ut1u8 ⟨v7, E, rfl, hE, hO, hD, hb⟩
  (try go_wp2_with fail)
  refine hK.out _ _ ((hb.block _ (row_lt hHeld)).trans hHeld) (fun hHeld2 => ?_)
  clear hK K hHeld
  have hHeld := hHeld2
  clear hHeld2
  (try simp only [Act.put, List.setIfInBounds_toArray, List.set_cons_zero, List.set_cons_succ])
  replace HLv : Hid (LogV F Ut1u8 v room L) := HLv.out.below hb
  replace HH : Hid (IsH Ut1u8 (.slice ay L.length cy) L) := HH.out.below hb
  replace HBw : Hid (Below w.heap.size w Ut1u8) := HBw.out.trans (hb.mono HBw.out.size)
  replace HC5 : Hid (IsI Ut1u8 (.slice a5 (clockL L).length c5) (clockL L)) := HC5.out.below hb
  replace HC6 : Hid (IsI Ut1u8 (.slice a6 (clockL L).length c6) (clockL L)) := HC6.out.below hb
  have hEl : E.length = L.length := by rw [← hE]; simp
  have h7 : IsH Ut1u8 v7 L := by rw [← hE]; exact OwnH.isH hO (by omega) (fun x hx => ⟨(hD x hx).1.isI (hD x hx).2.2, (hD x hx).2.1⟩)
  obtain ⟨a7, c7, e7⟩ := h7.form
  subst e7
  have HC7 : Hid (IsH Ut1u8 (.slice a7 L.length c7) L) := h7
  clear hE hO hD hEl h7
  clear hb
  refine wpAnyH_ready (rs := [34]) (by kernel_rfl) (by simp) ?_
  refine AllReadyH.cons (o := ⟨some 39, _, _, _, _, _⟩) rfl (fun K hK => ?_) AllReadyH.nil
  go_simp
  refine (sameAll_eq _ _ L _ HC7.out HH.out).mono ?_
  rintro e Ut1u9 ⟨rfl, hb⟩
  (try go_wp2_with fail)
  refine hK.out _ _ ((hb.block _ (row_lt hHeld)).trans hHeld) (fun hHeld2 => ?_)
  clear hK K hHeld
  have hHeld := hHeld2
  clear hHeld2
  (try simp only [Act.put, List.setIfInBounds_toArray, List.set_cons_zero, List.set_cons_succ])
  replace HLv : Hid (LogV F Ut1u9 v room L) := HLv.out.below hb
  replace HH : Hid (IsH Ut1u9 (.slice ay L.length cy) L) := HH.out.below hb
  replace HBw : Hid (Below w.heap.size w Ut1u9) := HBw.out.trans (hb.mono HBw.out.size)
  replace HC5 : Hid (IsI Ut1u9 (.slice a5 (clockL L).length c5) (clockL L)) := HC5.out.below hb
  replace HC6 : Hid (IsI Ut1u9 (.slice a6 (clockL L).length c6) (clockL L)) := HC6.out.below hb
  replace HC7 : Hid (IsH Ut1u9 (.slice a7 L.length c7) L) := HC7.out.below hb
  clear hb
  refine wpAnyH_take (i := 35) (oi := ⟨some 40, _, _, _, _, _⟩) (v := ?vt1u_1_8_15_18_23_26_27_31_34x35) rfl (by kernel_rfl) (by kernel_rfl) (by kernel_rfl) (fun _ _ _ h => h) (Or.inl ⟨by rfl, ?hyt1u_1_8_15_18_23_26_27_31_34x35⟩) hHeld ?restt1u_1_8_15_18_23_26_27_31_34x35
  case hyt1u_1_8_15_18_23_26_27_31_34x35 => (intro w _; go_simp; try with_reducible rfl)
  simp only [Act.put, List.setIfInBounds_toArray, List.set_cons_zero, List.set_cons_succ]
  refine wpAnyH_take (i := 36) (oi := ⟨some 4, _, _, _, _, _⟩) (v := ?vt1u_1_8_15_18_23_26_27_31_34x36) rfl (by kernel_rfl) (by kernel_rfl) (by kernel_rfl) (fun _ _ _ h => h) (Or.inl ⟨by rfl, ?hyt1u_1_8_15_18_23_26_27_31_34x36⟩) hHeld ?restt1u_1_8_15_18_23_26_27_31_34x36
  case hyt1u_1_8_15_18_23_26_27_31_34x36 => (intro w _; go_simp; try with_reducible rfl)
  simp only [Act.put, List.setIfInBounds_toArray, List.set_cons_zero, List.set_cons_succ]
  refine wpAnyH_done (by kernel_rfl) ?_ _
  clear hHeld
  go_wp2
  go_ret
  exact ⟨rfl, HBw.out⟩

end Go.Proofs.YtckipepodohnpaaGreat

namespace Go.Proofs.YtckipepodohnpaaGreat
open Go.RowKit
set_option linter.unusedVariables false
set_option linter.unusedSimpArgs false

def firstC : Ch := ⟨1, 0, 1, [], 1, 1, 0, 0, 0, 0, 0, ⟨#[112]⟩, ⟨#[]⟩⟩
theorem first_sized : Sized firstC := ⟨by decide, by decide⟩
theorem why_first : whyR [] 3 firstC = 0 := by decide +kernel
theorem why_first2 : whyR [firstC] 3 firstC = 5 := by decide +kernel
theorem add_first : addL [] 3 firstC = [firstC] := by unfold addL; rw [if_pos why_first]; rfl
theorem add_first2 : addL [firstC] 3 firstC = [firstC] := by unfold addL; rw [if_neg (by rw [why_first2]; decide)]

set_option maxRecDepth 100000 in
set_option maxHeartbeats 2000000 in
theorem first_any (w : World) : Calls Tryz.prog 25 #[] w fun e w' => e = .returned (chV firstC (.slice none 0 0)) ∧ Below w.heap.size w w' := by
  go_enter Tryz.func25, Tryz.ntmps25
  go_wp2
  (try simp only [Exit.inBlock, Exit.then])
  refine bodyPost_ret (v := chV firstC (.slice none 0 0)) ?res rfl ?post
  case res => exact results_cell_row rfl _ _ w.heap.size _ _ _ _ rfl ((Below.heap_alloc _ _ _ (by simp)).trans (heap_alloc_new w _)) Tryz.underlying34 rfl (by kernel_rfl)
  exact ⟨rfl, ((Below.refl _ _).alloc (Nat.le_refl _) _).alloc (by simp) _⟩

set_option maxRecDepth 100000 in
set_option maxHeartbeats 4000000 in
theorem awake_any (w : World) : Calls Tryz.prog 10 #[] w fun e w' => e = .returned (.bool true) ∧ Below w.heap.size w w' := by
  have HF : Hid (∀ W, Calls Tryz.prog 25 #[] W fun e w' => e = .returned (chV firstC (.slice none 0 0)) ∧ Below W.heap.size W w') := fun W => first_any W
  go_enter Tryz.func10, Tryz.ntmps10
  go_wp2_with fail
  refine (new_any 3 _).mono ?_
  rintro e w1 ⟨h, hb1⟩
  rcases h with ⟨h, _⟩ | ⟨_, lb, F, rfl, hL, hF⟩
  · omega
  have HL : Hid (LogOk F w1 lb 3 []) := hL
  have HB1 : Hid (Below w.heap.size w w1) := hb1
  have HFn : Hid (∀ k, F k → w.heap.size ≤ k) := hF
  clear hL hb1 hF
  go_wp2_with fail
  refine (HF.out _).mono ?_
  rintro e w2 ⟨rfl, hb2⟩
  replace HL : Hid (LogOk F w2 lb 3 []) := HL.out.below hb2
  have HB2 : Hid (Below w.heap.size w w2) := HB1.out.trans (hb2.mono HB1.out.size)
  clear hb2 HB1
  go_wp2_with fail
  refine (add_any F lb 3 [] firstC (.slice none 0 0) _ HL.out Good.none (by simp) (by omega) (IsI.non 0) first_sized).mono ?_
  rintro e w3 ⟨rfl, F3, hL3, hf1, hf2, ht⟩
  rw [why_first]
  rw [add_first] at hL3
  have HL3 : Hid (LogOk F3 w3 lb 3 [firstC]) := hL3
  have HB3 : Hid (Below w.heap.size w w3) := HB2.out.trans (ht.below HFn.out HB2.out.size)
  have HF3 : Hid (∀ k, F3 k → w.heap.size ≤ k) := fun k hk => by
    rcases hf2 k hk with h | h
    · exact HFn.out k h
    · exact Nat.le_trans HB2.out.size h
  clear hL3 hf1 hf2 ht HL HB2 HFn
  go_wp2_with fail
  refine (HF.out _).mono ?_
  rintro e w4 ⟨rfl, hb4⟩
  replace HL3 : Hid (LogOk F3 w4 lb 3 [firstC]) := HL3.out.below hb4
  have HB4 : Hid (Below w.heap.size w w4) := HB3.out.trans (hb4.mono HB3.out.size)
  clear hb4 HB3
  go_wp2_with fail
  refine (add_any F3 lb 3 [firstC] firstC (.slice none 0 0) _ HL3.out (by rw [← add_first]; exact addL_good Good.none 3 firstC) (by simp) (by omega) (IsI.non 0) first_sized).mono ?_
  rintro e w5 ⟨rfl, F5, hL5, hf1, hf2, ht⟩
  rw [why_first2]
  rw [add_first2] at hL5
  have HL5 : Hid (LogOk F5 w5 lb 3 [firstC]) := hL5
  have HB5 : Hid (Below w.heap.size w w5) := HB4.out.trans (ht.below HF3.out HB4.out.size)
  clear hL5 hf1 hf2 ht HL3 HB4 HF3
  go_wp2_with fail
  refine (len_any _ 3 [firstC] F5 _ HL5.out.v).mono ?_
  rintro e w6 ⟨rfl, hb6⟩
  have HL6 : Hid (LogOk F5 w6 lb 3 [firstC]) := HL5.out.below hb6
  have HB6 : Hid (Below w.heap.size w w6) := HB5.out.trans (hb6.mono HB5.out.size)
  clear hb6 HB5 HL5
  rw [show ((([firstC] : List Ch).length : Nat) : Int) = 1 from rfl]
  go_wp2_with fail
  refine (last_any _ 3 [firstC] F5 _ HL6.out.v (by simp)).mono ?_
  rintro e w7 ⟨rfl, hb7⟩
  have HB7 : Hid (Below w.heap.size w w7) := HB6.out.trans (hb7.mono HB6.out.size)
  clear hb7 HB6 HL6
  rw [show lastL [firstC] = 1 from rfl]
  go_wp2
  go_ret
  exact ⟨rfl, HB7.out⟩

end Go.Proofs.YtckipepodohnpaaGreat

namespace Go.Proofs.YtckipepodohnpaaGreat
open Go.RowKit
set_option linter.unusedVariables false
set_option linter.unusedSimpArgs false

theorem results_tmp_row {P : Program} {fn : Func} {p u : Tmp} {ty : TypeId} (h : fn.results = #[.tmp u, .cell p ty]) (tmps : Array Value) (w : World) (g : Nat) (t : TypeId) (cs : Array Value) (fr : Nat × Nat) (d : TypeDesc)
    (hp : tmps.getD p undef = .pointer (some ⟨g, 0, none⟩)) (hg : w.heap[g]? = some (.cells cs t fr))
    (hu : P.underlying ty = some d) (hd : (match d with | .struct _ | .array _ _ => true | _ => false) = true) (hi : (P.info? ty).map (·.size) = some cs.size) {k : Value} (hk : tmps.getD u undef = k) :
    (results fn tmps).run P w = .ok (.tuple #[k, .agg cs]) w := by
  have e : (results fn tmps).run P w = ((asAddr (tmps.getD p undef)).run P w).andThen fun a w₁ => ((loadVar ty a).run P w₁).andThen fun v w₂ => .ok (.tuple #[tmps.getD u undef, v]) w₂ := by
    simp only [results, h]
    simp [Sem.run_bind, Result.andThen]
  rw [e, hp, hk]
  simp [asAddr, run_loadVar_row w g t ty cs fr d hg hu hd hi]
/-- A log and the document's, whose box is yb, beside each other; the call's result lies at its first block. -/
structure Fil (w : World) (lb : Nat) (room : Int) (yb : Nat) (F G : Nat → Prop) (Lx Ly : List Ch) (yv : Value) (U : World) : Prop where
  log : LogOk F U lb room Lx
  firm : HFirm G U yv Ly
  ybox : U.heap[yb]? = some (.cells #[.int .i64 room, yv] 29)
  rbox : U.heap[w.heap.size]? = some (.cells #[.int .i64 0, .slice none 0 0] 29)
  bel : Below w.heap.size w U
  ff : ∀ k, F k → w.heap.size < k
  gw : ∀ k, G k → w.heap.size < k
  fg : ∀ k, G k → ¬ F k
  fy : ¬ F yb
  gy : ¬ G yb
  yw : w.heap.size < yb
section
variable {w : World} {lb : Nat} {room : Int} {yb : Nat} {F F' G : Nat → Prop} {Lx Lx' Ly Ly' : List Ch} {yv yv' : Value} {U U' : World}
theorem Fil.ne (h : Fil w lb room yb F G Lx Ly yv U) : yb ≠ w.heap.size := by have := h.yw; omega
theorem Fil.below (h : Fil w lb room yb F G Lx Ly yv U) (hb : Below U.heap.size U U') : Fil w lb room yb F G Lx Ly yv U' :=
  ⟨h.log.below hb, h.firm.below hb, (hb.block _ (row_lt h.ybox)).trans h.ybox, (hb.block _ (row_lt h.rbox)).trans h.rbox, h.bel.trans (hb.mono h.bel.size), h.ff, h.gw, h.fg, h.fy, h.gy, h.yw⟩
theorem Fil.add (h : Fil w lb room yb F G Lx Ly yv U) (hl : LogOk F' U' lb room Lx') (hf : ∀ k, F' k → F k ∨ U.heap.size ≤ k) (ht : Touch F U U') : Fil w lb room yb F' G Lx' Ly yv U' := by
  have hy := row_lt h.ybox
  have hr := row_lt h.rbox
  refine ⟨hl, h.firm.keep (ht.keeps fun k hk => ⟨h.firm.1 k hk, h.fg k hk⟩), (ht.block _ hy h.fy).trans h.ybox, (ht.block _ hr (fun hF => by have := h.ff _ hF; omega)).trans h.rbox, h.bel.trans (ht.below (fun k hk => by have := h.ff k hk; omega) h.bel.size), ?_, h.gw, ?_, ?_, h.gy, h.yw⟩
  · intro k hk
    rcases hf k hk with q | q
    · exact h.ff k q
    · omega
  · intro k hG hk
    rcases hf k hk with q | q
    · exact h.fg k hG q
    · have := h.firm.1 k hG; omega
  · intro hk
    rcases hf yb hk with q | q
    · exact h.fy q
    · omega
theorem Fil.put {N : Nat} (h : Fil w lb room yb F G Lx Ly yv U) (hf : HFirm (fun k => G k ∨ (N ≤ k ∧ k < U.heap.size)) U yv' Ly') (hy : yb < N) (hF : ∀ k, F k → k < N) :
    Fil w lb room yb F (fun k => G k ∨ (N ≤ k ∧ k < U.heap.size)) Lx Ly' yv' ((U.setCell ⟨yb, 0, none⟩ (.int .i64 room)).setCell ⟨yb, 1, none⟩ yv') := by
  have hyw := h.yw
  have far : ∀ k, k ≠ yb → ((U.setCell ⟨yb, 0, none⟩ (.int .i64 room)).setCell ⟨yb, 1, none⟩ yv').heap[k]? = U.heap[k]? := fun k hk => (RowKit.Below.heap_setCell _ _ _ _ hk).trans (RowKit.Below.heap_setCell _ _ _ _ hk)
  have hs : ((U.setCell ⟨yb, 0, none⟩ (.int .i64 room)).setCell ⟨yb, 1, none⟩ yv').heap.size = U.heap.size := by simp [World.setCell]
  refine ⟨h.log.keep ⟨Nat.le_of_eq hs.symm, fun k hk => far k (fun e => h.fy (e ▸ hk))⟩, hf.keep ⟨Nat.le_of_eq hs.symm, fun k hk => far k (fun e => ?_)⟩, row_set2 h.ybox, (far _ (by omega)).trans h.rbox, (h.bel.setCell (p := ⟨yb, 0, none⟩) (by show w.heap.size ≤ yb; omega) _).setCell (p := ⟨yb, 1, none⟩) (by show w.heap.size ≤ yb; omega) _, h.ff, ?_, ?_, h.fy, ?_, h.yw⟩
  · subst e
    rcases hk with q | q
    · exact h.gy q
    · omega
  · intro k hk
    rcases hk with q | q
    · exact h.gw k q
    · omega
  · intro k hk hFk
    rcases hk with q | q
    · exact h.fg k q hFk
    · have := hF k hFk; omega
  · intro hk
    rcases hk with q | q
    · exact h.gy q
    · omega
/-- What filled gives. -/
theorem Fil.last (h : Fil w lb room yb F G Lx Ly yv U) : LogOk F ((U.setCell ⟨w.heap.size, 0, none⟩ (.int .i64 room)).setCell ⟨w.heap.size, 1, none⟩ yv) lb room Lx ∧ HFirm G ((U.setCell ⟨w.heap.size, 0, none⟩ (.int .i64 room)).setCell ⟨w.heap.size, 1, none⟩ yv) yv Ly ∧ Below w.heap.size w ((U.setCell ⟨w.heap.size, 0, none⟩ (.int .i64 room)).setCell ⟨w.heap.size, 1, none⟩ yv) ∧ (∀ k, F k → w.heap.size ≤ k) ∧ (∀ k, G k → w.heap.size ≤ k) ∧ ∀ k, G k → ¬ F k := by
  have far : ∀ k, k ≠ w.heap.size → ((U.setCell ⟨w.heap.size, 0, none⟩ (.int .i64 room)).setCell ⟨w.heap.size, 1, none⟩ yv).heap[k]? = U.heap[k]? := fun k hk => (RowKit.Below.heap_setCell _ _ _ _ hk).trans (RowKit.Below.heap_setCell _ _ _ _ hk)
  have hs : ((U.setCell ⟨w.heap.size, 0, none⟩ (.int .i64 room)).setCell ⟨w.heap.size, 1, none⟩ yv).heap.size = U.heap.size := by simp [World.setCell]
  refine ⟨h.log.keep ⟨Nat.le_of_eq hs.symm, fun k hk => far k (fun e => by have := h.ff k hk; omega)⟩, h.firm.keep ⟨Nat.le_of_eq hs.symm, fun k hk => far k (fun e => by have := h.gw k hk; omega)⟩, (h.bel.setCell (p := ⟨w.heap.size, 0, none⟩) (Nat.le_refl _) _).setCell (p := ⟨w.heap.size, 1, none⟩) (Nat.le_refl _) _, fun k hk => Nat.le_of_lt (h.ff k hk), fun k hk => Nat.le_of_lt (h.gw k hk), h.fg⟩
end

set_option maxRecDepth 100000 in
set_option maxHeartbeats 8000000 in
theorem filled_any (room : Int) (v : Value) (l : List Ch) (w : World) (h : IsH w v l) (hr0 : 1 ≤ room) (hr1 : room ≤ 4096) :
    Calls Tryz.prog 15 #[.int .i64 room, v] w fun e w' => ∃ lb yv F G, e = .returned (.tuple #[.pointer (some ⟨lb, 0, none⟩), .agg #[.int .i64 room, yv]]) ∧ LogOk F w' lb room (fillL room l) ∧ HFirm G w' yv (fillL room l) ∧ Below w.heap.size w w' ∧ (∀ k, F k → w.heap.size ≤ k) ∧ (∀ k, G k → w.heap.size ≤ k) ∧ ∀ k, G k → ¬ F k := by
  obtain ⟨a1, c1, rfl, hc1, hl1, r1⟩ := h
  have HR : Hid (l = [] ∨ ∃ b o, a1 = some ⟨b, o, none⟩ ∧ ChsAt w b o l) := r1
  clear r1
  obtain ⟨W0, eW⟩ : ∃ X, X = w.alloc (.cells #[.int .i64 0, .slice none 0 0] 29) := ⟨_, rfl⟩
  have HR0 : Hid (W0.heap[w.heap.size]? = some (.cells #[.int .i64 0, .slice none 0 0] 29)) := by rw [eW]; exact heap_alloc_new _ _
  have hb0 : Below w.heap.size w W0 := by rw [eW]; exact (Below.refl _ _).alloc (Nat.le_refl _) _
  have hs0 : W0.heap.size = w.heap.size + 1 := by rw [eW]; simp
  go_enter Tryz.func15, Tryz.ntmps15
  go_wp2_with fail
  rw [← eW]
  clear eW
  refine (new_any room _).mono ?_
  rintro e w1 ⟨h, hb1⟩
  rcases h with ⟨h, _⟩ | ⟨_, lb, F, rfl, hL, hF⟩
  · omega
  obtain ⟨W2, eW2⟩ : ∃ X, X = w1.alloc (.cells #[.int .i64 room, .slice none 0 0] 29) := ⟨_, rfl⟩
  obtain ⟨yb, eyb⟩ : ∃ b, b = w1.heap.size := ⟨_, rfl⟩
  have hb2 : Below w1.heap.size w1 W2 := by rw [eW2]; exact (Below.refl _ _).alloc (Nat.le_refl _) _
  have HFl0 : Hid (Fil w lb room yb F (fun _ => False) (fillL room (l.take 0)) (fillL room (l.take 0)) (.slice none 0 0) W2) := by
    have hs1 := hb1.size
    refine ⟨hL.below hb2, HFirm.nil _, ?_, (hb2.block _ (by omega)).trans ((hb1.block _ (by omega)).trans HR0.out), hb0.trans ((hb1.mono (by omega)).trans (hb2.mono (by omega))), fun k hk => by have := hF k hk; omega, fun k hk => hk.elim, fun k hk => hk.elim, fun hk => ?_, fun hk => hk.elim, by omega⟩
    · rw [eyb, eW2]; exact heap_alloc_new _ _
    · have := hL.lt yb hk; omega
  clear hL hF hb1 HR0 hb0 hs0 hb2
  go_wp2
  rw [← eW2, ← eyb]
  clear eW2 eyb
  go_loopw [9] (fun i wr => ∃ (k : Nat) (F G : Nat → Prop) (yv : Value), k ≤ l.length ∧ i = .int .i64 (k : Int) ∧ Hid (Fil w lb room yb F G (fillL room (l.take k)) (fillL room (l.take k)) yv wr)) (fun i _ => l.length - (intOf i).toNat)
  case atStart => exact ⟨0, _, _, _, Nat.zero_le _, rfl, HFl0⟩
  case round =>
    obtain ⟨k, F, G, yv, hk, rfl, HFl⟩ := hrel
    by_cases hlt : k < l.length
    · obtain ⟨b1, o1, rfl, g1⟩ := HR.out.resolve_left (by intro e; subst e; simp at hlt)
      obtain ⟨a0, c0, i3, hs3, z⟩ := (g1 k hlt).all
      have hbb : b1 < w.heap.size := (g1 k hlt).lt
      have hc' : ∀ W', BelowH w W' → W'.cell? ⟨b1, o1 + k * 13, none⟩ = some (.int .i64 l[k].ac) ∧ W'.cell? ⟨b1, o1 + k * 13 + 1, none⟩ = some (.int .i64 l[k].ar) ∧ W'.cell? ⟨b1, o1 + k * 13 + 2, none⟩ = some (.int .i64 l[k].seq) ∧ W'.cell? ⟨b1, o1 + k * 13 + 3, none⟩ = some (.slice a0 l[k].deps.length c0) ∧ W'.cell? ⟨b1, o1 + k * 13 + 4, none⟩ = some (.int .i64 l[k].kind) ∧ W'.cell? ⟨b1, o1 + k * 13 + 5, none⟩ = some (.int .i64 l[k].nc) ∧ W'.cell? ⟨b1, o1 + k * 13 + 6, none⟩ = some (.int .i64 l[k].nr) ∧ W'.cell? ⟨b1, o1 + k * 13 + 7, none⟩ = some (.int .i64 l[k].pc) ∧ W'.cell? ⟨b1, o1 + k * 13 + 8, none⟩ = some (.int .i64 l[k].pr) ∧ W'.cell? ⟨b1, o1 + k * 13 + 9, none⟩ = some (.int .i64 l[k].fc) ∧ W'.cell? ⟨b1, o1 + k * 13 + 10, none⟩ = some (.int .i64 l[k].fr) ∧ W'.cell? ⟨b1, o1 + k * 13 + 11, none⟩ = some (.string l[k].name) ∧ W'.cell? ⟨b1, o1 + k * 13 + 12, none⟩ = some (.string l[k].value) := fun W' hb => by
        obtain ⟨z0, z1, z2, z3, z4, z5, z6, z7, z8, z9, z10, z11, z12⟩ := z
        exact ⟨(hb.cell (p := ⟨b1, o1 + k * 13, none⟩) hbb).trans z0, (hb.cell (p := ⟨b1, o1 + k * 13 + 1, none⟩) hbb).trans z1, (hb.cell (p := ⟨b1, o1 + k * 13 + 2, none⟩) hbb).trans z2, (hb.cell (p := ⟨b1, o1 + k * 13 + 3, none⟩) hbb).trans z3, (hb.cell (p := ⟨b1, o1 + k * 13 + 4, none⟩) hbb).trans z4, (hb.cell (p := ⟨b1, o1 + k * 13 + 5, none⟩) hbb).trans z5, (hb.cell (p := ⟨b1, o1 + k * 13 + 6, none⟩) hbb).trans z6, (hb.cell (p := ⟨b1, o1 + k * 13 + 7, none⟩) hbb).trans z7, (hb.cell (p := ⟨b1, o1 + k * 13 + 8, none⟩) hbb).trans z8, (hb.cell (p := ⟨b1, o1 + k * 13 + 9, none⟩) hbb).trans z9, (hb.cell (p := ⟨b1, o1 + k * 13 + 10, none⟩) hbb).trans z10, (hb.cell (p := ⟨b1, o1 + k * 13 + 11, none⟩) hbb).trans z11, (hb.cell (p := ⟨b1, o1 + k * 13 + 12, none⟩) hbb).trans z12⟩
      have k1 : (k : Int) < (l.length : Int) := by omega
      have k0 : (0 : Int) ≤ (k : Int) := by omega
      have HFs : Hid (fillL room (l.take (k + 1)) = addL (fillL room (l.take k)) room l[k]) := by
        have e := fillL_snoc room (l.take k) l[k]
        rw [← List.take_succ_eq_append_getElem hlt] at e
        exact e
      have hroom : ((fillL room (l.take k)).length : Int) ≤ room := fillL_room (by omega) _
      have HGd : Hid (Good (fillL room (l.take k))) := fillL_good _ _
      obtain ⟨⟨ac, ar, sq, ds, kd, nc, nr, pc, pr, fc, fr, nm, vl⟩, hc⟩ : ∃ c, c = l[k] := ⟨_, rfl⟩
      rw [← hc] at i3 hs3 hc' HFs
      simp only at hc'
      have HIc : Hid (IsI w (.slice a0 ds.length c0) ds) := i3
      have HSz : Hid (Sized (⟨ac, ar, sq, ds, kd, nc, nr, pc, pr, fc, fr, nm, vl⟩ : Ch)) := hs3
      have HC : Hid (∀ W', BelowH w W' → W'.cell? ⟨b1, o1 + k * 13, none⟩ = some (.int .i64 ac) ∧ W'.cell? ⟨b1, o1 + k * 13 + 1, none⟩ = some (.int .i64 ar) ∧ W'.cell? ⟨b1, o1 + k * 13 + 2, none⟩ = some (.int .i64 sq) ∧ W'.cell? ⟨b1, o1 + k * 13 + 3, none⟩ = some (.slice a0 ds.length c0) ∧ W'.cell? ⟨b1, o1 + k * 13 + 4, none⟩ = some (.int .i64 kd) ∧ W'.cell? ⟨b1, o1 + k * 13 + 5, none⟩ = some (.int .i64 nc) ∧ W'.cell? ⟨b1, o1 + k * 13 + 6, none⟩ = some (.int .i64 nr) ∧ W'.cell? ⟨b1, o1 + k * 13 + 7, none⟩ = some (.int .i64 pc) ∧ W'.cell? ⟨b1, o1 + k * 13 + 8, none⟩ = some (.int .i64 pr) ∧ W'.cell? ⟨b1, o1 + k * 13 + 9, none⟩ = some (.int .i64 fc) ∧ W'.cell? ⟨b1, o1 + k * 13 + 10, none⟩ = some (.int .i64 fr) ∧ W'.cell? ⟨b1, o1 + k * 13 + 11, none⟩ = some (.string nm) ∧ W'.cell? ⟨b1, o1 + k * 13 + 12, none⟩ = some (.string vl)) := hc'
      obtain ⟨p_0, p_1, p_2, p_3, p_4, p_5, p_6, p_7, p_8, p_9, p_10, p_11, p_12⟩ := HC.out _ HFl.out.bel
      generalize fillL room (l.take k) = L at *
      clear hc i3 hs3 g1 z hc'
      go_wp2_with fail
      refine (add_any F lb room L (⟨ac, ar, sq, ds, kd, nc, nr, pc, pr, fc, fr, nm, vl⟩ : Ch) (.slice a0 ds.length c0) _ HFl.out.log HGd.out hroom hr1 (HIc.out.below HFl.out.bel) HSz.out).mono ?_
      rintro e w3 ⟨rfl, F3, hL3, hf1, hf2, ht⟩
      rw [← HFs.out] at hL3
      have HF3 : Hid (Fil w lb room yb F3 G (fillL room (l.take (k + 1))) L yv w3) := HFl.out.add hL3 hf2 ht
      generalize whyR L room (⟨ac, ar, sq, ds, kd, nc, nr, pc, pr, fc, fr, nm, vl⟩ : Ch) = we
      clear hL3 hf1 hf2 ht HFl HGd p_0 p_1 p_2 p_3 p_4 p_5 p_6 p_7 p_8 p_9 p_10 p_11 p_12
      obtain ⟨F, eF⟩ : ∃ F', F' = F3 := ⟨_, rfl⟩
      obtain ⟨Lx, eLx⟩ : ∃ X, X = fillL room (l.take (k + 1)) := ⟨_, rfl⟩
      obtain ⟨Ly, eLy⟩ : ∃ X, X = L := ⟨_, rfl⟩
      rw [← eF, ← eLx, ← eLy] at HF3
      obtain ⟨ay, cy, ey⟩ := HF3.out.firm.isH.form
      rw [ey] at HF3
      have HFl : Hid (Fil w lb room yb F G Lx Ly (.slice ay Ly.length cy) w3) := HF3
      have HBw : Hid (BelowH w w3) := HF3.out.bel
      have hly : Ly.length ≤ 4096 := by rw [eLy]; omega
      have HLL : Hid (fillL room (l.take (k + 1)) = addL Ly room (⟨ac, ar, sq, ds, kd, nc, nr, pc, pr, fc, fr, nm, vl⟩ : Ch)) := by rw [eLy]; exact HFs.out
      have HLx : Hid (Lx = fillL room (l.take (k + 1))) := eLx
      clear HF3 eF eLx eLy ey HFs hroom
      go_upto_region 7 with fail
      refine wp_region_held_drew (S := fun W' => BelowH w W') (by kernel_rfl) (BelowH.below HBw.out (Below.refl _ _).drew) (fun hHeld => ?_)
      obtain ⟨Ua3u0, eW⟩ : ∃ X, X = w3.drew := ⟨_, rfl⟩
      have hb : Below w3.heap.size w3 Ua3u0 := by rw [eW]; exact (Below.refl _ _).drew
      replace HFl : Hid (Fil w lb room yb F G Lx Ly (.slice ay Ly.length cy) Ua3u0) := HFl.out.below hb
      replace HBw : Hid (BelowH w Ua3u0) := HBw.out.below hb
      rw [← eW] at hHeld ⊢
      clear eW hb
      refine wpAnyH_take (i := 1) (oi := ⟨some 31, _, _, _, _, _⟩) (v := ?va3ux1) rfl (by kernel_rfl) (by kernel_rfl) (by kernel_rfl) (fun _ _ _ h => h) (Or.inl ⟨by rfl, ?hya3ux1⟩) hHeld ?resta3ux1
      case hya3ux1 => (intro w _; go_simp; try with_reducible rfl)
      simp only [Act.put, List.setIfInBounds_toArray, List.set_cons_zero, List.set_cons_succ]
      refine wpAnyH_take (i := 2) (oi := ⟨some 32, _, _, _, _, _⟩) (v := ?va3ux2) rfl (by kernel_rfl) (by kernel_rfl) (by kernel_rfl) (fun _ _ _ h => h) (Or.inl ⟨by rfl, ?hya3ux2⟩) hHeld ?resta3ux2
      case hya3ux2 => (intro w _; go_simp; try with_reducible rfl)
      simp only [Act.put, List.setIfInBounds_toArray, List.set_cons_zero, List.set_cons_succ]
      refine wpAnyH_take (i := 3) (oi := ⟨some 33, _, _, _, _, _⟩) (v := ?va3ux3) rfl (by kernel_rfl) (by kernel_rfl) (by kernel_rfl) (fun _ _ _ h => h) (Or.inl ⟨by rfl, ?hya3ux3⟩) hHeld ?resta3ux3
      case hya3ux3 => (intro w hSw; (try dsimp only at hSw); have hk := hSw; obtain ⟨p_0, p_1, p_2, p_3, p_4, p_5, p_6, p_7, p_8, p_9, p_10, p_11, p_12⟩ := HC.out _ hk; go_simp; try with_reducible rfl)
      simp only [Act.put, List.setIfInBounds_toArray, List.set_cons_zero, List.set_cons_succ]
      refine wpAnyH_take (i := 4) (oi := ⟨some 34, _, _, _, _, _⟩) (v := ?va3ux4) rfl (by kernel_rfl) (by kernel_rfl) (by kernel_rfl) (fun _ _ _ h => h) (Or.inl ⟨by rfl, ?hya3ux4⟩) hHeld ?resta3ux4
      case hya3ux4 => (intro w hSw; (try dsimp only at hSw); have hk := hSw; obtain ⟨p_0, p_1, p_2, p_3, p_4, p_5, p_6, p_7, p_8, p_9, p_10, p_11, p_12⟩ := HC.out _ hk; go_simp; try with_reducible rfl)
      simp only [Act.put, List.setIfInBounds_toArray, List.set_cons_zero, List.set_cons_succ]
      refine wpAnyH_ready (rs := [0]) (by kernel_rfl) (by simp) ?_
      refine AllReadyH.cons (o := ⟨some 30, _, _, _, _, _⟩) rfl (fun K hK => ?_) AllReadyH.nil
      obtain ⟨x_0, x_1, _, _⟩ := row2_cells HFl.out.ybox
      go_simp
      refine hK.out _ _ (hHeld) (fun hHeld2 => ?_)
      clear hK K hHeld
      have hHeld := hHeld2
      clear hHeld2
      (try simp only [Act.put, List.setIfInBounds_toArray, List.set_cons_zero, List.set_cons_succ])
      clear x_0 x_1
      refine wpAnyH_ready (rs := [5]) (by kernel_rfl) (by simp) ?_
      refine AllReadyH.cons (o := ⟨some 35, _, _, _, _, _⟩) rfl (fun K hK => ?_) AllReadyH.nil
      have hyb : yb < Ua3u0.heap.size := row_lt HFl.out.ybox
      have HFk : Hid (∀ k, F k → k < Ua3u0.heap.size) := HFl.out.log.lt
      go_simp
      refine (refAdd_any G _ Ly room ac ar sq (.slice a0 ds.length c0) kd nc nr pc pr fc fr nm vl ds Ua3u0 HFl.out.firm (HIc.out.below HBw.out) HSz.out hly).mono ?_
      rintro e Ua3u2 ⟨v6, rfl, hf6, hb⟩
      (try go_wp2_with fail)
      refine hK.out _ _ (BelowH.below hHeld hb) (fun hHeld2 => ?_)
      clear hK K hHeld
      have hHeld := hHeld2
      clear hHeld2
      (try simp only [Act.put, List.setIfInBounds_toArray, List.set_cons_zero, List.set_cons_succ])
      replace HFl : Hid (Fil w lb room yb F G Lx Ly (.slice ay Ly.length cy) Ua3u2) := HFl.out.below hb
      replace HBw : Hid (BelowH w Ua3u2) := HBw.out.below hb
      obtain ⟨a6, c6, e6⟩ := hf6.isH.form
      subst e6
      have HF6 : Hid (HFirm (fun k => G k ∨ (Ua3u0.heap.size ≤ k ∧ k < Ua3u2.heap.size)) Ua3u2 (.slice a6 (addL Ly room (⟨ac, ar, sq, ds, kd, nc, nr, pc, pr, fc, fr, nm, vl⟩ : Ch)).length c6) (addL Ly room (⟨ac, ar, sq, ds, kd, nc, nr, pc, pr, fc, fr, nm, vl⟩ : Ch))) := hf6
      clear hf6
      clear hb
      refine wpAnyH_take (i := 6) (oi := ⟨some 29, _, _, _, _, _⟩) (v := ?va3u_0_5x6) rfl (by kernel_rfl) (by kernel_rfl) (by kernel_rfl) (fun _ _ _ h => h) (Or.inl ⟨by rfl, ?hya3u_0_5x6⟩) hHeld ?resta3u_0_5x6
      case hya3u_0_5x6 => (intro w _; go_simp; try with_reducible rfl)
      simp only [Act.put, List.setIfInBounds_toArray, List.set_cons_zero, List.set_cons_succ]
      refine wpAnyH_take (i := 7) (oi := ⟨some 36, _, _, _, _, _⟩) (v := ?va3u_0_5x7) rfl (by kernel_rfl) (by kernel_rfl) (by kernel_rfl) (fun _ _ _ h => h) (Or.inl ⟨by rfl, ?hya3u_0_5x7⟩) hHeld ?resta3u_0_5x7
      case hya3u_0_5x7 => (intro w _; go_simp; try with_reducible rfl)
      simp only [Act.put, List.setIfInBounds_toArray, List.set_cons_zero, List.set_cons_succ]
      refine wpAnyH_take (i := 8) (oi := ⟨some 37, _, _, _, _, _⟩) (v := ?va3u_0_5x8) rfl (by kernel_rfl) (by kernel_rfl) (by kernel_rfl) (fun _ _ _ h => h) (Or.inl ⟨by rfl, ?hya3u_0_5x8⟩) hHeld ?resta3u_0_5x8
      case hya3u_0_5x8 => (intro w _; go_simp; try with_reducible rfl)
      simp only [Act.put, List.setIfInBounds_toArray, List.set_cons_zero, List.set_cons_succ]
      refine wpAnyH_ready (rs := [9]) (by kernel_rfl) (by simp) ?_
      refine AllReadyH.cons (o := ⟨none, _, _, _, _, _⟩) rfl (fun K hK => ?_) AllReadyH.nil
      obtain ⟨r_0, r_1, r_2, r_3⟩ := row2_cells HFl.out.ybox
      go_simp
      refine hK.out _ _ ((HFl.out.put HF6.out hyb HFk.out).bel) (fun hHeld2 => ?_)
      clear hK K hHeld
      have hHeld := hHeld2
      clear hHeld2
      (try simp only [Act.put, List.setIfInBounds_toArray, List.set_cons_zero, List.set_cons_succ])
      have HFl9 : Hid (Fil w lb room yb F (fun k => G k ∨ (Ua3u0.heap.size ≤ k ∧ k < Ua3u2.heap.size)) Lx (addL Ly room (⟨ac, ar, sq, ds, kd, nc, nr, pc, pr, fc, fr, nm, vl⟩ : Ch)) (.slice a6 (addL Ly room (⟨ac, ar, sq, ds, kd, nc, nr, pc, pr, fc, fr, nm, vl⟩ : Ch)).length c6) ((Ua3u2.setCell ⟨yb, 0, none⟩ (.int .i64 room)).setCell ⟨yb, 1, none⟩ (.slice a6 (addL Ly room (⟨ac, ar, sq, ds, kd, nc, nr, pc, pr, fc, fr, nm, vl⟩ : Ch)).length c6))) := HFl.out.put HF6.out hyb HFk.out
      clear r_0 r_1 r_2 r_3 HFl HF6
      refine wpAnyH_done (by kernel_rfl) ?_ _
      clear hHeld
      go_wp2
      go_roundw
      case rel => exact ⟨k + 1, _, _, _, by omega, by go_num, (by have e2 := HLL.out; have e3 : Lx = addL Ly room (⟨ac, ar, sq, ds, kd, nc, nr, pc, pr, fc, fr, nm, vl⟩ : Ch) := HLx.out.trans e2; rw [e2]; rw [e3] at HFl9; exact HFl9)⟩
      case measure => simp [intOf]; omega
    · have hkl : k = l.length := by omega
      subst hkl
      rw [List.take_length] at HFl
      obtain ⟨Ly, eLy⟩ : ∃ X, X = fillL room l := ⟨_, rfl⟩
      rw [← eLy] at HFl
      obtain ⟨Lx, eLx⟩ : ∃ X, X = Ly := ⟨_, rfl⟩
      obtain ⟨ay, cy, ey⟩ := HFl.out.firm.isH.form
      subst ey
      have HLy : Hid (fillL room l = Ly) := eLy.symm
      clear eLy
      rw [show Fil w lb room yb F G Ly Ly = Fil w lb room yb F G Lx Ly by rw [eLx]] at HFl
      have HLx : Hid (Lx = Ly) := eLx
      clear eLx hlt
      go_upto_region 8 with fail
      refine wp_region_held_drew (S := fun W' => W'.heap[yb]? = some (.cells #[.int .i64 room, .slice ay Ly.length cy] 29)) (by kernel_rfl) HFl.out.ybox (fun hHeld => ?_)
      obtain ⟨Ub4u0, eW⟩ : ∃ X, X = wr.drew := ⟨_, rfl⟩
      have hb : Below wr.heap.size wr Ub4u0 := by rw [eW]; exact (Below.refl _ _).drew
      replace HFl : Hid (Fil w lb room yb F G Lx Ly (.slice ay Ly.length cy) Ub4u0) := HFl.out.below hb
      rw [← eW] at hHeld ⊢
      clear eW hb
      refine wpAnyH_take (i := 0) (oi := ⟨some 38, _, _, _, _, _⟩) (v := ?vb4ux0) rfl (by kernel_rfl) (by kernel_rfl) (by kernel_rfl) (fun _ _ _ h => h) (Or.inl ⟨by rfl, ?hyb4ux0⟩) hHeld ?restb4ux0
      case hyb4ux0 => (intro w _; go_simp; try with_reducible rfl)
      simp only [Act.put, List.setIfInBounds_toArray, List.set_cons_zero, List.set_cons_succ]
      refine wpAnyH_take (i := 1) (oi := ⟨some 39, _, _, _, _, _⟩) (v := ?vb4ux1) rfl (by kernel_rfl) (by kernel_rfl) (by kernel_rfl) (fun _ _ _ h => h) (Or.inl ⟨by rfl, ?hyb4ux1⟩) hHeld ?restb4ux1
      case hyb4ux1 => (intro w hSw; (try dsimp only at hSw); have hk := hSw; obtain ⟨x_0, x_1, _, _⟩ := row2_cells hk; go_simp; try with_reducible rfl)
      simp only [Act.put, List.setIfInBounds_toArray, List.set_cons_zero, List.set_cons_succ]
      refine wpAnyH_take (i := 2) (oi := ⟨some 4, _, _, _, _, _⟩) (v := ?vb4ux2) rfl (by kernel_rfl) (by kernel_rfl) (by kernel_rfl) (fun _ _ _ h => h) (Or.inl ⟨by rfl, ?hyb4ux2⟩) hHeld ?restb4ux2
      case hyb4ux2 => (intro w _; go_simp; try with_reducible rfl)
      simp only [Act.put, List.setIfInBounds_toArray, List.set_cons_zero, List.set_cons_succ]
      refine wpAnyH_ready (rs := [3]) (by kernel_rfl) (by simp) ?_
      refine AllReadyH.cons (o := ⟨none, _, _, _, _, _⟩) rfl (fun K hK => ?_) AllReadyH.nil
      obtain ⟨r_0, r_1, r_2, r_3⟩ := row2_cells HFl.out.rbox
      go_simp
      refine hK.out _ _ (row_set_other (row_set_other hHeld HFl.out.ne) HFl.out.ne) (fun hHeld2 => ?_)
      clear hK K hHeld
      have hHeld := hHeld2
      clear hHeld2
      (try simp only [Act.put, List.setIfInBounds_toArray, List.set_cons_zero, List.set_cons_succ])
      have HE := HFl.out.last
      have HSm : Hid (((Ub4u0.setCell ⟨w.heap.size, 0, none⟩ (.int .i64 room)).setCell ⟨w.heap.size, 1, none⟩ (.slice ay Ly.length cy)).heap[w.heap.size]? = some (.cells #[.int .i64 room, .slice ay Ly.length cy] 29)) := row_set2 HFl.out.rbox
      clear r_0 r_1 r_2 r_3
      refine wpAnyH_done (by kernel_rfl) ?_ _
      clear hHeld
      have HE2 : Hid (_ ∧ _) := HE
      clear HE
      go_wp2
      (try simp only [Exit.inBlock, Exit.then])
      refine bodyPost_ret (v := .tuple #[.pointer (some ⟨lb, 0, none⟩), .agg #[.int .i64 room, .slice ay Ly.length cy]]) ?res rfl ?post
      case res => exact results_tmp_row rfl _ _ w.heap.size _ _ _ _ rfl HSm.out Tryz.underlying29 rfl (by kernel_rfl) rfl
      obtain ⟨q1, q2, q3⟩ := HE2.out
      rw [HLx.out] at q1
      refine ⟨lb, _, F, G, rfl, ?_, ?_, q3⟩
      · rw [HLy.out]; exact q1
      · rw [HLy.out]; exact q2

end Go.Proofs.YtckipepodohnpaaGreat

namespace Go.Proofs.YtckipepodohnpaaGreat
open Go.RowKit Go.Shelf
set_option linter.unusedVariables false
set_option linter.unusedSimpArgs false

attribute [local go_sem] Oper.semAt_some

theorem put_last {T : List Ch} {c : Ch} (h : ∀ d ∈ T, ltB d c = true) : putC T c = T ++ [c] := by
  have := putC_split (L := T) (c := c) T.length (Nat.le_refl _) (fun j hj _ => ltB_no (h _ (List.getElem_mem hj))) (fun j hj h2 => by omega)
  rw [this, List.take_length, List.drop_length]
theorem ofR_last {T : List Ch} {c : Ch} {r : Int} (h : ∀ d ∈ T, ltB d c = true) (e : c.ar = r) : ofR (putC T c) r = ofR T r ++ [c] := by
  rw [put_last h]
  simp [ofR, e]
theorem srt_take {L : List Ch} (h : Srt L) {k : Nat} {T : List Ch} {c : Ch} (e : L.take (k + 1) = T ++ [c]) : Srt T ∧ ∀ d ∈ T, ltB d c = true := by
  have h1 : Srt (T ++ [c]) := by rw [← e]; exact List.Pairwise.sublist (List.take_sublist _ _) h
  have h2 := List.pairwise_append.1 h1
  exact ⟨h2.1, fun d hd => h2.2.2 d hd c (by simp)⟩

/-- The blocks that a log reaches, all cells but the map's. -/
theorem LogIs.shrink {F : Nat → Prop} {w : World} {lb : Nat} {room : Int} {L : List Ch} {mb : Nat} {ord : Value} {own : List Value} {D : List (Ch × Value)} (h : LogIs F w lb room L mb ord own D) :
    ∃ G : Nat → Prop, LogIs G w lb room L mb ord own D ∧ (∀ k, G k → F k) ∧ ∀ k, G k → k ≠ mb → ∃ o : Obj, w.heap[k]? = some o ∧ o.isCells = true := by
  refine ⟨fun k => F k ∧ (k ≠ mb → ∃ o : Obj, w.heap[k]? = some o ∧ o.isCells = true), ?_, fun k hk => hk.1, fun k hk => hk.2⟩
  have hc : ∀ {B : Nat} {e : TypeId} {size : Nat} {v : Value} {n : Nat} {xs : List Value}, w.ownsRow B e size v n xs → ∀ k, v.ownBlock = some k → ∃ o : Obj, w.heap[k]? = some o ∧ o.isCells = true := fun ho k e => by
    obtain ⟨cur, hc⟩ := ownsRow_type ho k e
    exact ⟨_, hc, rfl⟩
  exact ⟨h.row, h.len, h.hmap, h.hord, h.hown, h.hdep, h.hmem, ⟨h.fl, fun _ => ⟨_, h.row, rfl⟩⟩, ⟨h.fm, fun e => absurd rfl e⟩, fun k e => ⟨h.fo k e, fun _ => hc h.hord k e⟩, fun r hr k e => ⟨h.fr r hr k e, fun _ => hc (h.hown r hr) k e⟩, fun x hx k e => ⟨h.fd x hx k e, fun _ => hc (h.hdep x hx).1 k e⟩, h.dis1, h.dis2, fun k hk => h.lt k hk.1⟩

/-- The copy's blocks while it is made. -/
structure CloF (w W2 : World) (S Fo : Nat → Prop) (W : World) : Prop where
  blk : ∀ k, Fo k → w.heap.size ≤ k ∧ ¬ S k ∧ (W2.heap.size ≤ k → ∃ o : Obj, W.heap[k]? = some o ∧ o.isCells = true)
  bel : Below w.heap.size w W
  kp : KeepsH S W2 W
  b4 : w.heap.size ≤ W2.heap.size
section
variable {w W2 : World} {S Fo : Nat → Prop} {W W' : World}
theorem CloF.size (h : CloF w W2 S Fo W) : W2.heap.size ≤ W.heap.size := h.kp.1.1
theorem CloF.below (h : CloF w W2 S Fo W) (hb : Below W.heap.size W W') : CloF w W2 S Fo W' :=
  ⟨fun k hk => ⟨(h.blk k hk).1, (h.blk k hk).2.1, fun h2 => by obtain ⟨o, h3, h4⟩ := (h.blk k hk).2.2 h2; exact ⟨o, (hb.block k (Array.getElem?_eq_some_iff.1 h3).1).trans h3, h4⟩⟩, h.bel.trans (hb.mono h.bel.size), h.kp.below hb, h.b4⟩
theorem CloF.keep (h : CloF w W2 S Fo W) (hl : ∀ k, Fo k → k < W.heap.size) {row : Option Nat} (hg : W.grownBy W' row) (hr : ∀ r, row = some r → W2.heap.size ≤ r ∧ ∃ o : Obj, W.heap[r]? = some o ∧ o.isCells = false) : KeepsS Fo W W' :=
  ⟨hg.size, fun k hk => hg.block k (hl k hk) fun e => by
    obtain ⟨h1, o, h2, h3⟩ := hr k e.symm
    obtain ⟨o', h4, h5⟩ := (h.blk k hk).2.2 h1
    rw [h2] at h4
    cases h4
    rw [h3] at h5
    cases h5⟩
theorem CloF.grown (h : CloF w W2 S Fo W) (hl : ∀ k, Fo k → k < W.heap.size) {row : Option Nat} (hg : W.grownBy W' row) (hr : ∀ r, row = some r → W2.heap.size ≤ r ∧ ∃ o : Obj, W.heap[r]? = some o ∧ o.isCells = false) : CloF w W2 S Fo W' :=
  ⟨fun k hk => ⟨(h.blk k hk).1, (h.blk k hk).2.1, fun h2 => by obtain ⟨o, h3, h4⟩ := (h.blk k hk).2.2 h2; exact ⟨o, ((h.keep hl hg hr).2 k hk).trans h3, h4⟩⟩, h.bel.grown hg h.bel.size (fun j e => Nat.le_trans h.b4 (hr j e).1), ⟨h.kp.1.trans (KeepsS.of_grown hg (fun k hk => Nat.lt_of_lt_of_le (h.kp.2 k hk) h.size) (fun r e hS => by have := (hr r e).1; have := h.kp.2 r hS; omega)), h.kp.2⟩, h.b4⟩
theorem CloF.put (h : CloF w W2 S Fo W) {lo mo : Nat} {room : Int} {L : List Ch} {ord : Value} {own : List Value} {D : List (Ch × Value)} {F' : Nat → Prop} (hm : mo < W2.heap.size) (h1 : LogIs F' W' lo room L mo ord own D) (h3 : ∀ k, F' k → Fo k ∨ W.heap.size ≤ k) (h4 : Touch Fo W W') :
    (∃ G, LogIs G W' lo room L mo ord own D ∧ CloF w W2 S G W') ∧ KeepsFrom W2.heap.size W W' ∧ KeepsG S W W' := by
  obtain ⟨G, g1, g2, g3⟩ := h1.shrink
  have hS : ∀ k, S k → k < W.heap.size ∧ ¬ Fo k := fun k hk => ⟨Nat.lt_of_lt_of_le (h.kp.2 k hk) h.size, fun hF => (h.blk k hF).2.1 hk⟩
  have hks : KeepsS S W W' := h4.keeps hS
  refine ⟨⟨G, g1, ⟨fun k hk => ?_, h.bel.trans (h4.below (fun k hk => (h.blk k hk).1) h.bel.size), ⟨h.kp.1.trans hks, h.kp.2⟩, h.b4⟩⟩, ⟨h4.size, fun k o hB hk ho => ?_⟩, ⟨hks, fun k hk => (hS k hk).1⟩⟩
  · have hz := h.size
    have hb := h.b4
    rcases h3 k (g2 k hk) with h5 | h5
    · exact ⟨(h.blk k h5).1, (h.blk k h5).2.1, fun h6 => g3 k hk (by omega)⟩
    · exact ⟨by omega, fun hs => by have := h.kp.2 k hs; omega, fun h6 => g3 k hk (by omega)⟩
  · refine (h4.block k (Array.getElem?_eq_some_iff.1 hk).1 fun hF => ?_).trans hk
    obtain ⟨o', h5, h6⟩ := (h.blk k hF).2.2 hB
    rw [hk] at h5
    cases h5
    rw [ho] at h6
    cases h6
end
def HasC (W : World) (b : Nat) (cs : Array Value) (t : TypeId) : Prop := W.heap[b]? = some (.cells cs t)
theorem HasC.below {W W' : World} {b : Nat} {cs : Array Value} {t : TypeId} (h : HasC W b cs t) (hb : Below W.heap.size W W') : HasC W' b cs t := (hb.block b (Array.getElem?_eq_some_iff.1 h).1).trans h

set_option maxRecDepth 100000 in
set_option maxHeartbeats 8000000 in
theorem clone_in (n : Nat) (hn : 5 ≤ n) (lb : Nat) (room : Int) (L : List Ch) (F : Nat → Prop) (w : World) (h : LogOk F w lb room L) (hg : Good L) (hl : L.length ≤ 4096) :
    CallsIn Fence.wide n Tryz.prog 28 #[.pointer (some ⟨lb, 0, none⟩)] w fun e w' => ∃ lo Fo, e = .returned (.pointer (some ⟨lo, 0, none⟩)) ∧ LogOk Fo w' lo room L ∧ (∀ k, Fo k → w.heap.size ≤ k) ∧ Below w.heap.size w w' := by
  have hro : Fence.wide.round = none := rfl
  have h1n : 1 ≤ n := by omega
  obtain ⟨mb, ord, own, D, h⟩ := h
  have HL : Hid (LogIs F w lb room L mb ord own D) := h
  have hlc := h.cell0
  clear h
  refine callsIn_of_wp_marks Tryz.func28 rfl trivial ?_ hro
  simp only [Tryz.ntmps28, List.size_toArray, List.length_cons, List.length_nil, Nat.reduceAdd, Nat.reduceSub, Array.replicate_succ, Array.replicate_zero, List.push_toArray, List.append_toArray, List.nil_append, List.cons_append]
  gi_wp2_with fail
  refine ⟨trivial, ?_⟩
  refine (callsIn_wide.2 (empty_any room _)).mono ?_
  rintro e w1 ⟨rfl, ⟨mo, ordo, owno, Do, h1⟩, h2⟩
  have HLo1 : Hid (LogIs (fun k => k = w.heap.size ∨ k = w.heap.size + 1) w1 (w.heap.size + 1) room [] mo ordo owno Do) := h1
  have HB1 : Hid (Below w.heap.size w w1) := h2
  have hsz1 : w.heap.size + 1 < w1.heap.size := h1.lt _ (.inr rfl)
  clear h1 h2 hlc
  gi_wp2_with fail
  refine ⟨trivial, ?_⟩
  refine (callsIn_wide.2 (missing_any lb (.slice none 0 0) _ ⟨_, _, _, rfl⟩)).mono ?_
  rintro e w2 ⟨rfl, hw2⟩
  gi_wp2
  obtain ⟨W2, eW2⟩ : ∃ X, X = w2 := ⟨_, rfl⟩
  obtain ⟨X1, eX1⟩ : ∃ X, X = w1.alloc (.cells #[.pointer (some ⟨w.heap.size + 1, 0, none⟩)] 23) := ⟨_, rfl⟩
  have hx1 : X1.heap.size = w1.heap.size + 1 := by rw [eX1]; simp
  have hbx : Below w1.heap.size w1 X1 := by rw [eX1]; exact (Below.refl _ _).alloc (Nat.le_refl _) _
  have hbo : HasC X1 w1.heap.size #[.pointer (some ⟨w.heap.size + 1, 0, none⟩)] 23 := by rw [eX1]; exact heap_alloc_new _ _
  have hwx := hw2
  rw [← eX1] at hwx
  clear eX1
  have HC1 : Hid (W2.cell? ⟨w1.heap.size + 1, 0, none⟩ = some (.pointer (some ⟨lb, 0, none⟩))) := by
    rw [eW2, hwx]
    have := (Boxed.new X1 23 (.pointer (some ⟨lb, 0, none⟩))).alloc (.cells #[.slice none 0 0] 32)
    rw [hx1] at this
    exact this.cell
  have HC2 : Hid (W2.cell? ⟨w1.heap.size + 1 + 1, 0, none⟩ = some (.slice none 0 0)) := by
    rw [eW2, hwx]
    have := Boxed.new (X1.alloc (.cells #[.pointer (some ⟨lb, 0, none⟩)] 23)) 32 (.slice none 0 0)
    rw [show (X1.alloc (.cells #[.pointer (some ⟨lb, 0, none⟩)] 23)).heap.size = w1.heap.size + 1 + 1 by simp [hx1]] at this
    exact this.cell
  have hb2 : Below X1.heap.size X1 W2 := by rw [eW2, hwx]; exact ((Below.refl _ _).alloc (Nat.le_refl _) _).alloc (by simp) _
  have hsz2 : W2.heap.size = w1.heap.size + 3 := by rw [eW2, hwx]; simp [hx1]
  rw [← hw2, ← eW2]
  clear eW2 hw2 hwx
  have hb12 : Below w1.heap.size w1 W2 := hbx.trans (hb2.mono hbx.size)
  have HL2 : Hid (LogIs F W2 lb room L mb ord own D) := HL.out.below (HB1.out.trans (hb12.mono HB1.out.size))
  have HLo2 : Hid (LogIs (fun k => k = w.heap.size ∨ k = w.heap.size + 1) W2 (w.heap.size + 1) room [] mo ordo owno Do) := HLo1.out.below hb12
  have HMo : Hid (mo < W2.heap.size) := HLo2.out.lt _ HLo2.out.fm
  have HFw : Hid (∀ k, F k → k < w.heap.size) := HL.out.lt
  obtain ⟨S, eS⟩ : ∃ S : Nat → Prop, S = fun k => F k ∨ k = w1.heap.size ∨ k = w1.heap.size + 1 ∨ k = w1.heap.size + 1 + 1 := ⟨_, rfl⟩
  have HS : Hid (∀ k, S k → k < W2.heap.size) := fun k hk => by rw [eS] at hk; rcases hk with hk | rfl | rfl | rfl; exact HL2.out.lt k hk; omega; omega; omega
  have HSF : Hid (∀ k, F k → S k) := fun k hk => by rw [eS]; exact .inl hk
  have HSb : Hid (S w1.heap.size) := by show S _; rw [eS]; exact .inr (.inl rfl)
  have HBo2 : Hid (HasC W2 w1.heap.size #[.pointer (some ⟨w.heap.size + 1, 0, none⟩)] 23) := hbo.below hb2
  have HCf2 : Hid (CloF w W2 S (fun k => k = w.heap.size ∨ k = w.heap.size + 1) W2) := ⟨fun k hk => ⟨by omega, fun hs => by rw [eS] at hs; rcases hs with hs | hs | hs | hs; exact absurd (HFw.out k hs) (by omega); omega; omega; omega, fun h2 => by omega⟩, HB1.out.trans (hb12.mono HB1.out.size), ⟨KeepsS.refl _ _, HS.out⟩, by have := HB1.out.size; omega⟩
  have HSq := missing_seq (n - 1) (by omega) (w1.heap.size + 1) (w1.heap.size + 1 + 1) 0 S F lb room L mb ord own D none [] W2 HL2.out hg.srt hl HSF.out (by rw [eS]; exact .inr (.inr (.inl rfl))) (by rw [eS]; exact .inr (.inr (.inr rfl))) HS.out HC1.out HC2.out (.inl rfl) (Nat.le_refl _) (by simp)
  have HGd : Hid (Good L) := hg
  clear eS hb2 hb12 hbx hbo hx1 HC1 HC2 HL HLo1 hg
  refine range_of h1n (gf := 64) (lb := #[.pointer (some ⟨w1.heap.size + 1, 0, none⟩), .pointer (some ⟨w1.heap.size + 1 + 1, 0, none⟩)]) rfl (enters_of Tryz.func64 (by kernel_rfl) rfl) HSq KeepsS.trans (keepsSK_b HS.out) (Below.refl _ _) (fun _ => rfl)
    (fun k W => ∃ Fo ordo owno Do, LogIs Fo W (w.heap.size + 1) room ((lackL L []).take k) mo ordo owno Do ∧ CloF w W2 S Fo W) (fun _ _ _ => False)
    (fun k A B row ⟨Fo, o1, o2, o3, h1, h2⟩ hg hr => ⟨Fo, o1, o2, o3, h1.keep (h2.keep h1.lt hg hr), h2.grown h1.lt hg hr⟩) (fun c k A B row hf _ _ => hf) ⟨_, _, _, _, HLo2.out, HCf2.out⟩
    (fun x a' W => ∃ Bx, W.heap[Bx]? = some (.cells (chCells x.1 x.2).toArray 34) ∧ a' = { tmps := #[.pointer (some ⟨lb, 0, none⟩), undef, .pointer none, .pointer (some ⟨w1.heap.size, 0, none⟩), .pointer (some ⟨Bx, 0, none⟩), .pointer (some ⟨lb, 0, none⟩), .bool false, .pointer (some ⟨lb, 0, none⟩), .pointer (some ⟨lb, 0, none⟩), .pointer (some ⟨lb, 0, none⟩), .int .i64 room, .pointer (some ⟨w.heap.size + 1, 0, none⟩), .pointer (some ⟨lb, 0, none⟩), .func (.func 64) #[] #[.pointer (some ⟨w1.heap.size + 1, 0, none⟩), .pointer (some ⟨w1.heap.size + 1 + 1, 0, none⟩)], chV x.1 x.2, undef, undef, undef, undef], defers := [] })
    (fun x a' u A B row ⟨Bx, h2, h5⟩ hg hr => ⟨Bx, row_own h2 hg (fun r e => (hr r e).2), h5⟩)
    ?assign ?body ?done ?stop
  case assign =>
    rintro l k hk W K ⟨Fo, o1, o2, o3, hA, hE⟩ hK
    obtain ⟨⟨ac, ar, sq, ds, kd, nc, nr, pc, pr, fc, fr, nm, vl⟩, a0, c0, e1, _⟩ := lackE_get HL2.out HGd.out.srt hk
    rw [e1] at hK ⊢
    have hb : Below W.heap.size W (W.alloc (.cells #[.int .i64 ac, .int .i64 ar, .int .i64 sq, .slice a0 ds.length c0, .int .i64 kd, .int .i64 nc, .int .i64 nr, .int .i64 pc, .int .i64 pr, .int .i64 fc, .int .i64 fr, .string nm, .string vl] 34)) := (Below.refl _ _).alloc (Nat.le_refl _) _
    have hfin := fun a' e5 => hK a' (W.alloc (.cells #[.int .i64 ac, .int .i64 ar, .int .i64 sq, .slice a0 ds.length c0, .int .i64 kd, .int .i64 nc, .int .i64 nr, .int .i64 pc, .int .i64 pr, .int .i64 fc, .int .i64 fr, .string nm, .string vl] 34)) (keepsFrom_below hb) (KeepsS.of_below hb (fun j hj => Nat.lt_of_lt_of_le (hE.kp.2 j hj) hE.size)) ⟨Fo, o1, o2, o3, hA.below hb, hE.below hb⟩ ⟨W.heap.size, heap_alloc_new _ _, e5⟩
    have HFin : Hid (K { tmps := #[.pointer (some ⟨lb, 0, none⟩), undef, .pointer none, .pointer (some ⟨w1.heap.size, 0, none⟩), .pointer (some ⟨W.heap.size, 0, none⟩), .pointer (some ⟨lb, 0, none⟩), .bool false, .pointer (some ⟨lb, 0, none⟩), .pointer (some ⟨lb, 0, none⟩), .pointer (some ⟨lb, 0, none⟩), .int .i64 room, .pointer (some ⟨w.heap.size + 1, 0, none⟩), .pointer (some ⟨lb, 0, none⟩), .func (.func 64) #[] #[.pointer (some ⟨w1.heap.size + 1, 0, none⟩), .pointer (some ⟨w1.heap.size + 1 + 1, 0, none⟩)], .agg #[.int .i64 ac, .int .i64 ar, .int .i64 sq, .slice a0 ds.length c0, .int .i64 kd, .int .i64 nc, .int .i64 nr, .int .i64 pc, .int .i64 pr, .int .i64 fc, .int .i64 fr, .string nm, .string vl], undef, undef, undef, undef], defers := [] } (W.alloc (.cells #[.int .i64 ac, .int .i64 ar, .int .i64 sq, .slice a0 ds.length c0, .int .i64 kd, .int .i64 nc, .int .i64 nr, .int .i64 pc, .int .i64 pr, .int .i64 fc, .int .i64 fr, .string nm, .string vl] 34))) := hfin _ rfl
    clear hK hfin hb hA hE
    simp only [encH, chV, chCells]
    gi_wp2
    exact HFin.out
  case body =>
    rintro l k hk a' W hlD ⟨Fo, ordo, owno, Do, hA, hE⟩ ⟨Bx, hx2, rfl⟩
    obtain ⟨⟨ac, ar, sq, ds, kd, nc, nr, pc, pr, fc, fr, nm, vl⟩, a0, c0, e1, e2, e3, e4, e5, e6, e7⟩ := lackE_get HL2.out HGd.out.srt hk
    have hrt := HGd.out.right e7
    obtain ⟨r, er⟩ : ∃ r : Nat, ar = (r : Int) := ⟨ar.toNat, by have := hrt.2.2.1; simp only at this; omega⟩
    subst er
    rw [e1] at hx2
    simp only [e1]
    have HSz : Hid (Sized (⟨ac, (r : Int), sq, ds, kd, nc, nr, pc, pr, fc, fr, nm, vl⟩ : Ch)) := e3
    have HR64 : Hid (r < 64) := by have := hrt.2.2.2.1; simp only at this; show r < 64; omega
    obtain ⟨TT, eT⟩ : ∃ TT, TT = (lackL L []).take k := ⟨_, rfl⟩
    rw [← eT] at hA e6
    have HTl : Hid (TT.length < 4096) := by
      have h2 : (lackL L []).length ≤ L.length := List.length_filter_le _ _
      have h3 : k < (lackL L []).length := by rw [← lackE_length D]; exact hk
      show TT.length < 4096
      rw [eT, List.length_take]
      omega
    have HTs : Hid (Srt TT ∧ ∀ d ∈ TT, ltB d (⟨ac, (r : Int), sq, ds, kd, nc, nr, pc, pr, fc, fr, nm, vl⟩ : Ch) = true) := srt_take (L := lackL L []) (by rw [lackL_all HGd.out]; exact HGd.out.srt) e6
    have HTk : Hid (TT ++ [(⟨ac, (r : Int), sq, ds, kd, nc, nr, pc, pr, fc, fr, nm, vl⟩ : Ch)] = (lackL L []).take (k + 1)) := e6.symm
    have HLo : Hid (LogIs Fo W (w.heap.size + 1) room TT mo ordo owno Do) := hA
    have HCf : Hid (CloF w W2 S Fo W) := hE
    have HBo : Hid (HasC W w1.heap.size #[.pointer (some ⟨w.heap.size + 1, 0, none⟩)] 23) := (hE.kp.1.2 _ HSb.out).trans HBo2.out
    have HBx : Hid (HasC W Bx #[.int .i64 ac, .int .i64 (r : Int), .int .i64 sq, .slice a0 ds.length c0, .int .i64 kd, .int .i64 nc, .int .i64 nr, .int .i64 pc, .int .i64 pr, .int .i64 fc, .int .i64 fr, .string nm, .string vl] 34) := hx2
    have HKf : Hid (KF W2.heap.size W W) := keepsFrom_below (Below.refl _ _)
    have HKw : Hid (KeepsG S W W) := ⟨KeepsS.refl _ _, fun j hj => Nat.lt_of_lt_of_le (hE.kp.2 j hj) hE.size⟩
    have HIc : Hid (IsI W (.slice a0 ds.length c0) ds) := OwnI.isI (e2.keepF fun j e => hE.kp.1.2 j (HSF.out j (e5 j e))) e4
    clear e1 e2 e3 e4 e5 e6 e7 hA hE hx2 hrt eT
    simp only [chV, chCells]
    have xo : W.cell? ⟨w1.heap.size, 0, none⟩ = some (.pointer (some ⟨w.heap.size + 1, 0, none⟩)) := Boxed.cell HBo.out
    obtain ⟨k_0, k_1, k_2, k_3, k_4, k_5, k_6, k_7, k_8, k_9, k_10, k_11, k_12⟩ := row_cells HBx.out
    gi_wp2_with fail
    clear xo k_0 k_1 k_2 k_3 k_4 k_5 k_6 k_7 k_8 k_9 k_10 k_11 k_12
    have hcp := put_mb Fo (w.heap.size + 1) room TT mo ordo owno Do ac r sq (.slice a0 ds.length c0) kd nc nr pc pr fc fr nm vl ds W HLo.out HIc.out HSz.out HTl.out (fun d hd => ltB_ne (HTs.out.2 d hd)) HTs.out.1 HR64.out (ofR_last HTs.out.2 rfl)
    have hci : CallsIn (Fence.wide.inRound l) (n - 1 - 1 - 1) Tryz.prog 38 #[.pointer (some ⟨w.heap.size + 1, 0, none⟩), .agg #[.int .i64 ac, .int .i64 (r : Int), .int .i64 sq, .slice a0 ds.length c0, .int .i64 kd, .int .i64 nc, .int .i64 nr, .int .i64 pc, .int .i64 pr, .int .i64 fc, .int .i64 fr, .string nm, .string vl]] W (fun e w' => PutM Fo (w.heap.size + 1) room TT (⟨ac, (r : Int), sq, ds, kd, nc, nr, pc, pr, fc, fr, nm, vl⟩ : Ch) mo W e w') := callsIn_wide.2 hcp
    refine ⟨trivial, fun _ => (by omega), hci.mono ?_⟩
    clear hcp hci
    rintro e Wn ⟨⟨v2, rfl⟩, F2, ⟨ord2, own2, D2, hp1⟩, _, hp3, hp4⟩
    have HP : Hid ((∃ G, LogIs G Wn (w.heap.size + 1) room (putC TT (⟨ac, (r : Int), sq, ds, kd, nc, nr, pc, pr, fc, fr, nm, vl⟩ : Ch)) mo ord2 own2 D2 ∧ CloF w W2 S G Wn) ∧ KeepsFrom W2.heap.size W Wn ∧ KeepsG S W Wn) := HCf.out.put HMo.out hp1 hp3 hp4
    clear hp1 hp3 hp4
    gi_wp2
    obtain ⟨⟨G, hg1, hg2⟩, hg3, hg4⟩ := HP.out
    exact ⟨KeepsFrom.trans HKf.out hg3, (keepsG_t HKw.out hg4).1, G, _, _, _, by rw [← HTk.out, ← put_last HTs.out.2]; exact hg1, hg2⟩
  case done =>
    rintro Dd W hDd ⟨Fo, ordo, owno, Do, hA, hE⟩ hDf
    have hXd : W.heap[Dd]? = some (.deferred (some [])) := hDf
    rw [lackE_length, List.take_length, lackL_all HGd.out] at hA
    have HA : Hid (LogIs Fo W (w.heap.size + 1) room L mo ordo owno Do) := hA
    have HE : Hid (CloF w W2 S Fo W) := hE
    have HDf : Hid (W.heap[Dd]? = some (.deferred (some []))) := hDf
    have HBo : HasC W w1.heap.size #[.pointer (some ⟨w.heap.size + 1, 0, none⟩)] 23 := (hE.kp.1.2 _ HSb.out).trans HBo2.out
    have x1 : W.cell? ⟨w1.heap.size, 0, none⟩ = some (.pointer (some ⟨w.heap.size + 1, 0, none⟩)) := Boxed.cell HBo
    clear hA hE hDf hXd HBo
    gi_wp2
    refine ⟨by simp, .inl ⟨_, _, rfl, run_takeDeferred HDf.out, ?_⟩⟩
    have hgp : W.grownBy (W.putObj Dd (.deferred none)) (some Dd) := grownBy_putObj' W Dd (.deferred none)
    have hr : ∀ r, some Dd = some r → W2.heap.size ≤ r ∧ ∃ o : Obj, W.heap[r]? = some o ∧ o.isCells = false := fun r e => by cases e; exact ⟨hDd, _, HDf.out, rfl⟩
    exact ⟨_, results_tmp rfl _ _ _, _, Fo, rfl, ⟨_, _, _, _, HA.out.keep (HE.out.keep HA.out.lt hgp hr)⟩, fun k hk => (HE.out.blk k hk).1, (HE.out.grown HA.out.lt hgp hr).bel⟩
  case stop => rintro D c k W hD hk hf; exact hf.elim
theorem clone_any (lb : Nat) (room : Int) (L : List Ch) (F : Nat → Prop) (w : World) (h : LogOk F w lb room L) (hg : Good L) (hl : L.length ≤ 4096) :
    Calls Tryz.prog 28 #[.pointer (some ⟨lb, 0, none⟩)] w fun e w' => ∃ lo Fo, e = .returned (.pointer (some ⟨lo, 0, none⟩)) ∧ LogOk Fo w' lo room L ∧ (∀ k, Fo k → w.heap.size ≤ k) ∧ Below w.heap.size w w' :=
  callsIn_wide.1 (clone_in 5 (Nat.le_refl _) lb room L F w h hg hl)

end Go.Proofs.YtckipepodohnpaaGreat

namespace Go.Proofs.YtckipepodohnpaaGreat
open Go.RowKit
set_option linter.unusedVariables false
set_option linter.unusedSimpArgs false

theorem isSome_setCell {W : World} {x : Addr} (q : Addr) (u : Value) (h : (W.cell? x).isSome = true) : ((W.setCell q u).cell? x).isSome = true := by
  obtain ⟨v, hv⟩ := Option.isSome_iff_exists.1 h
  obtain ⟨v', e⟩ := cell?_setCell_some (p := q) (x := u) hv
  rw [e]
  rfl
theorem Below.sets {B b : Nat} (hB : B ≤ b) : ∀ (vs : List Value) (o : Nat) (a w : World), Below B a w → Below B a (w.setCells b o vs)
  | [], _, _, _, h => h
  | v :: r, o, a, w, h => Below.sets hB r (o + 1) a _ (h.setCell (p := ⟨b, o, none⟩) hB v)
/-- Numbers that may be written over: they lie from block B on, and not in g. -/
def OvI (B g : Nat) (W : World) (a : Option Addr) (m : Nat) : Prop := ∀ k, k < m → ∃ h p, a = some ⟨h, p, none⟩ ∧ B ≤ h ∧ h ≠ g ∧ (W.cell? ⟨h, p + k, none⟩).isSome = true ∧ W.frozen? ⟨h, p + k, none⟩ = false
theorem OvI.of {B g : Nat} {W : World} {v : Value} {ds : List Int} (h : OwnI B W v ds) (hg : ∀ k, v.ownBlock = some k → k ≠ g) : ∃ a c, v = .slice a ds.length c ∧ OvI B g W a ds.length := by
  rcases h.2 with ⟨rfl, hn⟩ | ⟨b, cap, cur, rfl, hb, _⟩
  · exact ⟨none, 0, by rw [hn], fun k hk => by omega⟩
  · refine ⟨_, cap, rfl, fun k hk => ⟨b, 0, rfl, hb, hg b rfl, ?_, ?_⟩⟩
    · rw [Nat.zero_add, World.ownsRow.cellAt h k (by omega)]
      simp [cellsI, hk]
    · rw [Nat.zero_add]; exact World.ownsRow.frozenAt h k
theorem OvI.set {B g : Nat} {W : World} {a : Option Addr} {m : Nat} (h : OvI B g W a m) (q : Addr) (u : Value) : OvI B g (W.setCell q u) a m := fun k hk => by
  obtain ⟨b, p, e, h1, h2, h3, h4⟩ := h k hk
  exact ⟨b, p, e, h1, h2, isSome_setCell q u h3, by simpa using h4⟩
theorem OvI.sets {B g : Nat} {W : World} {a : Option Addr} {m : Nat} (h : OvI B g W a m) (b o : Nat) (vs : List Value) : OvI B g (W.setCells b o vs) a m := fun k hk => by
  obtain ⟨b', p, e, h1, h2, h3, h4⟩ := h k hk
  exact ⟨b', p, e, h1, h2, World.isSome_setCells b vs o W _ h3, by rw [World.frozen?_setCells]; exact h4⟩
/-- A row of changes that may be written over, their clocks, too. -/
structure OvR (B n g o : Nat) (W : World) : Prop where
  gB : B ≤ g
  thr : W.there g o (n * 13)
  rows : ∀ i, i < n → ∃ a m c, W.cell? ⟨g, o + i * 13 + 3, none⟩ = some (.slice a m c) ∧ m ≤ 17592186044416 ∧ OvI B g W a m
theorem OvR.of {B : Nat} {W : World} {v : Value} {E : List (Ch × Value)} (h : OwnH B W v E) (hd : ∀ x ∈ E, OwnI B W x.2 x.1.deps ∧ Sized x.1 ∧ x.1.deps.length ≤ 17592186044416) : ∃ a c, v = .slice a E.length c ∧ (0 < E.length → ∃ g, a = some ⟨g, 0, none⟩ ∧ OvR B E.length g 0 W) := by
  rcases h.2 with ⟨rfl, hn⟩ | ⟨b, cap, cur, rfl, hb, hc, _⟩
  · exact ⟨none, 0, by rw [hn], fun h0 => by omega⟩
  · have hcell : ∀ j, j < E.length * 13 → W.cell? ⟨b, j, none⟩ = (flatH E)[j]? := fun j hj => World.ownsRow.cellAt h j hj
    refine ⟨_, cap, rfl, fun _ => ⟨b, rfl, hb, fun j hj => ⟨?_, ?_⟩, fun i hi => ?_⟩⟩
    · rw [Nat.zero_add, hcell j hj]
      have : j < (flatH E).length := by rw [flatH_length]; exact hj
      simp [this]
    · rw [Nat.zero_add]; exact World.ownsRow.frozenAt h j
    · obtain ⟨h1, _, h3⟩ := hd E[i] (List.getElem_mem hi)
      obtain ⟨a2, c2, e2, h4⟩ := OvI.of (g := b) h1 (fun k ek e => by
        obtain ⟨cur2, h5⟩ := ownsRow_type h1 k ek
        rw [e, hc] at h5
        cases h5)
      refine ⟨a2, _, c2, ?_, h3, h4⟩
      rw [show 0 + i * 13 + 3 = i * 13 + 3 by omega, hcell _ (by omega)]
      exact flatH_get E i hi 3 _ (by rw [← e2]; rfl)
theorem OvR.set {B n g o : Nat} {W : World} (h : OvR B n g o W) {q : Addr} (hq : q.block ≠ g) (u : Value) : OvR B n g o (W.setCell q u) :=
  ⟨h.gB, fun j hj => ⟨isSome_setCell q u (h.thr j hj).1, by simpa using (h.thr j hj).2⟩, fun i hi => by
    obtain ⟨a, m, c, h1, h2, h3⟩ := h.rows i hi
    exact ⟨a, m, c, by rw [World.cell?_setCell_other _ _ _ _ (fun e => hq (by rw [e]))]; exact h1, h2, h3.set q u⟩⟩
theorem OvR.zero {B n g o : Nat} {W : World} (h : OvR B n g o W) (i : Nat) (hi : i < n) : OvR B n g o (W.setCells g (o + i * 13) [.int .i64 0, .int .i64 0, .int .i64 0, .slice none 0 0, .int .i64 0, .int .i64 0, .int .i64 0, .int .i64 0, .int .i64 0, .int .i64 0, .int .i64 0, .string ⟨#[]⟩, .string ⟨#[]⟩]) := by
  have hl : ([.int .i64 0, .int .i64 0, .int .i64 0, .slice none 0 0, .int .i64 0, .int .i64 0, .int .i64 0, .int .i64 0, .int .i64 0, .int .i64 0, .int .i64 0, .string ⟨#[]⟩, .string ⟨#[]⟩] : List Value).length = 13 := rfl
  refine ⟨h.gB, fun j hj => ⟨World.isSome_setCells _ _ _ _ _ (h.thr j hj).1, by rw [World.frozen?_setCells]; exact (h.thr j hj).2⟩, fun k hk => ?_⟩
  by_cases e : k = i
  · subst e
    have hin := World.cell?_setCells_in g [.int .i64 0, .int .i64 0, .int .i64 0, .slice none 0 0, .int .i64 0, .int .i64 0, .int .i64 0, .int .i64 0, .int .i64 0, .int .i64 0, .int .i64 0, .string ⟨#[]⟩, .string ⟨#[]⟩] (o + k * 13) W (fun j hj => by
      have := (h.thr (k * 13 + j) (by rw [hl] at hj; omega)).1
      rwa [show o + (k * 13 + j) = o + k * 13 + j by omega] at this) 3 (by decide)
    exact ⟨none, 0, 0, hin, by omega, fun j hj => by omega⟩
  · obtain ⟨a, m, c, h1, h2, h3⟩ := h.rows k hk
    exact ⟨a, m, c, by rw [World.cell?_setCells_out _ _ _ _ _ (fun _ _ => by rw [hl]; show o + k * 13 + 3 < o + i * 13 ∨ o + i * 13 + 13 ≤ o + k * 13 + 3; omega)]; exact h1, h2, h3.sets _ _ _⟩
theorem OvR.there1 {B n g o : Nat} {W : World} (h : OvR B n g o W) (i : Nat) (hi : i < n) : W.there g (o + i * 13) 13 := fun j hj => by
  have := h.thr (i * 13 + j) (by omega)
  rwa [show o + (i * 13 + j) = o + i * 13 + j by omega] at this

/-- The copy and the document's list, while other things are written. -/
structure ClS (w : World) (lo : Nat) (L : List Ch) (Fo G : Nat → Prop) (yb : Nat) (ay : Option Addr) (cy : Nat) (W : World) : Prop where
  log : LogOk Fo W lo 50 L
  firm : HFirm G W (.slice ay L.length cy) L
  ybox : HasC W yb #[.int .i64 50, .slice ay L.length cy] 29
  bel : Below w.heap.size w W
section
variable {w : World} {lo : Nat} {L : List Ch} {Fo G : Nat → Prop} {yb : Nat} {ay : Option Addr} {cy : Nat} {W W' : World}
theorem ClS.below (h : ClS w lo L Fo G yb ay cy W) (hb : Below W.heap.size W W') : ClS w lo L Fo G yb ay cy W' := ⟨h.log.below hb, h.firm.below hb, h.ybox.below hb, h.bel.trans (hb.mono h.bel.size)⟩
theorem ClS.touch (h : ClS w lo L Fo G yb ay cy W) {F : Nat → Prop} (ht : Touch F W W') (hF : ∀ k, F k → w.heap.size ≤ k ∧ ¬ (Fo k ∨ G k ∨ k = yb)) : ClS w lo L Fo G yb ay cy W' :=
  ⟨h.log.keep (ht.keeps fun k hk => ⟨h.log.lt k hk, fun h2 => (hF k h2).2 (.inl hk)⟩), h.firm.keep (ht.keeps fun k hk => ⟨h.firm.1 k hk, fun h2 => (hF k h2).2 (.inr (.inl hk))⟩), (ht.block yb (row_lt h.ybox) (fun h2 => (hF yb h2).2 (.inr (.inr rfl)))).trans h.ybox, h.bel.trans (ht.below (fun k hk => (hF k hk).1) h.bel.size)⟩
theorem ClS.new (h : ClS w lo L Fo G yb ay cy W) {k : Nat} (hk : W.heap.size ≤ k) : w.heap.size ≤ k ∧ ¬ (Fo k ∨ G k ∨ k = yb) :=
  ⟨Nat.le_trans h.bel.size hk, fun h2 => by rcases h2 with h2 | h2 | h2; exact absurd (h.log.lt k h2) (by omega); exact absurd (h.firm.1 k h2) (by omega); have := row_lt h.ybox; omega⟩
end

set_option maxRecDepth 100000 in
set_option maxHeartbeats 16000000 in
theorem clonesLaw_any (v : Value) (l : List Ch) (v2 : Value) (more : List Ch) (w : World) (h : IsH w v l) (h2 : IsH w v2 more) :
    Calls Tryz.prog 7 #[v, v2] w fun e w' => e = .returned (.bool true) ∧ Below w.heap.size w w' := by
  have HH : Hid (IsH w v l) := h
  obtain ⟨a1, c1, e1⟩ := h.form
  subst e1
  obtain ⟨a2, c2, rfl, hc2, hl2, r2⟩ := h2
  have HR : Hid (more = [] ∨ ∃ b o, a2 = some ⟨b, o, none⟩ ∧ ChsAt w b o more) := r2
  clear h r2
  go_enter Tryz.func7, Tryz.ntmps7
  go_wp2_with fail
  refine (filled_any 50 _ l _ HH.out (by omega) (by omega)).mono ?_
  rintro e w1 ⟨lb, yv, F, G, rfl, hL, hG, hb1, hF1, hG1, hFG⟩
  have hlen : (fillL 50 l).length ≤ 50 := by have := fillL_room (room := 50) (by omega) l; omega
  have HGd : Hid (Good (fillL 50 l)) := fillL_good _ _
  generalize fillL 50 l = L at *
  obtain ⟨ay, cy, ey⟩ := hG.isH.form
  subst ey
  obtain ⟨W2, eW2⟩ : ∃ X, X = w1.alloc (.cells #[.int .i64 50, .slice ay L.length cy] 29) := ⟨_, rfl⟩
  obtain ⟨yb, eyb⟩ : ∃ b, b = w1.heap.size := ⟨_, rfl⟩
  have hb2 : Below w1.heap.size w1 W2 := by rw [eW2]; exact (Below.refl _ _).alloc (Nat.le_refl _) _
  have HY2 : Hid (HasC W2 yb #[.int .i64 50, .slice ay L.length cy] 29) := by rw [eyb, eW2]; exact heap_alloc_new _ _
  have HL2 : Hid (LogOk F W2 lb 50 L) := hL.below hb2
  have HG2 : Hid (HFirm G W2 (.slice ay L.length cy) L) := hG.below hb2
  have HB2 : Hid (Below w.heap.size w W2) := hb1.trans (hb2.mono hb1.size)
  have HFy : Hid (∀ k, F k → w.heap.size ≤ k ∧ ¬ (G k ∨ k = yb)) := fun k hk => ⟨hF1 k hk, fun h2 => by rcases h2 with h2 | h2; exact hFG k h2 hk; have := hL.lt k hk; omega⟩
  clear hL hG hb1 hF1 hG1 hFG hb2
  go_wp2_with fail
  rw [← eW2]
  refine (clone_any lb 50 L F W2 HL2.out HGd.out (by omega)).mono ?_
  rintro e w3 ⟨lo, Fo, rfl, hLo, hFo, hb3⟩
  (try rw [← eyb])
  clear eW2 eyb
  have HC3 : Hid (ClS w lo L Fo G yb ay cy w3) := ⟨hLo, HG2.out.below hb3, HY2.out.below hb3, HB2.out.trans (hb3.mono HB2.out.size)⟩
  have HX3 : Hid (LogOk F w3 lb 50 L) := HL2.out.below hb3
  have HF3 : Hid (∀ k, F k → w.heap.size ≤ k ∧ ¬ (Fo k ∨ G k ∨ k = yb)) := fun k hk => ⟨(HFy.out k hk).1, fun h2 => by rcases h2 with h2 | h2; have := hFo k h2; have := HL2.out.lt k hk; omega; exact (HFy.out k hk).2 h2⟩
  clear hLo hFo hb3 HL2 HG2 HY2 HB2 HFy HH
  obtain ⟨y_0, y_1, _, _⟩ := row2_cells HC3.out.ybox
  go_wp2_with fail
  refine (told_any Fo _ 50 L _ _ HC3.out.log.v HC3.out.firm.isH HGd.out (by omega)).mono ?_
  rintro e w4 ⟨rfl, hb4⟩
  have HC4 : Hid (ClS w lo L Fo G yb ay cy w4) := HC3.out.below hb4
  have HX4 : Hid (LogOk F w4 lb 50 L) := HX3.out.below hb4
  clear hb4 HC3 HX3 y_0 y_1
  go_wp2
  go_loopw [8] (fun i wr => ∃ (k : Nat) (F : Nat → Prop) (M : List Ch), k ≤ more.length ∧ i = .int .i64 (k : Int) ∧ Hid (LogOk F wr lb 50 M) ∧ Hid (Good M ∧ (M.length : Int) ≤ 50) ∧ Hid (∀ k, F k → w.heap.size ≤ k ∧ ¬ (Fo k ∨ G k ∨ k = yb)) ∧ Hid (ClS w lo L Fo G yb ay cy wr)) (fun i _ => more.length - (intOf i).toNat)
  case atStart => exact ⟨0, F, L, Nat.zero_le _, rfl, HX4, ⟨HGd.out, by omega⟩, HF3, HC4⟩
  case round =>
    obtain ⟨k, F, M, hk, rfl, HLr, HMr, HFr, HCr⟩ := hrel
    clear HX4 HC4 HF3
    by_cases hlt : k < more.length
    · obtain ⟨b1, o1, rfl, g1⟩ := HR.out.resolve_left (by intro e; subst e; simp at hlt)
      obtain ⟨a3, c3, i3, hs3, y0, y1, y2, y3, y4, y5, y6, y7, y8, y9, y10, y11, y12⟩ := ((g1.below HCr.out.bel) k hlt).all
      have k1 : (k : Int) < (more.length : Int) := by omega
      have k0 : (0 : Int) ≤ (k : Int) := by omega
      obtain ⟨⟨ac, ar, sq, ds, kd, nc, nr, pc, pr, fc, fr, nm, vl⟩, hc⟩ : ∃ c, c = more[k] := ⟨_, rfl⟩
      rw [← hc] at i3 hs3 y0 y1 y2 y3 y4 y5 y6 y7 y8 y9 y10 y11 y12
      have HI3 : Hid (IsI wr (.slice a3 ds.length c3) ds) := i3
      have HS3 : Hid (Sized (⟨ac, ar, sq, ds, kd, nc, nr, pc, pr, fc, fr, nm, vl⟩ : Ch)) := hs3
      clear hc i3 hs3 g1
      go_wp2_with fail
      refine (add_any F lb 50 M (⟨ac, ar, sq, ds, kd, nc, nr, pc, pr, fc, fr, nm, vl⟩ : Ch) (.slice a3 ds.length c3) _ HLr.out HMr.out.1 HMr.out.2 (by omega) HI3.out HS3.out).mono ?_
      rintro e w5 ⟨rfl, F5, hL5, _, hf5, ht5⟩
      have HL5 : Hid (LogOk F5 w5 lb 50 (addL M 50 (⟨ac, ar, sq, ds, kd, nc, nr, pc, pr, fc, fr, nm, vl⟩ : Ch))) := hL5
      have HM5 : Hid (Good (addL M 50 (⟨ac, ar, sq, ds, kd, nc, nr, pc, pr, fc, fr, nm, vl⟩ : Ch)) ∧ ((addL M 50 (⟨ac, ar, sq, ds, kd, nc, nr, pc, pr, fc, fr, nm, vl⟩ : Ch)).length : Int) ≤ 50) := ⟨addL_good HMr.out.1 _ _, foldl_room 50 [(⟨ac, ar, sq, ds, kd, nc, nr, pc, pr, fc, fr, nm, vl⟩ : Ch)] M HMr.out.2⟩
      have HC5 : Hid (ClS w lo L Fo G yb ay cy w5) := HCr.out.touch ht5 HFr.out
      have HF5 : Hid (∀ k, F5 k → w.heap.size ≤ k ∧ ¬ (Fo k ∨ G k ∨ k = yb)) := fun j hj => by
        rcases hf5 j hj with h | h
        · exact HFr.out j h
        · exact HCr.out.new h
      generalize whyR M 50 (⟨ac, ar, sq, ds, kd, nc, nr, pc, pr, fc, fr, nm, vl⟩ : Ch) = we
      clear hL5 hf5 ht5 HLr HMr HFr HCr HI3 HS3
      go_wp2
      go_roundw
      case rel => exact ⟨k + 1, F5, _, by omega, by go_num, HL5, HM5, HF5, HC5⟩
      case measure => simp [intOf]; omega
    · clear HLr HMr HFr
      go_wp2_with fail
      refine (all_any _ 50 L Fo _ HCr.out.log.v HGd.out (by omega)).mono ?_
      rintro e W6 ⟨v6, E, rfl, hE, hO, hD, hb6⟩
      have hEl : E.length = L.length := by rw [← hE]; simp
      obtain ⟨a6, c6, e6, h6⟩ := OvR.of hO hD
      subst e6
      rw [hEl] at h6
      have HB6 : Hid (Below wr.heap.size wr W6) := hb6
      have HO6 : Hid (0 < L.length → ∃ g, a6 = some ⟨g, 0, none⟩ ∧ OvR wr.heap.size L.length g 0 W6) := h6
      rw [hEl]
      clear hE hO hD hb6 hEl h6 E
      obtain ⟨wb, ewb⟩ : ∃ X, X = wr := ⟨_, rfl⟩
      rw [← ewb] at HCr HB6 HO6
      clear ewb
      go_wp2
      go_loopw [10] (fun i wr => ∃ (k : Nat), k ≤ L.length ∧ i = .int .i64 (k : Int) ∧ Hid (Below wb.heap.size wb wr) ∧ Hid (0 < L.length → ∃ g, a6 = some ⟨g, 0, none⟩ ∧ OvR wb.heap.size L.length g 0 wr)) (fun i _ => L.length - (intOf i).toNat)
      case atStart => exact ⟨0, Nat.zero_le _, rfl, HB6, HO6⟩
      case round =>
        rename_i wr
        obtain ⟨k, hk, rfl, HBr, HOr⟩ := hrel
        by_cases hlt : k < L.length
        · obtain ⟨g, eg, hO⟩ := HOr.out (by omega)
          obtain ⟨o, eo⟩ : ∃ o : Nat, o = 0 := ⟨0, rfl⟩
          rw [← eo] at eg hO
          have HOg : Hid (OvR wb.heap.size L.length g o wr) := hO
          have HGo : Hid (o = 0) := eo
          have k1 : (k : Int) < (L.length : Int) := by omega
          have k0 : (0 : Int) ≤ (k : Int) := by omega
          clear hO eo HOr
          subst eg
          go_wp2
          obtain ⟨a7, m, c7, y3, hm, hI⟩ := HOg.out.rows k hlt
          have HY : Hid (wr.cell? ⟨g, o + k * 13 + 3, none⟩ = some (.slice a7 m c7)) := y3
          have HI7 : Hid (OvI wb.heap.size g wr a7 m) := hI
          clear y3 hI HO6 HB6
          go_loopw [11] (fun i wq => ∃ (j : Nat), j ≤ m ∧ i = .int .i64 (j : Int) ∧ Hid (Below wb.heap.size wb wq) ∧ Hid (OvR wb.heap.size L.length g o wq) ∧ Hid (wq.cell? ⟨g, o + k * 13 + 3, none⟩ = some (.slice a7 m c7)) ∧ Hid (OvI wb.heap.size g wq a7 m)) (fun i _ => m - (intOf i).toNat)
          case atStart => exact ⟨0, Nat.zero_le _, rfl, HBr, HOg, HY, HI7⟩
          case round =>
            rename World => wq
            obtain ⟨j, hj, rfl, HBq, HOq, HYq, HIq⟩ := hrel
            have y3 := HYq.out
            by_cases hjm : j < m
            · obtain ⟨h7, p7, e7, hB7, hne7, hs7, hf7⟩ := HIq.out j hjm
              subst e7
              obtain ⟨u7, hu7⟩ := Option.isSome_iff_exists.1 hs7
              have HN7 : Hid (h7 ≠ g ∧ wb.heap.size ≤ h7) := ⟨hne7, hB7⟩
              have j1 : (j : Int) < (m : Int) := by omega
              have j0 : (0 : Int) ≤ (j : Int) := by omega
              clear hB7 hne7 hs7 HY HI7 HBr HOg
              go_wp2
              go_roundw
              case rel => exact ⟨j + 1, by omega, by go_num, HBq.out.setCell (p := ⟨h7, p7 + j, none⟩) HN7.out.2 _, HOq.out.set (q := ⟨h7, p7 + j, none⟩) HN7.out.1 _, (World.cell?_setCell_other _ _ _ _ (fun e => HN7.out.1 (congrArg Addr.block e))).trans HYq.out, HIq.out.set _ _⟩
              case measure => simp [intOf]; omega
            · have HT7 : Hid (wq.there g (o + k * 13) 13) := HOq.out.there1 k hlt
              clear HY HI7 HBr HOg
              go_upto_region 17 with fail
              go_step
              refine wpList_plain rfl (fun K hK => ?_)
              go_simp
              refine hK _ _ ?_
              clear hK K
              refine wpList_plain rfl (fun K hK => ?_)
              go_simp
              refine hK _ _ ?_
              clear hK K
              refine wpList_plain rfl (fun K hK => ?_)
              go_simp
              refine hK _ _ ?_
              clear hK K
              refine wpList_plain rfl (fun K hK => ?_)
              go_simp
              refine hK _ _ ?_
              clear hK K
              refine wpList_store_mid rfl 34 (.tmp 69) (.tmp 68) rfl g (o + k * 13) #[.int .i64 0, .int .i64 0, .int .i64 0, .slice none 0 0, .int .i64 0, .int .i64 0, .int .i64 0, .int .i64 0, .int .i64 0, .int .i64 0, .int .i64 0, .string ⟨#[]⟩, .string ⟨#[]⟩] rfl rfl HT7.out sizeChange (by simp [Value.oneCell']) ?_
              (try simp only [Act.put, List.setIfInBounds_toArray, List.set_cons_zero, List.set_cons_succ])
              go_wp2
              go_roundw
              case rel => exact ⟨k + 1, by omega, by go_num, Below.sets HOq.out.gB _ _ _ _ HBq.out, fun _ => ⟨g, by rw [HGo.out], by have e := HOq.out.zero k hlt; have e2 := HGo.out; rw [e2] at e ⊢; exact e⟩⟩
              case measure => simp [intOf]; omega
        · have HC7 : Hid (ClS w lo L Fo G yb ay cy wr) := HCr.out.below HBr.out
          clear HCr HBr HOr HO6 HB6
          go_wp2_with fail
          refine (clock_any _ 50 L Fo _ HC7.out.log.v).mono ?_
          rintro e w8 ⟨v8, rfl, ho8, hb8⟩
          obtain ⟨a8, c8, e8, hI8⟩ := OvI.of (g := yb) ho8 (fun k ek e => by have h1 := (World.ownsRow.lt ho8 k ek).1; have h2 := row_lt HC7.out.ybox; omega)
          subst e8
          have hcl := clockL_length L
          obtain ⟨m, em⟩ : ∃ m, m = (clockL L).length := ⟨_, rfl⟩
          rw [← em] at hI8 hcl ⊢
          obtain ⟨wc, ewc⟩ : ∃ X, X = wr := ⟨_, rfl⟩
          rw [← ewc] at HC7 hb8 hI8
          have HB8 : Hid (Below wc.heap.size wc w8) := hb8
          have HI8 : Hid (OvI wc.heap.size yb w8 a8 m) := hI8
          clear em ewc ho8 hb8 hI8
          go_wp2
          go_loopw [13] (fun i wq => ∃ (j : Nat), j ≤ m ∧ i = .int .i64 (j : Int) ∧ Hid (Below wc.heap.size wc wq) ∧ Hid (OvI wc.heap.size yb wq a8 m)) (fun i _ => m - (intOf i).toNat)
          case atStart => exact ⟨0, Nat.zero_le _, rfl, HB8, HI8⟩
          case round =>
            rename World => wq
            obtain ⟨j, hj, rfl, HBq, HIq⟩ := hrel
            by_cases hjm : j < m
            · obtain ⟨h7, p7, e7, hB7, hne7, hs7, hf7⟩ := HIq.out j hjm
              subst e7
              obtain ⟨u7, hu7⟩ := Option.isSome_iff_exists.1 hs7
              have HN7 : Hid (wc.heap.size ≤ h7) := hB7
              have j1 : (j : Int) < (m : Int) := by omega
              have j0 : (0 : Int) ≤ (j : Int) := by omega
              clear hB7 hne7 hs7 HB8 HI8
              go_wp2
              go_roundw
              case rel => exact ⟨j + 1, by omega, by go_num, HBq.out.setCell (p := ⟨h7, p7 + j, none⟩) HN7.out _, HIq.out.set _ _⟩
              case measure => simp [intOf]; omega
            · have HC9 : Hid (ClS w lo L Fo G yb ay cy wq) := HC7.out.below HBq.out
              obtain ⟨y_0, y_1, _, _⟩ := row2_cells HC9.out.ybox
              clear HB8 HI8 HBq HIq HC7
              go_wp2_with fail
              refine (told_any Fo _ 50 L _ _ HC9.out.log.v HC9.out.firm.isH HGd.out (by omega)).mono ?_
              rintro e wd ⟨rfl, hbd⟩
              have HBd : Hid (Below w.heap.size w wd) := HC9.out.bel.trans (hbd.mono HC9.out.bel.size)
              clear hbd HC9 y_0 y_1
              go_wp2_with fail
              refine (awake_any _).mono ?_
              rintro e we ⟨rfl, hbe⟩
              have HBe : Hid (Below w.heap.size w we) := HBd.out.trans (hbe.mono HBd.out.size)
              clear hbe
              go_wp2
              go_ret
              exact ⟨rfl, HBe.out⟩

end Go.Proofs.YtckipepodohnpaaGreat

namespace Go.Proofs.YtckipepodohnpaaGreat
open Go.ChangeShapes Go.WideShapes Go.ChangeAt Go.RowKit
open Go.ChangeMaps (open_string shut_string)
set_option linter.unusedVariables false

set_option maxRecDepth 100000 in
theorem oplogClones_lifted (os : Os) (started : os.Started) (H : Type) (enc : TypeId × Value → H) :
    ReturnsInHanded {} Tryz.checked os 7 .any (Rows.oplogClonesSpec.pre6 enc Tryz.prog Tryz.f7 Rows.oplogClonesRow.domain false) (Rows.oplogClonesSpec.post enc Tryz.prog Tryz.f7 false true false false) := by
  refine returnsInHanded_of_change_sized (C := Tryz.checked) ownI started (by kernel_rfl) Tryz.func7
    (ChangeSpec.witness6 (enc := enc) (C := Tryz.checked) false ⟨#[], #[.slice none 0 0, .slice none 0 0], []⟩ 8 (by kernel_rfl) (by kernel_rfl) (by kernel_rfl) (by kernel_rfl)) ?_
  intro W base args ds gs before hval0 hW _ hsz0 _
  have hval : ∀ (j : Nat) t v, Tryz.f7.params[j]? = some t → args[j]? = some v → Value.okWide Tryz.prog W .any base t v := hval0
  have hW' := hW
  obtain ⟨p, q, hA0, hV, rfl, hfz, hnd⟩ := hW
  have hA : DataW.TrodAll enc Tryz.prog W 0 (fun _ => true) true Tryz.f7.params.toList args.toList ds p := hA0
  rw [Tryz.params7] at hA hval
  obtain ⟨v0, v1, d0, d1, p0, p1, rfl, rfl, rfl, h0, h1⟩ := trodAll_two hA
  obtain ⟨rfl, rfl⟩ := trodVars_none hV
  have hk0 := h0
  have hk1 := h1
  have hsz : (DataW.weightsEach Tryz.prog (Tryz.f7.params.toList ++ Rows.oplogClonesSpec.plain.varTypes Tryz.prog) (_ ++ _)).all (· ≤ reachBytes) = true := hsz0
  rw [Tryz.params7] at hsz
  have hw0 : ∀ n ∈ d0.weights Tryz.prog 22, n ≤ reachBytes := fun n hn => by
    have h1 := List.all_eq_true.1 hsz n (DataW.weights_mem_each (j := 0) rfl rfl n hn)
    simpa using h1
  obtain ⟨D0, is0, hl0⟩ := open_chsV (hval 0 22 v0 rfl rfl) h0 hw0
  have hlt0 : ∀ x ∈ p0, x.block < W.heap.size := fun x hx => by simpa using hW'.lt x (by simp [hx])
  have hw1 : ∀ n ∈ d1.weights Tryz.prog 22, n ≤ reachBytes := fun n hn => by
    have h1 := List.all_eq_true.1 hsz n (DataW.weights_mem_each (j := 1) rfl rfl n hn)
    simpa using h1
  obtain ⟨D1, is1, hl1⟩ := open_chsV (hval 1 22 v1 rfl rfl) h1 hw1
  have hlt1 : ∀ x ∈ p1, x.block < W.heap.size := fun x hx => by simpa using hW'.lt x (by simp [hx])
  clear hA0 hval0
  refine (clonesLaw_any v0 D0 v1 D1 W is0 is1).mono fun e W' ⟨he, bel⟩ => ?_
  subst he
  exact ⟨_, rfl, _, _, _, [], _, [], hW', trodAll_mk1 (shut_bool Tryz.underlying4 _), trodAll_mk2 (Below.trod laidOutI (by kernel_rfl) (of_decide_eq_true (by kernel_rfl)) hk0 bel hlt0) (Below.trod laidOutI (by kernel_rfl) (of_decide_eq_true (by kernel_rfl)) hk1 bel hlt1), rfl, bel.frame _, fun h => by cases h⟩

theorem oplogClones_holds : Rows.OplogClonesSaid :=
  OpenClaim.holds_of_wide 7 Tryz.f7 rfl rfl rfl rfl rfl rfl rfl ⟨rfl, rfl, rfl, rfl, rfl⟩ rfl rfl rfl rfl rfl (by kernel_rfl) Tryz.func7 (by kernel_rfl)
    (of_decide_eq_true (by kernel_rfl)) (by unfold Func.isWrapper; first | (rw [if_pos (by decide +kernel)]; kernel_rfl) | (rw [if_neg (by decide +kernel)]; exact ⟨rfl, rfl⟩))
    (fun os started H enc _ => oplogClones_lifted os started H enc)
#print axioms oplogClones_holds
end Go.Proofs.YtckipepodohnpaaGreat
