/- OplogAdds of package topiarylaw07 is proved at this commit: for every input (a number, a list of changes, any) the call returns true and the arguments read as they did. No condition. -/
import Derived.Test.YtckipepodohnpaaGreatOlA
import Derived.Test.YtckipepodohnpaaGreatCkA
import Derived.Test.YtckipepodohnpaaGreatOlB
import Derived.Test.YtckipepodohnpaaGreatOlW1
import Derived.Test.YtckipepodohnpaaGreatOlY2
import Derived.Test.YtckipepodohnpaaGreatZI
import Derived.Test.YtckipepodohnpaaGreatOlV5
import Derived.Test.YtckipepodohnpaaGreatBaseO
namespace Go.Proofs.YtckipepodohnpaaGreat
open Go.RowKit
set_option linter.unusedVariables false
set_option linter.unusedSimpArgs false

set_option maxRecDepth 100000 in
set_option maxHeartbeats 8000000 in
theorem refSameCh_eq (ac ar sq : Int) (v1 v2 : Value) (kd nc nr pc pr fc fr : Int) (nm vl : ByteArray) (ds : List Int) (w : World) (h1 : IsI w v1 ds) (h2 : IsI w v2 ds) :
    Calls Tryz.prog 18 #[.agg #[.int .i64 ac, .int .i64 ar, .int .i64 sq, v1, .int .i64 kd, .int .i64 nc, .int .i64 nr, .int .i64 pc, .int .i64 pr, .int .i64 fc, .int .i64 fr, .string nm, .string vl], .agg #[.int .i64 ac, .int .i64 ar, .int .i64 sq, v2, .int .i64 kd, .int .i64 nc, .int .i64 nr, .int .i64 pc, .int .i64 pr, .int .i64 fc, .int .i64 fr, .string nm, .string vl]] w fun e w' => e = .returned (.bool true) ∧ Below w.heap.size w w' := by
  obtain ⟨a1, c1, e1⟩ := h1.form
  subst e1
  obtain ⟨a2, c2, e2⟩ := h2.form
  subst e2
  have K0 := KeptC.start w [.int .i64 ac, .int .i64 ar, .int .i64 sq, .slice a1 ds.length c1, .int .i64 kd, .int .i64 nc, .int .i64 nr, .int .i64 pc, .int .i64 pr, .int .i64 fc, .int .i64 fr, .string nm, .string vl] 34
  have M0 := KeptC.start (w.alloc (.cells #[.int .i64 ac, .int .i64 ar, .int .i64 sq, .slice a1 ds.length c1, .int .i64 kd, .int .i64 nc, .int .i64 nr, .int .i64 pc, .int .i64 pr, .int .i64 fc, .int .i64 fr, .string nm, .string vl] 34)) [.int .i64 ac, .int .i64 ar, .int .i64 sq, .slice a2 ds.length c2, .int .i64 kd, .int .i64 nc, .int .i64 nr, .int .i64 pc, .int .i64 pr, .int .i64 fc, .int .i64 fr, .string nm, .string vl] 34
  rw [show (w.alloc (.cells #[.int .i64 ac, .int .i64 ar, .int .i64 sq, .slice a1 ds.length c1, .int .i64 kd, .int .i64 nc, .int .i64 nr, .int .i64 pc, .int .i64 pr, .int .i64 fc, .int .i64 fr, .string nm, .string vl] 34)).heap.size = w.heap.size + 1 by simp] at M0
  have K1 := K0.step M0.2.2
  have H1 : Hid (IsI _ (.slice a1 ds.length c1) ds) := h1.below K1.2.2
  have H2 : Hid (IsI _ (.slice a2 ds.length c2) ds) := h2.below K1.2.2
  clear h1 h2
  go_enter Tryz.func18, Tryz.ntmps18
  go_wp2_with fail
  refine (sameI_any _ _ ds ds _ H1.out H2.out).mono ?_
  rintro e w1 ⟨rfl, hb1⟩
  have d0 : decide (ds = ds) = true := by simp
  rw [d0]
  have K2 := K1.step hb1
  have M2 := M0.step hb1
  obtain ⟨k_0, k_1, k_2, k_3, k_4, k_5, k_6, k_7, k_8, k_9, k_10, k_11, k_12⟩ := K2.all
  obtain ⟨m_0, m_1, m_2, m_3, m_4, m_5, m_6, m_7, m_8, m_9, m_10, m_11, m_12⟩ := M2.all
  have q1 : (nm.toList == nm.toList) = true := by simp
  have q2 : (vl.toList == vl.toList) = true := by simp
  go_wp2
  go_ret
  exact ⟨rfl, K2.2.2⟩

end Go.Proofs.YtckipepodohnpaaGreat

namespace Go.Proofs.YtckipepodohnpaaGreat
open Go.RowKit
set_option linter.unusedVariables false
set_option linter.unusedSimpArgs false

theorem rangeAt_below {w W : World} {b o : Nat} {c : Ch} {dv : Value} (h : w.rangeAt b o (chCells c dv)) (hb : Below w.heap.size w W) : W.rangeAt b o (chCells c dv) := fun j v hj => by
  have h0 := h 0 _ rfl
  have hlt : b < w.heap.size := by
    rcases Nat.lt_or_ge b w.heap.size with h' | h'
    · exact h'
    · simp [World.cell?, h'] at h0
  exact (hb.cell (p := ⟨b, o + j, none⟩) hlt).trans (h j v hj)

set_option maxRecDepth 100000 in
set_option maxHeartbeats 4000000 in
theorem sameAll_eq (v1 v2 : Value) (L : List Ch) (w : World) (h1 : IsH w v1 L) (h2 : IsH w v2 L) :
    Calls Tryz.prog 23 #[v1, v2] w fun e w' => e = .returned (.bool true) ∧ Below w.heap.size w w' := by
  obtain ⟨a1, c1, rfl, hc1, hl1, r1⟩ := h1
  obtain ⟨a2, c2, rfl, hc2, hl2, r2⟩ := h2
  have R1 : Hid (L = [] ∨ ∃ b o, a1 = some ⟨b, o, none⟩ ∧ ChsAt w b o L) := r1
  have R2 : Hid (L = [] ∨ ∃ b o, a2 = some ⟨b, o, none⟩ ∧ ChsAt w b o L) := r2
  have q : ((L.length : Int) != (L.length : Int)) = false := by simp
  clear r1 r2
  go_enter Tryz.func23, Tryz.ntmps23
  go_wp2
  go_loopw [5] (fun i wr => ∃ k : Nat, k ≤ L.length ∧ i = .int .i64 (k : Int) ∧ Below w.heap.size w wr) (fun i _ => L.length - (intOf i).toNat)
  case atStart => exact ⟨0, Nat.zero_le _, rfl, Below.refl _ _⟩
  case round =>
    obtain ⟨k, hk, rfl, hb⟩ := hrel
    by_cases hlt : k < L.length
    · obtain ⟨b1, o1, rfl, g1⟩ := R1.out.resolve_left (by intro e; subst e; simp at hlt)
      obtain ⟨b2, o2, rfl, g2⟩ := R2.out.resolve_left (by intro e; subst e; simp at hlt)
      obtain ⟨a3, c3, i3, hs3, x3⟩ := (g1 k hlt).open
      obtain ⟨a4, c4, i4, hs4, x4⟩ := (g2 k hlt).open
      have k1 : (k : Int) < (L.length : Int) := by omega
      have k0 : (0 : Int) ≤ (k : Int) := by omega
      generalize L[k] = c at *
      have X3 : Hid (w.rangeAt b1 (o1 + k * 13) (chCells c (.slice a3 c.deps.length c3))) := x3
      have X4 : Hid (w.rangeAt b2 (o2 + k * 13) (chCells c (.slice a4 c.deps.length c4))) := x4
      have I3 : Hid (IsI w (.slice a3 c.deps.length c3) c.deps) := i3
      have I4 : Hid (IsI w (.slice a4 c.deps.length c4) c.deps) := i4
      have HB : Hid (Below w.heap.size w wr) := hb
      have hsw := hb.size
      clear g1 g2 i3 i4 hs3 hs4 x3 x4 hb
      go_upto_region 6 with fail
      refine wp_region_held_drew (S := fun W' => Below w.heap.size w W') (by kernel_rfl) (below_drewN HB.out 1) (fun hHeld => ?_)
      obtain ⟨Ua0, eW⟩ : ∃ X, X = wr.drew := ⟨_, rfl⟩
      rw [← eW] at hHeld ⊢
      clear eW
      refine wpAnyH_take (i := 0) (oi := ⟨some 17, _, _, _, _, _⟩) (v := ?vax0) rfl (by kernel_rfl) (by kernel_rfl) (by kernel_rfl) (fun _ _ _ h => h) (Or.inl ⟨by rfl, ?hyax0⟩) hHeld ?restax0
      case hyax0 => (intro w hSw; (try dsimp only at hSw); go_simp; try with_reducible rfl)
      simp only [Act.put, List.setIfInBounds_toArray, List.set_cons_zero, List.set_cons_succ]
      refine wpAnyH_take (i := 1) (oi := ⟨some 18, _, _, _, _, _⟩) (v := ?vax1) rfl (by kernel_rfl) (by kernel_rfl) (by kernel_rfl) (fun _ _ _ h => h) (Or.inl ⟨by rfl, ?hyax1⟩) hHeld ?restax1
      case hyax1 => (intro w hSw; (try dsimp only at hSw); go_simp; try with_reducible rfl)
      simp only [Act.put, List.setIfInBounds_toArray, List.set_cons_zero, List.set_cons_succ]
      refine wpAnyH_take (i := 2) (oi := ⟨some 19, _, _, _, _, _⟩) (v := ?vax2) rfl (by kernel_rfl) (by kernel_rfl) (by kernel_rfl) (fun _ _ _ h => h) (Or.inl ⟨by rfl, ?hyax2⟩) hHeld ?restax2
      case hyax2 => (intro w hSw; (try dsimp only at hSw); go_simp; try with_reducible rfl)
      simp only [Act.put, List.setIfInBounds_toArray, List.set_cons_zero, List.set_cons_succ]
      refine wpAnyH_take (i := 3) (oi := ⟨some 20, _, _, _, _, _⟩) (v := .agg (chCells c (.slice a3 c.deps.length c3)).toArray) rfl (by kernel_rfl) (by kernel_rfl) (by kernel_rfl) (fun _ _ _ h => h) (yieldsIf_load_mid (by rfl) 34 (.tmp 19) rfl b1 (o1 + k * 13) rfl (chCells c (.slice a3 c.deps.length c3)) _ (fun W hS => rangeAt_below X3.out hS) Tryz.underlying34 rfl sizeChange) hHeld ?_
      simp only [Act.put, List.setIfInBounds_toArray, List.set_cons_zero, List.set_cons_succ]
      refine wpAnyH_take (i := 4) (oi := ⟨some 21, _, _, _, _, _⟩) (v := ?vax4) rfl (by kernel_rfl) (by kernel_rfl) (by kernel_rfl) (fun _ _ _ h => h) (Or.inl ⟨by rfl, ?hyax4⟩) hHeld ?restax4
      case hyax4 => (intro w hSw; (try dsimp only at hSw); go_simp; try with_reducible rfl)
      simp only [Act.put, List.setIfInBounds_toArray, List.set_cons_zero, List.set_cons_succ]
      refine wpAnyH_take (i := 5) (oi := ⟨some 22, _, _, _, _, _⟩) (v := ?vax5) rfl (by kernel_rfl) (by kernel_rfl) (by kernel_rfl) (fun _ _ _ h => h) (Or.inl ⟨by rfl, ?hyax5⟩) hHeld ?restax5
      case hyax5 => (intro w hSw; (try dsimp only at hSw); go_simp; try with_reducible rfl)
      simp only [Act.put, List.setIfInBounds_toArray, List.set_cons_zero, List.set_cons_succ]
      refine wpAnyH_take (i := 6) (oi := ⟨some 23, _, _, _, _, _⟩) (v := ?vax6) rfl (by kernel_rfl) (by kernel_rfl) (by kernel_rfl) (fun _ _ _ h => h) (Or.inl ⟨by rfl, ?hyax6⟩) hHeld ?restax6
      case hyax6 => (intro w hSw; (try dsimp only at hSw); go_simp; try with_reducible rfl)
      simp only [Act.put, List.setIfInBounds_toArray, List.set_cons_zero, List.set_cons_succ]
      refine wpAnyH_take (i := 7) (oi := ⟨some 24, _, _, _, _, _⟩) (v := .agg (chCells c (.slice a4 c.deps.length c4)).toArray) rfl (by kernel_rfl) (by kernel_rfl) (by kernel_rfl) (fun _ _ _ h => h) (yieldsIf_load_mid (by rfl) 34 (.tmp 23) rfl b2 (o2 + k * 13) rfl (chCells c (.slice a4 c.deps.length c4)) _ (fun W hS => rangeAt_below X4.out hS) Tryz.underlying34 rfl sizeChange) hHeld ?_
      simp only [Act.put, List.setIfInBounds_toArray, List.set_cons_zero, List.set_cons_succ]
      refine wpAnyH_ready (rs := [8]) (by kernel_rfl) (by simp) ?_
      refine AllReadyH.cons (o := ⟨some 25, _, _, _, _, _⟩) rfl (fun K hK => ?_) AllReadyH.nil
      go_simp
      refine (refSameCh_eq c.ac c.ar c.seq (.slice a3 c.deps.length c3) (.slice a4 c.deps.length c4) c.kind c.nc c.nr c.pc c.pr c.fc c.fr c.name c.value c.deps _ (I3.out.below hHeld) (I4.out.below hHeld)).mono ?_
      rintro e Va1 ⟨rfl, hb⟩
      (try go_wp2_with fail)
      refine hK.out _ _ (hHeld.trans (hb.mono hHeld.size)) (fun hHeld2 => ?_)
      clear hK K hHeld
      have hHeld := hHeld2
      clear hHeld2
      (try simp only [Act.put, List.setIfInBounds_toArray, List.set_cons_zero, List.set_cons_succ])
      clear hb
      refine wpAnyH_take (i := 9) (oi := ⟨some 26, _, _, _, _, _⟩) (v := ?va_8x9) rfl (by kernel_rfl) (by kernel_rfl) (by kernel_rfl) (fun _ _ _ h => h) (Or.inl ⟨by rfl, ?hya_8x9⟩) hHeld ?resta_8x9
      case hya_8x9 => (intro w hSw; (try dsimp only at hSw); go_simp; try with_reducible rfl)
      simp only [Act.put, List.setIfInBounds_toArray, List.set_cons_zero, List.set_cons_succ]
      refine wpAnyH_done (by kernel_rfl) ?_ _
      have HZ := hHeld
      clear hHeld
      go_wp2
      go_roundw
      case rel => exact ⟨k + 1, by omega, by go_num, HZ⟩
      case measure => simp [intOf]; omega
    · go_wp2
      go_ret
      exact ⟨rfl, hb⟩

end Go.Proofs.YtckipepodohnpaaGreat

namespace Go.Proofs.YtckipepodohnpaaGreat
open Go.RowKit
set_option linter.unusedVariables false
set_option linter.unusedSimpArgs false

theorem all_any (v : Value) (room : Int) (L : List Ch) (F : Nat → Prop) (w : World) (h : LogV F w v room L) (hg : Good L) (hl : L.length ≤ 4096) :
    Calls Tryz.prog 29 #[v] w fun e w' => ∃ v' E, e = .returned v' ∧ E.map Prod.fst = L ∧ OwnH w.heap.size w' v' E ∧ (∀ x ∈ E, OwnI w.heap.size w' x.2 x.1.deps ∧ Sized x.1 ∧ x.1.deps.length ≤ 17592186044416) ∧ Below w.heap.size w w' :=
  (callsIn_wide.1 (all_in 5 (Nat.le_refl _) v room L F w h hg.srt hl)).mono fun e w' ⟨v', E, h1, h2, h3⟩ => ⟨v', E, h1, h2.trans (lackL_all hg), h3⟩

set_option maxRecDepth 100000 in
set_option maxHeartbeats 16000000 in
theorem told_any (F : Nat → Prop) (v : Value) (room : Int) (L : List Ch) (yv : Value) (w : World) (h : LogV F w v room L) (hy : IsH w yv L) (hg : Good L) (hl : L.length ≤ 4096) :
    Calls Tryz.prog 14 #[v, .agg #[.int .i64 room, yv]] w fun e w' => e = .returned (.bool true) ∧ Below w.heap.size w w' := by
  obtain ⟨ay, cy, ey⟩ := hy.form
  subst ey
  obtain ⟨W0, eW⟩ : ∃ X, X = w.alloc (.cells #[.int .i64 room, .slice ay L.length cy] 29) := ⟨_, rfl⟩
  have hb0 : Below w.heap.size w W0 := by rw [eW]; exact (Below.refl _ _).alloc (Nat.le_refl _) _
  have HRow : Hid (W0.drew.heap[w.heap.size]? = some (.cells #[.int .i64 room, .slice ay L.length cy] 29)) := by rw [eW]; exact heap_alloc_new _ _
  have HLv : Hid (LogV F W0 v room L) := h.below hb0
  have HH : Hid (IsH W0 (.slice ay L.length cy) L) := hy.below hb0
  have HBw : Hid (Below w.heap.size w W0) := hb0
  have HG : Hid (Good L) := hg
  have HLm : Hid (L.foldl (fun m c => max m c.ac) 0 = lastL L) := lastL_max hg
  clear h hy hg hb0
  go_enter Tryz.func14, Tryz.ntmps14
  go_upto_region 1 with fail
  rw [← eW]
  clear eW
  refine wp_region_held_drew (S := fun W' => W'.heap[w.heap.size]? = some (.cells #[.int .i64 room, .slice ay L.length cy] 29)) (by kernel_rfl) HRow.out (fun hHeld => ?_)
  obtain ⟨Ut1u0, eW⟩ : ∃ X, X = W0.drew := ⟨_, rfl⟩
  have hb : Below W0.heap.size W0 Ut1u0 := by rw [eW]; exact (Below.refl _ _).drew
  replace HLv : Hid (LogV F Ut1u0 v room L) := HLv.out.below hb
  replace HH : Hid (IsH Ut1u0 (.slice ay L.length cy) L) := HH.out.below hb
  replace HBw : Hid (Below w.heap.size w Ut1u0) := HBw.out.trans (hb.mono HBw.out.size)
  rw [← eW] at hHeld ⊢
  clear eW hb
  refine wpAnyH_take (i := 0) (oi := ⟨some 5, _, _, _, _, _⟩) (v := ?vt1ux0) rfl (by kernel_rfl) (by kernel_rfl) (by kernel_rfl) (fun _ _ _ h => h) (Or.inl ⟨by rfl, ?hyt1ux0⟩) hHeld ?restt1ux0
  case hyt1ux0 => (intro w _; go_simp; try with_reducible rfl)
  simp only [Act.put, List.setIfInBounds_toArray, List.set_cons_zero, List.set_cons_succ]
  refine wpAnyH_take (i := 2) (oi := ⟨some 7, _, _, _, _, _⟩) (v := ?vt1ux2) rfl (by kernel_rfl) (by kernel_rfl) (by kernel_rfl) (fun _ _ _ h => h) (Or.inl ⟨by rfl, ?hyt1ux2⟩) hHeld ?restt1ux2
  case hyt1ux2 => (intro w _; go_simp; try with_reducible rfl)
  simp only [Act.put, List.setIfInBounds_toArray, List.set_cons_zero, List.set_cons_succ]
  refine wpAnyH_take (i := 3) (oi := ⟨some 8, _, _, _, _, _⟩) (v := ?vt1ux3) rfl (by kernel_rfl) (by kernel_rfl) (by kernel_rfl) (fun _ _ _ h => h) (Or.inl ⟨by rfl, ?hyt1ux3⟩) hHeld ?restt1ux3
  case hyt1ux3 => (intro w hSw; (try dsimp only at hSw); have hk := hSw; obtain ⟨x_0, x_1, _, _⟩ := row2_cells hk; go_simp; try with_reducible rfl)
  simp only [Act.put, List.setIfInBounds_toArray, List.set_cons_zero, List.set_cons_succ]
  refine wpAnyH_take (i := 4) (oi := ⟨some 9, _, _, _, _, _⟩) (v := ?vt1ux4) rfl (by kernel_rfl) (by kernel_rfl) (by kernel_rfl) (fun _ _ _ h => h) (Or.inl ⟨by rfl, ?hyt1ux4⟩) hHeld ?restt1ux4
  case hyt1ux4 => (intro w hSw; (try dsimp only at hSw); have hk := hSw; obtain ⟨x_0, x_1, _, _⟩ := row2_cells hk; go_simp; try with_reducible rfl)
  simp only [Act.put, List.setIfInBounds_toArray, List.set_cons_zero, List.set_cons_succ]
  refine wpAnyH_ready (rs := [1]) (by kernel_rfl) (by simp) ?_
  refine AllReadyH.cons (o := ⟨some 6, _, _, _, _, _⟩) rfl (fun K hK => ?_) AllReadyH.nil
  go_simp
  refine (len_any _ room L F _ HLv.out).mono ?_
  rintro e Ut1u1 ⟨rfl, hb⟩
  (try go_wp2_with fail)
  refine hK.out _ _ ((hb.block _ (row_lt hHeld)).trans hHeld) (fun hHeld2 => ?_)
  clear hK K hHeld
  have hHeld := hHeld2
  clear hHeld2
  (try simp only [Act.put, List.setIfInBounds_toArray, List.set_cons_zero, List.set_cons_succ])
  replace HLv : Hid (LogV F Ut1u1 v room L) := HLv.out.below hb
  replace HH : Hid (IsH Ut1u1 (.slice ay L.length cy) L) := HH.out.below hb
  replace HBw : Hid (Below w.heap.size w Ut1u1) := HBw.out.trans (hb.mono HBw.out.size)
  clear hb
  refine wpAnyH_take (i := 5) (oi := ⟨some 10, _, _, _, _, _⟩) (v := ?vt1u_1x5) rfl (by kernel_rfl) (by kernel_rfl) (by kernel_rfl) (fun _ _ _ h => h) (Or.inl ⟨by rfl, ?hyt1u_1x5⟩) hHeld ?restt1u_1x5
  case hyt1u_1x5 => (intro w hSw; (try dsimp only at hSw); have hk := hSw; obtain ⟨x_0, x_1, _, _⟩ := row2_cells hk; go_simp; try with_reducible rfl)
  simp only [Act.put, List.setIfInBounds_toArray, List.set_cons_zero, List.set_cons_succ]
  refine wpAnyH_take (i := 6) (oi := ⟨some 11, _, _, _, _, _⟩) (v := ?vt1u_1x6) rfl (by kernel_rfl) (by kernel_rfl) (by kernel_rfl) (fun _ _ _ h => h) (Or.inl ⟨by rfl, ?hyt1u_1x6⟩) hHeld ?restt1u_1x6
  case hyt1u_1x6 => (intro w _; go_simp; try with_reducible rfl)
  simp only [Act.put, List.setIfInBounds_toArray, List.set_cons_zero, List.set_cons_succ]
  refine wpAnyH_take (i := 7) (oi := ⟨some 12, _, _, _, _, _⟩) (v := ?vt1u_1x7) rfl (by kernel_rfl) (by kernel_rfl) (by kernel_rfl) (fun _ _ _ h => h) (Or.inl ⟨by rfl, ?hyt1u_1x7⟩) hHeld ?restt1u_1x7
  case hyt1u_1x7 => (intro w _; go_simp; try with_reducible rfl)
  simp only [Act.put, List.setIfInBounds_toArray, List.set_cons_zero, List.set_cons_succ]
  refine wpAnyH_take (i := 9) (oi := ⟨some 14, _, _, _, _, _⟩) (v := ?vt1u_1x9) rfl (by kernel_rfl) (by kernel_rfl) (by kernel_rfl) (fun _ _ _ h => h) (Or.inl ⟨by rfl, ?hyt1u_1x9⟩) hHeld ?restt1u_1x9
  case hyt1u_1x9 => (intro w _; go_simp; try with_reducible rfl)
  simp only [Act.put, List.setIfInBounds_toArray, List.set_cons_zero, List.set_cons_succ]
  refine wpAnyH_take (i := 10) (oi := ⟨some 15, _, _, _, _, _⟩) (v := ?vt1u_1x10) rfl (by kernel_rfl) (by kernel_rfl) (by kernel_rfl) (fun _ _ _ h => h) (Or.inl ⟨by rfl, ?hyt1u_1x10⟩) hHeld ?restt1u_1x10
  case hyt1u_1x10 => (intro w hSw; (try dsimp only at hSw); have hk := hSw; obtain ⟨x_0, x_1, _, _⟩ := row2_cells hk; go_simp; try with_reducible rfl)
  simp only [Act.put, List.setIfInBounds_toArray, List.set_cons_zero, List.set_cons_succ]
  refine wpAnyH_ready (rs := [8]) (by kernel_rfl) (by simp) ?_
  refine AllReadyH.cons (o := ⟨some 13, _, _, _, _, _⟩) rfl (fun K hK => ?_) AllReadyH.nil
  go_simp
  refine (room_any _ room L F _ HLv.out).mono ?_
  rintro e Ut1u2 ⟨rfl, hb⟩
  (try go_wp2_with fail)
  refine hK.out _ _ ((hb.block _ (row_lt hHeld)).trans hHeld) (fun hHeld2 => ?_)
  clear hK K hHeld
  have hHeld := hHeld2
  clear hHeld2
  (try simp only [Act.put, List.setIfInBounds_toArray, List.set_cons_zero, List.set_cons_succ])
  replace HLv : Hid (LogV F Ut1u2 v room L) := HLv.out.below hb
  replace HH : Hid (IsH Ut1u2 (.slice ay L.length cy) L) := HH.out.below hb
  replace HBw : Hid (Below w.heap.size w Ut1u2) := HBw.out.trans (hb.mono HBw.out.size)
  clear hb
  refine wpAnyH_take (i := 11) (oi := ⟨some 16, _, _, _, _, _⟩) (v := ?vt1u_1_8x11) rfl (by kernel_rfl) (by kernel_rfl) (by kernel_rfl) (fun _ _ _ h => h) (Or.inl ⟨by rfl, ?hyt1u_1_8x11⟩) hHeld ?restt1u_1_8x11
  case hyt1u_1_8x11 => (intro w hSw; (try dsimp only at hSw); have hk := hSw; obtain ⟨x_0, x_1, _, _⟩ := row2_cells hk; go_simp; try with_reducible rfl)
  simp only [Act.put, List.setIfInBounds_toArray, List.set_cons_zero, List.set_cons_succ]
  refine wpAnyH_take (i := 12) (oi := ⟨some 17, _, _, _, _, _⟩) (v := ?vt1u_1_8x12) rfl (by kernel_rfl) (by kernel_rfl) (by kernel_rfl) (fun _ _ _ h => h) (Or.inl ⟨by rfl, ?hyt1u_1_8x12⟩) hHeld ?restt1u_1_8x12
  case hyt1u_1_8x12 => (intro w _; go_simp; try with_reducible rfl)
  simp only [Act.put, List.setIfInBounds_toArray, List.set_cons_zero, List.set_cons_succ]
  refine wpAnyH_take (i := 13) (oi := ⟨some 18, _, _, _, _, _⟩) (v := ?vt1u_1_8x13) rfl (by kernel_rfl) (by kernel_rfl) (by kernel_rfl) (fun _ _ _ h => h) (Or.inl ⟨by rfl, ?hyt1u_1_8x13⟩) hHeld ?restt1u_1_8x13
  case hyt1u_1_8x13 => (intro w _; go_simp; try with_reducible rfl)
  simp only [Act.put, List.setIfInBounds_toArray, List.set_cons_zero, List.set_cons_succ]
  refine wpAnyH_take (i := 14) (oi := ⟨some 19, _, _, _, _, _⟩) (v := ?vt1u_1_8x14) rfl (by kernel_rfl) (by kernel_rfl) (by kernel_rfl) (fun _ _ _ h => h) (Or.inl ⟨by rfl, ?hyt1u_1_8x14⟩) hHeld ?restt1u_1_8x14
  case hyt1u_1_8x14 => (intro w _; go_simp; try with_reducible rfl)
  simp only [Act.put, List.setIfInBounds_toArray, List.set_cons_zero, List.set_cons_succ]
  refine wpAnyH_take (i := 16) (oi := ⟨some 21, _, _, _, _, _⟩) (v := ?vt1u_1_8x16) rfl (by kernel_rfl) (by kernel_rfl) (by kernel_rfl) (fun _ _ _ h => h) (Or.inl ⟨by rfl, ?hyt1u_1_8x16⟩) hHeld ?restt1u_1_8x16
  case hyt1u_1_8x16 => (intro w _; go_simp; try with_reducible rfl)
  simp only [Act.put, List.setIfInBounds_toArray, List.set_cons_zero, List.set_cons_succ]
  refine wpAnyH_take (i := 17) (oi := ⟨some 22, _, _, _, _, _⟩) (v := ?vt1u_1_8x17) rfl (by kernel_rfl) (by kernel_rfl) (by kernel_rfl) (fun _ _ _ h => h) (Or.inl ⟨by rfl, ?hyt1u_1_8x17⟩) hHeld ?restt1u_1_8x17
  case hyt1u_1_8x17 => (intro w hSw; (try dsimp only at hSw); have hk := hSw; obtain ⟨x_0, x_1, _, _⟩ := row2_cells hk; go_simp; try with_reducible rfl)
  simp only [Act.put, List.setIfInBounds_toArray, List.set_cons_zero, List.set_cons_succ]
  refine wpAnyH_ready (rs := [15]) (by kernel_rfl) (by simp) ?_
  refine AllReadyH.cons (o := ⟨some 20, _, _, _, _, _⟩) rfl (fun K hK => ?_) AllReadyH.nil
  go_simp
  refine (last_any _ room L F _ HLv.out hl).mono ?_
  rintro e Ut1u3 ⟨rfl, hb⟩
  (try go_wp2_with fail)
  refine hK.out _ _ ((hb.block _ (row_lt hHeld)).trans hHeld) (fun hHeld2 => ?_)
  clear hK K hHeld
  have hHeld := hHeld2
  clear hHeld2
  (try simp only [Act.put, List.setIfInBounds_toArray, List.set_cons_zero, List.set_cons_succ])
  replace HLv : Hid (LogV F Ut1u3 v room L) := HLv.out.below hb
  replace HH : Hid (IsH Ut1u3 (.slice ay L.length cy) L) := HH.out.below hb
  replace HBw : Hid (Below w.heap.size w Ut1u3) := HBw.out.trans (hb.mono HBw.out.size)
  clear hb
  refine wpAnyH_ready (rs := [18]) (by kernel_rfl) (by simp) ?_
  refine AllReadyH.cons (o := ⟨some 23, _, _, _, _, _⟩) rfl (fun K hK => ?_) AllReadyH.nil
  go_simp
  refine (refLast_any _ L _ HH.out).mono ?_
  rintro e Ut1u4 ⟨rfl, hb⟩
  rw [HLm.out]
  (try go_wp2_with fail)
  refine hK.out _ _ ((hb.block _ (row_lt hHeld)).trans hHeld) (fun hHeld2 => ?_)
  clear hK K hHeld
  have hHeld := hHeld2
  clear hHeld2
  (try simp only [Act.put, List.setIfInBounds_toArray, List.set_cons_zero, List.set_cons_succ])
  replace HLv : Hid (LogV F Ut1u4 v room L) := HLv.out.below hb
  replace HH : Hid (IsH Ut1u4 (.slice ay L.length cy) L) := HH.out.below hb
  replace HBw : Hid (Below w.heap.size w Ut1u4) := HBw.out.trans (hb.mono HBw.out.size)
  clear hb
  refine wpAnyH_take (i := 19) (oi := ⟨some 24, _, _, _, _, _⟩) (v := ?vt1u_1_8_15_18x19) rfl (by kernel_rfl) (by kernel_rfl) (by kernel_rfl) (fun _ _ _ h => h) (Or.inl ⟨by rfl, ?hyt1u_1_8_15_18x19⟩) hHeld ?restt1u_1_8_15_18x19
  case hyt1u_1_8_15_18x19 => (intro w hSw; (try dsimp only at hSw); have hk := hSw; obtain ⟨x_0, x_1, _, _⟩ := row2_cells hk; go_simp; try with_reducible rfl)
  simp only [Act.put, List.setIfInBounds_toArray, List.set_cons_zero, List.set_cons_succ]
  refine wpAnyH_take (i := 20) (oi := ⟨some 25, _, _, _, _, _⟩) (v := ?vt1u_1_8_15_18x20) rfl (by kernel_rfl) (by kernel_rfl) (by kernel_rfl) (fun _ _ _ h => h) (Or.inl ⟨by rfl, ?hyt1u_1_8_15_18x20⟩) hHeld ?restt1u_1_8_15_18x20
  case hyt1u_1_8_15_18x20 => (intro w _; go_simp; try with_reducible rfl)
  simp only [Act.put, List.setIfInBounds_toArray, List.set_cons_zero, List.set_cons_succ]
  refine wpAnyH_take (i := 21) (oi := ⟨some 26, _, _, _, _, _⟩) (v := ?vt1u_1_8_15_18x21) rfl (by kernel_rfl) (by kernel_rfl) (by kernel_rfl) (fun _ _ _ h => h) (Or.inl ⟨by rfl, ?hyt1u_1_8_15_18x21⟩) hHeld ?restt1u_1_8_15_18x21
  case hyt1u_1_8_15_18x21 => (intro w _; go_simp; try with_reducible rfl)
  simp only [Act.put, List.setIfInBounds_toArray, List.set_cons_zero, List.set_cons_succ]
  refine wpAnyH_take (i := 22) (oi := ⟨some 27, _, _, _, _, _⟩) (v := ?vt1u_1_8_15_18x22) rfl (by kernel_rfl) (by kernel_rfl) (by kernel_rfl) (fun _ _ _ h => h) (Or.inl ⟨by rfl, ?hyt1u_1_8_15_18x22⟩) hHeld ?restt1u_1_8_15_18x22
  case hyt1u_1_8_15_18x22 => (intro w _; go_simp; try with_reducible rfl)
  simp only [Act.put, List.setIfInBounds_toArray, List.set_cons_zero, List.set_cons_succ]
  refine wpAnyH_take (i := 24) (oi := ⟨some 29, _, _, _, _, _⟩) (v := ?vt1u_1_8_15_18x24) rfl (by kernel_rfl) (by kernel_rfl) (by kernel_rfl) (fun _ _ _ h => h) (Or.inl ⟨by rfl, ?hyt1u_1_8_15_18x24⟩) hHeld ?restt1u_1_8_15_18x24
  case hyt1u_1_8_15_18x24 => (intro w _; go_simp; try with_reducible rfl)
  simp only [Act.put, List.setIfInBounds_toArray, List.set_cons_zero, List.set_cons_succ]
  refine wpAnyH_take (i := 25) (oi := ⟨some 30, _, _, _, _, _⟩) (v := ?vt1u_1_8_15_18x25) rfl (by kernel_rfl) (by kernel_rfl) (by kernel_rfl) (fun _ _ _ h => h) (Or.inl ⟨by rfl, ?hyt1u_1_8_15_18x25⟩) hHeld ?restt1u_1_8_15_18x25
  case hyt1u_1_8_15_18x25 => (intro w hSw; (try dsimp only at hSw); have hk := hSw; obtain ⟨x_0, x_1, _, _⟩ := row2_cells hk; go_simp; try with_reducible rfl)
  simp only [Act.put, List.setIfInBounds_toArray, List.set_cons_zero, List.set_cons_succ]
  refine wpAnyH_ready (rs := [23]) (by kernel_rfl) (by simp) ?_
  refine AllReadyH.cons (o := ⟨some 28, _, _, _, _, _⟩) rfl (fun K hK => ?_) AllReadyH.nil
  have hsW := HBw.out.size
  go_simp
  refine (clock_any _ room L F _ HLv.out).mono ?_
  rintro e Ut1u5 ⟨v5, rfl, ho5, hb⟩
  (try go_wp2_with fail)
  refine hK.out _ _ ((hb.block _ (row_lt hHeld)).trans hHeld) (fun hHeld2 => ?_)
  clear hK K hHeld
  have hHeld := hHeld2
  clear hHeld2
  (try simp only [Act.put, List.setIfInBounds_toArray, List.set_cons_zero, List.set_cons_succ])
  replace HLv : Hid (LogV F Ut1u5 v room L) := HLv.out.below hb
  replace HH : Hid (IsH Ut1u5 (.slice ay L.length cy) L) := HH.out.below hb
  replace HBw : Hid (Below w.heap.size w Ut1u5) := HBw.out.trans (hb.mono HBw.out.size)
  have hi5 := ho5.isI (by have := clockL_length L; omega)
  obtain ⟨a5, c5, e5⟩ := hi5.form
  subst e5
  have HC5 : Hid (IsI Ut1u5 (.slice a5 (clockL L).length c5) (clockL L)) := hi5
  clear ho5 hi5 hsW
  clear hb
  refine wpAnyH_ready (rs := [26]) (by kernel_rfl) (by simp) ?_
  refine AllReadyH.cons (o := ⟨some 31, _, _, _, _, _⟩) rfl (fun K hK => ?_) AllReadyH.nil
  have hsW := HBw.out.size
  go_simp
  refine (refClock_any _ L _ HH.out).mono ?_
  rintro e Ut1u6 ⟨v6, rfl, ho6, hb⟩
  (try go_wp2_with fail)
  refine hK.out _ _ ((hb.block _ (row_lt hHeld)).trans hHeld) (fun hHeld2 => ?_)
  clear hK K hHeld
  have hHeld := hHeld2
  clear hHeld2
  (try simp only [Act.put, List.setIfInBounds_toArray, List.set_cons_zero, List.set_cons_succ])
  replace HLv : Hid (LogV F Ut1u6 v room L) := HLv.out.below hb
  replace HH : Hid (IsH Ut1u6 (.slice ay L.length cy) L) := HH.out.below hb
  replace HBw : Hid (Below w.heap.size w Ut1u6) := HBw.out.trans (hb.mono HBw.out.size)
  replace HC5 : Hid (IsI Ut1u6 (.slice a5 (clockL L).length c5) (clockL L)) := HC5.out.below hb
  have hi6 := ho6.isI (by have := clockL_length L; omega)
  obtain ⟨a6, c6, e6⟩ := hi6.form
  subst e6
  have HC6 : Hid (IsI Ut1u6 (.slice a6 (clockL L).length c6) (clockL L)) := hi6
  clear ho6 hi6 hsW
  clear hb
  refine wpAnyH_ready (rs := [27]) (by kernel_rfl) (by simp) ?_
  refine AllReadyH.cons (o := ⟨some 32, _, _, _, _, _⟩) rfl (fun K hK => ?_) AllReadyH.nil
  go_simp
  refine (sameI_any _ _ (clockL L) (clockL L) _ HC5.out HC6.out).mono ?_
  rintro e Ut1u7 ⟨rfl, hb⟩
  rw [decide_eq_true (rfl : clockL L = clockL L)]
  (try go_wp2_with fail)
  refine hK.out _ _ ((hb.block _ (row_lt hHeld)).trans hHeld) (fun hHeld2 => ?_)
  clear hK K hHeld
  have hHeld := hHeld2
  clear hHeld2
  (try simp only [Act.put, List.setIfInBounds_toArray, List.set_cons_zero, List.set_cons_succ])
  replace HLv : Hid (LogV F Ut1u7 v room L) := HLv.out.below hb
  replace HH : Hid (IsH Ut1u7 (.slice ay L.length cy) L) := HH.out.below hb
  replace HBw : Hid (Below w.heap.size w Ut1u7) := HBw.out.trans (hb.mono HBw.out.size)
  replace HC5 : Hid (IsI Ut1u7 (.slice a5 (clockL L).length c5) (clockL L)) := HC5.out.below hb
  replace HC6 : Hid (IsI Ut1u7 (.slice a6 (clockL L).length c6) (clockL L)) := HC6.out.below hb
  clear hb
  refine wpAnyH_take (i := 28) (oi := ⟨some 33, _, _, _, _, _⟩) (v := ?vt1u_1_8_15_18_23_26_27x28) rfl (by kernel_rfl) (by kernel_rfl) (by kernel_rfl) (fun _ _ _ h => h) (Or.inl ⟨by rfl, ?hyt1u_1_8_15_18_23_26_27x28⟩) hHeld ?restt1u_1_8_15_18_23_26_27x28
  case hyt1u_1_8_15_18_23_26_27x28 => (intro w _; go_simp; try with_reducible rfl)
  simp only [Act.put, List.setIfInBounds_toArray, List.set_cons_zero, List.set_cons_succ]
  refine wpAnyH_take (i := 29) (oi := ⟨some 34, _, _, _, _, _⟩) (v := ?vt1u_1_8_15_18_23_26_27x29) rfl (by kernel_rfl) (by kernel_rfl) (by kernel_rfl) (fun _ _ _ h => h) (Or.inl ⟨by rfl, ?hyt1u_1_8_15_18_23_26_27x29⟩) hHeld ?restt1u_1_8_15_18_23_26_27x29
  case hyt1u_1_8_15_18_23_26_27x29 => (intro w _; go_simp; try with_reducible rfl)
  simp only [Act.put, List.setIfInBounds_toArray, List.set_cons_zero, List.set_cons_succ]
  refine wpAnyH_take (i := 30) (oi := ⟨some 35, _, _, _, _, _⟩) (v := ?vt1u_1_8_15_18_23_26_27x30) rfl (by kernel_rfl) (by kernel_rfl) (by kernel_rfl) (fun _ _ _ h => h) (Or.inl ⟨by rfl, ?hyt1u_1_8_15_18_23_26_27x30⟩) hHeld ?restt1u_1_8_15_18_23_26_27x30
  case hyt1u_1_8_15_18_23_26_27x30 => (intro w _; go_simp; try with_reducible rfl)
  simp only [Act.put, List.setIfInBounds_toArray, List.set_cons_zero, List.set_cons_succ]
  refine wpAnyH_take (i := 32) (oi := ⟨some 37, _, _, _, _, _⟩) (v := ?vt1u_1_8_15_18_23_26_27x32) rfl (by kernel_rfl) (by kernel_rfl) (by kernel_rfl) (fun _ _ _ h => h) (Or.inl ⟨by rfl, ?hyt1u_1_8_15_18_23_26_27x32⟩) hHeld ?restt1u_1_8_15_18_23_26_27x32
  case hyt1u_1_8_15_18_23_26_27x32 => (intro w _; go_simp; try with_reducible rfl)
  simp only [Act.put, List.setIfInBounds_toArray, List.set_cons_zero, List.set_cons_succ]
  refine wpAnyH_take (i := 33) (oi := ⟨some 38, _, _, _, _, _⟩) (v := ?vt1u_1_8_15_18_23_26_27x33) rfl (by kernel_rfl) (by kernel_rfl) (by kernel_rfl) (fun _ _ _ h => h) (Or.inl ⟨by rfl, ?hyt1u_1_8_15_18_23_26_27x33⟩) hHeld ?restt1u_1_8_15_18_23_26_27x33
  case hyt1u_1_8_15_18_23_26_27x33 => (intro w hSw; (try dsimp only at hSw); have hk := hSw; obtain ⟨x_0, x_1, _, _⟩ := row2_cells hk; go_simp; try with_reducible rfl)
  simp only [Act.put, List.setIfInBounds_toArray, List.set_cons_zero, List.set_cons_succ]
  refine wpAnyH_ready (rs := [31]) (by kernel_rfl) (by simp) ?_
  refine AllReadyH.cons (o := ⟨some 36, _, _, _, _, _⟩) rfl (fun K hK => ?_) AllReadyH.nil
  go_simp
  refine (all_any _ room L F _ HLv.out HG.out hl).mono ?_
  rintro e Ut1u8 ⟨v7, E, rfl, hE, hO, hD, hb⟩
  (try go_wp2_with fail)
  refine hK.out _ _ ((hb.block _ (row_lt hHeld)).trans hHeld) (fun hHeld2 => ?_)
  clear hK K hHeld
  have hHeld := hHeld2
  clear hHeld2
  (try simp only [Act.put, List.setIfInBounds_toArray, List.set_cons_zero, List.set_cons_succ])
  replace HLv : Hid (LogV F Ut1u8 v room L) := HLv.out.below hb
  replace HH : Hid (IsH Ut1u8 (.slice ay L.length cy) L) := HH.out.below hb
  replace HBw : Hid (Below w.heap.size w Ut1u8) := HBw.out.trans (hb.mono HBw.out.size)
  replace HC5 : Hid (IsI Ut1u8 (.slice a5 (clockL L).length c5) (clockL L)) := HC5.out.below hb
  replace HC6 : Hid (IsI Ut1u8 (.slice a6 (clockL L).length c6) (clockL L)) := HC6.out.below hb
  have hEl : E.length = L.length := by rw [← hE]; simp
  have h7 : IsH Ut1u8 v7 L := by rw [← hE]; exact OwnH.isH hO (by omega) (fun x hx => ⟨(hD x hx).1.isI (hD x hx).2.2, (hD x hx).2.1⟩)
  obtain ⟨a7, c7, e7⟩ := h7.form
  subst e7
  have HC7 : Hid (IsH Ut1u8 (.slice a7 L.length c7) L) := h7
  clear hE hO hD hEl h7
  clear hb
  refine wpAnyH_ready (rs := [34]) (by kernel_rfl) (by simp) ?_
  refine AllReadyH.cons (o := ⟨some 39, _, _, _, _, _⟩) rfl (fun K hK => ?_) AllReadyH.nil
  go_simp
  refine (sameAll_eq _ _ L _ HC7.out HH.out).mono ?_
  rintro e Ut1u9 ⟨rfl, hb⟩
  (try go_wp2_with fail)
  refine hK.out _ _ ((hb.block _ (row_lt hHeld)).trans hHeld) (fun hHeld2 => ?_)
  clear hK K hHeld
  have hHeld := hHeld2
  clear hHeld2
  (try simp only [Act.put, List.setIfInBounds_toArray, List.set_cons_zero, List.set_cons_succ])
  replace HLv : Hid (LogV F Ut1u9 v room L) := HLv.out.below hb
  replace HH : Hid (IsH Ut1u9 (.slice ay L.length cy) L) := HH.out.below hb
  replace HBw : Hid (Below w.heap.size w Ut1u9) := HBw.out.trans (hb.mono HBw.out.size)
  replace HC5 : Hid (IsI Ut1u9 (.slice a5 (clockL L).length c5) (clockL L)) := HC5.out.below hb
  replace HC6 : Hid (IsI Ut1u9 (.slice a6 (clockL L).length c6) (clockL L)) := HC6.out.below hb
  replace HC7 : Hid (IsH Ut1u9 (.slice a7 L.length c7) L) := HC7.out.below hb
  clear hb
  refine wpAnyH_take (i := 35) (oi := ⟨some 40, _, _, _, _, _⟩) (v := ?vt1u_1_8_15_18_23_26_27_31_34x35) rfl (by kernel_rfl) (by kernel_rfl) (by kernel_rfl) (fun _ _ _ h => h) (Or.inl ⟨by rfl, ?hyt1u_1_8_15_18_23_26_27_31_34x35⟩) hHeld ?restt1u_1_8_15_18_23_26_27_31_34x35
  case hyt1u_1_8_15_18_23_26_27_31_34x35 => (intro w _; go_simp; try with_reducible rfl)
  simp only [Act.put, List.setIfInBounds_toArray, List.set_cons_zero, List.set_cons_succ]
  refine wpAnyH_take (i := 36) (oi := ⟨some 4, _, _, _, _, _⟩) (v := ?vt1u_1_8_15_18_23_26_27_31_34x36) rfl (by kernel_rfl) (by kernel_rfl) (by kernel_rfl) (fun _ _ _ h => h) (Or.inl ⟨by rfl, ?hyt1u_1_8_15_18_23_26_27_31_34x36⟩) hHeld ?restt1u_1_8_15_18_23_26_27_31_34x36
  case hyt1u_1_8_15_18_23_26_27_31_34x36 => (intro w _; go_simp; try with_reducible rfl)
  simp only [Act.put, List.setIfInBounds_toArray, List.set_cons_zero, List.set_cons_succ]
  refine wpAnyH_done (by kernel_rfl) ?_ _
  clear hHeld
  go_wp2
  go_ret
  exact ⟨rfl, HBw.out⟩

end Go.Proofs.YtckipepodohnpaaGreat

namespace Go.Proofs.YtckipepodohnpaaGreat
open Go.RowKit
set_option linter.unusedVariables false
set_option linter.unusedSimpArgs false

def firstC : Ch := ⟨1, 0, 1, [], 1, 1, 0, 0, 0, 0, 0, ⟨#[112]⟩, ⟨#[]⟩⟩
theorem first_sized : Sized firstC := ⟨by decide, by decide⟩
theorem why_first : whyR [] 3 firstC = 0 := by decide +kernel
theorem why_first2 : whyR [firstC] 3 firstC = 5 := by decide +kernel
theorem add_first : addL [] 3 firstC = [firstC] := by unfold addL; rw [if_pos why_first]; rfl
theorem add_first2 : addL [firstC] 3 firstC = [firstC] := by unfold addL; rw [if_neg (by rw [why_first2]; decide)]

set_option maxRecDepth 100000 in
set_option maxHeartbeats 2000000 in
theorem first_any (w : World) : Calls Tryz.prog 25 #[] w fun e w' => e = .returned (chV firstC (.slice none 0 0)) ∧ Below w.heap.size w w' := by
  go_enter Tryz.func25, Tryz.ntmps25
  go_wp2
  (try simp only [Exit.inBlock, Exit.then])
  refine bodyPost_ret (v := chV firstC (.slice none 0 0)) ?res rfl ?post
  case res => exact results_cell_row rfl _ _ w.heap.size _ _ _ _ rfl ((Below.heap_alloc _ _ _ (by simp)).trans (heap_alloc_new w _)) Tryz.underlying34 rfl (by kernel_rfl)
  exact ⟨rfl, ((Below.refl _ _).alloc (Nat.le_refl _) _).alloc (by simp) _⟩

set_option maxRecDepth 100000 in
set_option maxHeartbeats 4000000 in
theorem awake_any (w : World) : Calls Tryz.prog 10 #[] w fun e w' => e = .returned (.bool true) ∧ Below w.heap.size w w' := by
  have HF : Hid (∀ W, Calls Tryz.prog 25 #[] W fun e w' => e = .returned (chV firstC (.slice none 0 0)) ∧ Below W.heap.size W w') := fun W => first_any W
  go_enter Tryz.func10, Tryz.ntmps10
  go_wp2_with fail
  refine (new_any 3 _).mono ?_
  rintro e w1 ⟨h, hb1⟩
  rcases h with ⟨h, _⟩ | ⟨_, lb, F, rfl, hL, hF⟩
  · omega
  have HL : Hid (LogOk F w1 lb 3 []) := hL
  have HB1 : Hid (Below w.heap.size w w1) := hb1
  have HFn : Hid (∀ k, F k → w.heap.size ≤ k) := hF
  clear hL hb1 hF
  go_wp2_with fail
  refine (HF.out _).mono ?_
  rintro e w2 ⟨rfl, hb2⟩
  replace HL : Hid (LogOk F w2 lb 3 []) := HL.out.below hb2
  have HB2 : Hid (Below w.heap.size w w2) := HB1.out.trans (hb2.mono HB1.out.size)
  clear hb2 HB1
  go_wp2_with fail
  refine (add_any F lb 3 [] firstC (.slice none 0 0) _ HL.out Good.none (by simp) (by omega) (IsI.non 0) first_sized).mono ?_
  rintro e w3 ⟨rfl, F3, hL3, hf1, hf2, ht⟩
  rw [why_first]
  rw [add_first] at hL3
  have HL3 : Hid (LogOk F3 w3 lb 3 [firstC]) := hL3
  have HB3 : Hid (Below w.heap.size w w3) := HB2.out.trans (ht.below HFn.out HB2.out.size)
  have HF3 : Hid (∀ k, F3 k → w.heap.size ≤ k) := fun k hk => by
    rcases hf2 k hk with h | h
    · exact HFn.out k h
    · exact Nat.le_trans HB2.out.size h
  clear hL3 hf1 hf2 ht HL HB2 HFn
  go_wp2_with fail
  refine (HF.out _).mono ?_
  rintro e w4 ⟨rfl, hb4⟩
  replace HL3 : Hid (LogOk F3 w4 lb 3 [firstC]) := HL3.out.below hb4
  have HB4 : Hid (Below w.heap.size w w4) := HB3.out.trans (hb4.mono HB3.out.size)
  clear hb4 HB3
  go_wp2_with fail
  refine (add_any F3 lb 3 [firstC] firstC (.slice none 0 0) _ HL3.out (by rw [← add_first]; exact addL_good Good.none 3 firstC) (by simp) (by omega) (IsI.non 0) first_sized).mono ?_
  rintro e w5 ⟨rfl, F5, hL5, hf1, hf2, ht⟩
  rw [why_first2]
  rw [add_first2] at hL5
  have HL5 : Hid (LogOk F5 w5 lb 3 [firstC]) := hL5
  have HB5 : Hid (Below w.heap.size w w5) := HB4.out.trans (ht.below HF3.out HB4.out.size)
  clear hL5 hf1 hf2 ht HL3 HB4 HF3
  go_wp2_with fail
  refine (len_any _ 3 [firstC] F5 _ HL5.out.v).mono ?_
  rintro e w6 ⟨rfl, hb6⟩
  have HL6 : Hid (LogOk F5 w6 lb 3 [firstC]) := HL5.out.below hb6
  have HB6 : Hid (Below w.heap.size w w6) := HB5.out.trans (hb6.mono HB5.out.size)
  clear hb6 HB5 HL5
  rw [show ((([firstC] : List Ch).length : Nat) : Int) = 1 from rfl]
  go_wp2_with fail
  refine (last_any _ 3 [firstC] F5 _ HL6.out.v (by simp)).mono ?_
  rintro e w7 ⟨rfl, hb7⟩
  have HB7 : Hid (Below w.heap.size w w7) := HB6.out.trans (hb7.mono HB6.out.size)
  clear hb7 HB6 HL6
  rw [show lastL [firstC] = 1 from rfl]
  go_wp2
  go_ret
  exact ⟨rfl, HB7.out⟩

end Go.Proofs.YtckipepodohnpaaGreat

namespace Go.Proofs.YtckipepodohnpaaGreat
open Go.RowKit
set_option linter.unusedVariables false
set_option linter.unusedSimpArgs false

theorem results_tmp_row {P : Program} {fn : Func} {p u : Tmp} {ty : TypeId} (h : fn.results = #[.tmp u, .cell p ty]) (tmps : Array Value) (w : World) (g : Nat) (t : TypeId) (cs : Array Value) (fr : Nat × Nat) (d : TypeDesc)
    (hp : tmps.getD p undef = .pointer (some ⟨g, 0, none⟩)) (hg : w.heap[g]? = some (.cells cs t fr))
    (hu : P.underlying ty = some d) (hd : (match d with | .struct _ | .array _ _ => true | _ => false) = true) (hi : (P.info? ty).map (·.size) = some cs.size) {k : Value} (hk : tmps.getD u undef = k) :
    (results fn tmps).run P w = .ok (.tuple #[k, .agg cs]) w := by
  have e : (results fn tmps).run P w = ((asAddr (tmps.getD p undef)).run P w).andThen fun a w₁ => ((loadVar ty a).run P w₁).andThen fun v w₂ => .ok (.tuple #[tmps.getD u undef, v]) w₂ := by
    simp only [results, h]
    simp [Sem.run_bind, Result.andThen]
  rw [e, hp, hk]
  simp [asAddr, run_loadVar_row w g t ty cs fr d hg hu hd hi]
/-- A log and the document's, whose box is yb, beside each other; the call's result lies at its first block. -/
structure Fil (w : World) (lb : Nat) (room : Int) (yb : Nat) (F G : Nat → Prop) (Lx Ly : List Ch) (yv : Value) (U : World) : Prop where
  log : LogOk F U lb room Lx
  firm : HFirm G U yv Ly
  ybox : U.heap[yb]? = some (.cells #[.int .i64 room, yv] 29)
  rbox : U.heap[w.heap.size]? = some (.cells #[.int .i64 0, .slice none 0 0] 29)
  bel : Below w.heap.size w U
  ff : ∀ k, F k → w.heap.size < k
  gw : ∀ k, G k → w.heap.size < k
  fg : ∀ k, G k → ¬ F k
  fy : ¬ F yb
  gy : ¬ G yb
  yw : w.heap.size < yb
section
variable {w : World} {lb : Nat} {room : Int} {yb : Nat} {F F' G : Nat → Prop} {Lx Lx' Ly Ly' : List Ch} {yv yv' : Value} {U U' : World}
theorem Fil.ne (h : Fil w lb room yb F G Lx Ly yv U) : yb ≠ w.heap.size := by have := h.yw; omega
theorem Fil.below (h : Fil w lb room yb F G Lx Ly yv U) (hb : Below U.heap.size U U') : Fil w lb room yb F G Lx Ly yv U' :=
  ⟨h.log.below hb, h.firm.below hb, (hb.block _ (row_lt h.ybox)).trans h.ybox, (hb.block _ (row_lt h.rbox)).trans h.rbox, h.bel.trans (hb.mono h.bel.size), h.ff, h.gw, h.fg, h.fy, h.gy, h.yw⟩
theorem Fil.add (h : Fil w lb room yb F G Lx Ly yv U) (hl : LogOk F' U' lb room Lx') (hf : ∀ k, F' k → F k ∨ U.heap.size ≤ k) (ht : Touch F U U') : Fil w lb room yb F' G Lx' Ly yv U' := by
  have hy := row_lt h.ybox
  have hr := row_lt h.rbox
  refine ⟨hl, h.firm.keep (ht.keeps fun k hk => ⟨h.firm.1 k hk, h.fg k hk⟩), (ht.block _ hy h.fy).trans h.ybox, (ht.block _ hr (fun hF => by have := h.ff _ hF; omega)).trans h.rbox, h.bel.trans (ht.below (fun k hk => by have := h.ff k hk; omega) h.bel.size), ?_, h.gw, ?_, ?_, h.gy, h.yw⟩
  · intro k hk
    rcases hf k hk with q | q
    · exact h.ff k q
    · omega
  · intro k hG hk
    rcases hf k hk with q | q
    · exact h.fg k hG q
    · have := h.firm.1 k hG; omega
  · intro hk
    rcases hf yb hk with q | q
    · exact h.fy q
    · omega
theorem Fil.put {N : Nat} (h : Fil w lb room yb F G Lx Ly yv U) (hf : HFirm (fun k => G k ∨ (N ≤ k ∧ k < U.heap.size)) U yv' Ly') (hy : yb < N) (hF : ∀ k, F k → k < N) :
    Fil w lb room yb F (fun k => G k ∨ (N ≤ k ∧ k < U.heap.size)) Lx Ly' yv' ((U.setCell ⟨yb, 0, none⟩ (.int .i64 room)).setCell ⟨yb, 1, none⟩ yv') := by
  have hyw := h.yw
  have far : ∀ k, k ≠ yb → ((U.setCell ⟨yb, 0, none⟩ (.int .i64 room)).setCell ⟨yb, 1, none⟩ yv').heap[k]? = U.heap[k]? := fun k hk => (RowKit.Below.heap_setCell _ _ _ _ hk).trans (RowKit.Below.heap_setCell _ _ _ _ hk)
  have hs : ((U.setCell ⟨yb, 0, none⟩ (.int .i64 room)).setCell ⟨yb, 1, none⟩ yv').heap.size = U.heap.size := by simp [World.setCell]
  refine ⟨h.log.keep ⟨Nat.le_of_eq hs.symm, fun k hk => far k (fun e => h.fy (e ▸ hk))⟩, hf.keep ⟨Nat.le_of_eq hs.symm, fun k hk => far k (fun e => ?_)⟩, row_set2 h.ybox, (far _ (by omega)).trans h.rbox, (h.bel.setCell (p := ⟨yb, 0, none⟩) (by show w.heap.size ≤ yb; omega) _).setCell (p := ⟨yb, 1, none⟩) (by show w.heap.size ≤ yb; omega) _, h.ff, ?_, ?_, h.fy, ?_, h.yw⟩
  · subst e
    rcases hk with q | q
    · exact h.gy q
    · omega
  · intro k hk
    rcases hk with q | q
    · exact h.gw k q
    · omega
  · intro k hk hFk
    rcases hk with q | q
    · exact h.fg k q hFk
    · have := hF k hFk; omega
  · intro hk
    rcases hk with q | q
    · exact h.gy q
    · omega
/-- What filled gives. -/
theorem Fil.last (h : Fil w lb room yb F G Lx Ly yv U) : LogOk F ((U.setCell ⟨w.heap.size, 0, none⟩ (.int .i64 room)).setCell ⟨w.heap.size, 1, none⟩ yv) lb room Lx ∧ HFirm G ((U.setCell ⟨w.heap.size, 0, none⟩ (.int .i64 room)).setCell ⟨w.heap.size, 1, none⟩ yv) yv Ly ∧ Below w.heap.size w ((U.setCell ⟨w.heap.size, 0, none⟩ (.int .i64 room)).setCell ⟨w.heap.size, 1, none⟩ yv) ∧ (∀ k, F k → w.heap.size ≤ k) ∧ (∀ k, G k → w.heap.size ≤ k) ∧ ∀ k, G k → ¬ F k := by
  have far : ∀ k, k ≠ w.heap.size → ((U.setCell ⟨w.heap.size, 0, none⟩ (.int .i64 room)).setCell ⟨w.heap.size, 1, none⟩ yv).heap[k]? = U.heap[k]? := fun k hk => (RowKit.Below.heap_setCell _ _ _ _ hk).trans (RowKit.Below.heap_setCell _ _ _ _ hk)
  have hs : ((U.setCell ⟨w.heap.size, 0, none⟩ (.int .i64 room)).setCell ⟨w.heap.size, 1, none⟩ yv).heap.size = U.heap.size := by simp [World.setCell]
  refine ⟨h.log.keep ⟨Nat.le_of_eq hs.symm, fun k hk => far k (fun e => by have := h.ff k hk; omega)⟩, h.firm.keep ⟨Nat.le_of_eq hs.symm, fun k hk => far k (fun e => by have := h.gw k hk; omega)⟩, (h.bel.setCell (p := ⟨w.heap.size, 0, none⟩) (Nat.le_refl _) _).setCell (p := ⟨w.heap.size, 1, none⟩) (Nat.le_refl _) _, fun k hk => Nat.le_of_lt (h.ff k hk), fun k hk => Nat.le_of_lt (h.gw k hk), h.fg⟩
end

set_option maxRecDepth 100000 in
set_option maxHeartbeats 8000000 in
theorem filled_any (room : Int) (v : Value) (l : List Ch) (w : World) (h : IsH w v l) (hr0 : 1 ≤ room) (hr1 : room ≤ 4096) :
    Calls Tryz.prog 15 #[.int .i64 room, v] w fun e w' => ∃ lb yv F G, e = .returned (.tuple #[.pointer (some ⟨lb, 0, none⟩), .agg #[.int .i64 room, yv]]) ∧ LogOk F w' lb room (fillL room l) ∧ HFirm G w' yv (fillL room l) ∧ Below w.heap.size w w' ∧ (∀ k, F k → w.heap.size ≤ k) ∧ (∀ k, G k → w.heap.size ≤ k) ∧ ∀ k, G k → ¬ F k := by
  obtain ⟨a1, c1, rfl, hc1, hl1, r1⟩ := h
  have HR : Hid (l = [] ∨ ∃ b o, a1 = some ⟨b, o, none⟩ ∧ ChsAt w b o l) := r1
  clear r1
  obtain ⟨W0, eW⟩ : ∃ X, X = w.alloc (.cells #[.int .i64 0, .slice none 0 0] 29) := ⟨_, rfl⟩
  have HR0 : Hid (W0.heap[w.heap.size]? = some (.cells #[.int .i64 0, .slice none 0 0] 29)) := by rw [eW]; exact heap_alloc_new _ _
  have hb0 : Below w.heap.size w W0 := by rw [eW]; exact (Below.refl _ _).alloc (Nat.le_refl _) _
  have hs0 : W0.heap.size = w.heap.size + 1 := by rw [eW]; simp
  go_enter Tryz.func15, Tryz.ntmps15
  go_wp2_with fail
  rw [← eW]
  clear eW
  refine (new_any room _).mono ?_
  rintro e w1 ⟨h, hb1⟩
  rcases h with ⟨h, _⟩ | ⟨_, lb, F, rfl, hL, hF⟩
  · omega
  obtain ⟨W2, eW2⟩ : ∃ X, X = w1.alloc (.cells #[.int .i64 room, .slice none 0 0] 29) := ⟨_, rfl⟩
  obtain ⟨yb, eyb⟩ : ∃ b, b = w1.heap.size := ⟨_, rfl⟩
  have hb2 : Below w1.heap.size w1 W2 := by rw [eW2]; exact (Below.refl _ _).alloc (Nat.le_refl _) _
  have HFl0 : Hid (Fil w lb room yb F (fun _ => False) (fillL room (l.take 0)) (fillL room (l.take 0)) (.slice none 0 0) W2) := by
    have hs1 := hb1.size
    refine ⟨hL.below hb2, HFirm.nil _, ?_, (hb2.block _ (by omega)).trans ((hb1.block _ (by omega)).trans HR0.out), hb0.trans ((hb1.mono (by omega)).trans (hb2.mono (by omega))), fun k hk => by have := hF k hk; omega, fun k hk => hk.elim, fun k hk => hk.elim, fun hk => ?_, fun hk => hk.elim, by omega⟩
    · rw [eyb, eW2]; exact heap_alloc_new _ _
    · have := hL.lt yb hk; omega
  clear hL hF hb1 HR0 hb0 hs0 hb2
  go_wp2
  rw [← eW2, ← eyb]
  clear eW2 eyb
  go_loopw [9] (fun i wr => ∃ (k : Nat) (F G : Nat → Prop) (yv : Value), k ≤ l.length ∧ i = .int .i64 (k : Int) ∧ Hid (Fil w lb room yb F G (fillL room (l.take k)) (fillL room (l.take k)) yv wr)) (fun i _ => l.length - (intOf i).toNat)
  case atStart => exact ⟨0, _, _, _, Nat.zero_le _, rfl, HFl0⟩
  case round =>
    obtain ⟨k, F, G, yv, hk, rfl, HFl⟩ := hrel
    by_cases hlt : k < l.length
    · obtain ⟨b1, o1, rfl, g1⟩ := HR.out.resolve_left (by intro e; subst e; simp at hlt)
      obtain ⟨a0, c0, i3, hs3, z⟩ := (g1 k hlt).all
      have hbb : b1 < w.heap.size := (g1 k hlt).lt
      have hc' : ∀ W', BelowH w W' → W'.cell? ⟨b1, o1 + k * 13, none⟩ = some (.int .i64 l[k].ac) ∧ W'.cell? ⟨b1, o1 + k * 13 + 1, none⟩ = some (.int .i64 l[k].ar) ∧ W'.cell? ⟨b1, o1 + k * 13 + 2, none⟩ = some (.int .i64 l[k].seq) ∧ W'.cell? ⟨b1, o1 + k * 13 + 3, none⟩ = some (.slice a0 l[k].deps.length c0) ∧ W'.cell? ⟨b1, o1 + k * 13 + 4, none⟩ = some (.int .i64 l[k].kind) ∧ W'.cell? ⟨b1, o1 + k * 13 + 5, none⟩ = some (.int .i64 l[k].nc) ∧ W'.cell? ⟨b1, o1 + k * 13 + 6, none⟩ = some (.int .i64 l[k].nr) ∧ W'.cell? ⟨b1, o1 + k * 13 + 7, none⟩ = some (.int .i64 l[k].pc) ∧ W'.cell? ⟨b1, o1 + k * 13 + 8, none⟩ = some (.int .i64 l[k].pr) ∧ W'.cell? ⟨b1, o1 + k * 13 + 9, none⟩ = some (.int .i64 l[k].fc) ∧ W'.cell? ⟨b1, o1 + k * 13 + 10, none⟩ = some (.int .i64 l[k].fr) ∧ W'.cell? ⟨b1, o1 + k * 13 + 11, none⟩ = some (.string l[k].name) ∧ W'.cell? ⟨b1, o1 + k * 13 + 12, none⟩ = some (.string l[k].value) := fun W' hb => by
        obtain ⟨z0, z1, z2, z3, z4, z5, z6, z7, z8, z9, z10, z11, z12⟩ := z
        exact ⟨(hb.cell (p := ⟨b1, o1 + k * 13, none⟩) hbb).trans z0, (hb.cell (p := ⟨b1, o1 + k * 13 + 1, none⟩) hbb).trans z1, (hb.cell (p := ⟨b1, o1 + k * 13 + 2, none⟩) hbb).trans z2, (hb.cell (p := ⟨b1, o1 + k * 13 + 3, none⟩) hbb).trans z3, (hb.cell (p := ⟨b1, o1 + k * 13 + 4, none⟩) hbb).trans z4, (hb.cell (p := ⟨b1, o1 + k * 13 + 5, none⟩) hbb).trans z5, (hb.cell (p := ⟨b1, o1 + k * 13 + 6, none⟩) hbb).trans z6, (hb.cell (p := ⟨b1, o1 + k * 13 + 7, none⟩) hbb).trans z7, (hb.cell (p := ⟨b1, o1 + k * 13 + 8, none⟩) hbb).trans z8, (hb.cell (p := ⟨b1, o1 + k * 13 + 9, none⟩) hbb).trans z9, (hb.cell (p := ⟨b1, o1 + k * 13 + 10, none⟩) hbb).trans z10, (hb.cell (p := ⟨b1, o1 + k * 13 + 11, none⟩) hbb).trans z11, (hb.cell (p := ⟨b1, o1 + k * 13 + 12, none⟩) hbb).trans z12⟩
      have k1 : (k : Int) < (l.length : Int) := by omega
      have k0 : (0 : Int) ≤ (k : Int) := by omega
      have HFs : Hid (fillL room (l.take (k + 1)) = addL (fillL room (l.take k)) room l[k]) := by
        have e := fillL_snoc room (l.take k) l[k]
        rw [← List.take_succ_eq_append_getElem hlt] at e
        exact e
      have hroom : ((fillL room (l.take k)).length : Int) ≤ room := fillL_room (by omega) _
      have HGd : Hid (Good (fillL room (l.take k))) := fillL_good _ _
      obtain ⟨⟨ac, ar, sq, ds, kd, nc, nr, pc, pr, fc, fr, nm, vl⟩, hc⟩ : ∃ c, c = l[k] := ⟨_, rfl⟩
      rw [← hc] at i3 hs3 hc' HFs
      simp only at hc'
      have HIc : Hid (IsI w (.slice a0 ds.length c0) ds) := i3
      have HSz : Hid (Sized (⟨ac, ar, sq, ds, kd, nc, nr, pc, pr, fc, fr, nm, vl⟩ : Ch)) := hs3
      have HC : Hid (∀ W', BelowH w W' → W'.cell? ⟨b1, o1 + k * 13, none⟩ = some (.int .i64 ac) ∧ W'.cell? ⟨b1, o1 + k * 13 + 1, none⟩ = some (.int .i64 ar) ∧ W'.cell? ⟨b1, o1 + k * 13 + 2, none⟩ = some (.int .i64 sq) ∧ W'.cell? ⟨b1, o1 + k * 13 + 3, none⟩ = some (.slice a0 ds.length c0) ∧ W'.cell? ⟨b1, o1 + k * 13 + 4, none⟩ = some (.int .i64 kd) ∧ W'.cell? ⟨b1, o1 + k * 13 + 5, none⟩ = some (.int .i64 nc) ∧ W'.cell? ⟨b1, o1 + k * 13 + 6, none⟩ = some (.int .i64 nr) ∧ W'.cell? ⟨b1, o1 + k * 13 + 7, none⟩ = some (.int .i64 pc) ∧ W'.cell? ⟨b1, o1 + k * 13 + 8, none⟩ = some (.int .i64 pr) ∧ W'.cell? ⟨b1, o1 + k * 13 + 9, none⟩ = some (.int .i64 fc) ∧ W'.cell? ⟨b1, o1 + k * 13 + 10, none⟩ = some (.int .i64 fr) ∧ W'.cell? ⟨b1, o1 + k * 13 + 11, none⟩ = some (.string nm) ∧ W'.cell? ⟨b1, o1 + k * 13 + 12, none⟩ = some (.string vl)) := hc'
      obtain ⟨p_0, p_1, p_2, p_3, p_4, p_5, p_6, p_7, p_8, p_9, p_10, p_11, p_12⟩ := HC.out _ HFl.out.bel
      generalize fillL room (l.take k) = L at *
      clear hc i3 hs3 g1 z hc'
      go_wp2_with fail
      refine (add_any F lb room L (⟨ac, ar, sq, ds, kd, nc, nr, pc, pr, fc, fr, nm, vl⟩ : Ch) (.slice a0 ds.length c0) _ HFl.out.log HGd.out hroom hr1 (HIc.out.below HFl.out.bel) HSz.out).mono ?_
      rintro e w3 ⟨rfl, F3, hL3, hf1, hf2, ht⟩
      rw [← HFs.out] at hL3
      have HF3 : Hid (Fil w lb room yb F3 G (fillL room (l.take (k + 1))) L yv w3) := HFl.out.add hL3 hf2 ht
      generalize whyR L room (⟨ac, ar, sq, ds, kd, nc, nr, pc, pr, fc, fr, nm, vl⟩ : Ch) = we
      clear hL3 hf1 hf2 ht HFl HGd p_0 p_1 p_2 p_3 p_4 p_5 p_6 p_7 p_8 p_9 p_10 p_11 p_12
      obtain ⟨F, eF⟩ : ∃ F', F' = F3 := ⟨_, rfl⟩
      obtain ⟨Lx, eLx⟩ : ∃ X, X = fillL room (l.take (k + 1)) := ⟨_, rfl⟩
      obtain ⟨Ly, eLy⟩ : ∃ X, X = L := ⟨_, rfl⟩
      rw [← eF, ← eLx, ← eLy] at HF3
      obtain ⟨ay, cy, ey⟩ := HF3.out.firm.isH.form
      rw [ey] at HF3
      have HFl : Hid (Fil w lb room yb F G Lx Ly (.slice ay Ly.length cy) w3) := HF3
      have HBw : Hid (BelowH w w3) := HF3.out.bel
      have hly : Ly.length ≤ 4096 := by rw [eLy]; omega
      have HLL : Hid (fillL room (l.take (k + 1)) = addL Ly room (⟨ac, ar, sq, ds, kd, nc, nr, pc, pr, fc, fr, nm, vl⟩ : Ch)) := by rw [eLy]; exact HFs.out
      have HLx : Hid (Lx = fillL room (l.take (k + 1))) := eLx
      clear HF3 eF eLx eLy ey HFs hroom
      go_upto_region 7 with fail
      refine wp_region_held_drew (S := fun W' => BelowH w W') (by kernel_rfl) (BelowH.below HBw.out (Below.refl _ _).drew) (fun hHeld => ?_)
      obtain ⟨Ua3u0, eW⟩ : ∃ X, X = w3.drew := ⟨_, rfl⟩
      have hb : Below w3.heap.size w3 Ua3u0 := by rw [eW]; exact (Below.refl _ _).drew
      replace HFl : Hid (Fil w lb room yb F G Lx Ly (.slice ay Ly.length cy) Ua3u0) := HFl.out.below hb
      replace HBw : Hid (BelowH w Ua3u0) := HBw.out.below hb
      rw [← eW] at hHeld ⊢
      clear eW hb
      refine wpAnyH_take (i := 1) (oi := ⟨some 31, _, _, _, _, _⟩) (v := ?va3ux1) rfl (by kernel_rfl) (by kernel_rfl) (by kernel_rfl) (fun _ _ _ h => h) (Or.inl ⟨by rfl, ?hya3ux1⟩) hHeld ?resta3ux1
      case hya3ux1 => (intro w _; go_simp; try with_reducible rfl)
      simp only [Act.put, List.setIfInBounds_toArray, List.set_cons_zero, List.set_cons_succ]
      refine wpAnyH_take (i := 2) (oi := ⟨some 32, _, _, _, _, _⟩) (v := ?va3ux2) rfl (by kernel_rfl) (by kernel_rfl) (by kernel_rfl) (fun _ _ _ h => h) (Or.inl ⟨by rfl, ?hya3ux2⟩) hHeld ?resta3ux2
      case hya3ux2 => (intro w _; go_simp; try with_reducible rfl)
      simp only [Act.put, List.setIfInBounds_toArray, List.set_cons_zero, List.set_cons_succ]
      refine wpAnyH_take (i := 3) (oi := ⟨some 33, _, _, _, _, _⟩) (v := ?va3ux3) rfl (by kernel_rfl) (by kernel_rfl) (by kernel_rfl) (fun _ _ _ h => h) (Or.inl ⟨by rfl, ?hya3ux3⟩) hHeld ?resta3ux3
      case hya3ux3 => (intro w hSw; (try dsimp only at hSw); have hk := hSw; obtain ⟨p_0, p_1, p_2, p_3, p_4, p_5, p_6, p_7, p_8, p_9, p_10, p_11, p_12⟩ := HC.out _ hk; go_simp; try with_reducible rfl)
      simp only [Act.put, List.setIfInBounds_toArray, List.set_cons_zero, List.set_cons_succ]
      refine wpAnyH_take (i := 4) (oi := ⟨some 34, _, _, _, _, _⟩) (v := ?va3ux4) rfl (by kernel_rfl) (by kernel_rfl) (by kernel_rfl) (fun _ _ _ h => h) (Or.inl ⟨by rfl, ?hya3ux4⟩) hHeld ?resta3ux4
      case hya3ux4 => (intro w hSw; (try dsimp only at hSw); have hk := hSw; obtain ⟨p_0, p_1, p_2, p_3, p_4, p_5, p_6, p_7, p_8, p_9, p_10, p_11, p_12⟩ := HC.out _ hk; go_simp; try with_reducible rfl)
      simp only [Act.put, List.setIfInBounds_toArray, List.set_cons_zero, List.set_cons_succ]
      refine wpAnyH_ready (rs := [0]) (by kernel_rfl) (by simp) ?_
      refine AllReadyH.cons (o := ⟨some 30, _, _, _, _, _⟩) rfl (fun K hK => ?_) AllReadyH.nil
      obtain ⟨x_0, x_1, _, _⟩ := row2_cells HFl.out.ybox
      go_simp
      refine hK.out _ _ (hHeld) (fun hHeld2 => ?_)
      clear hK K hHeld
      have hHeld := hHeld2
      clear hHeld2
      (try simp only [Act.put, List.setIfInBounds_toArray, List.set_cons_zero, List.set_cons_succ])
      clear x_0 x_1
      refine wpAnyH_ready (rs := [5]) (by kernel_rfl) (by simp) ?_
      refine AllReadyH.cons (o := ⟨some 35, _, _, _, _, _⟩) rfl (fun K hK => ?_) AllReadyH.nil
      have hyb : yb < Ua3u0.heap.size := row_lt HFl.out.ybox
      have HFk : Hid (∀ k, F k → k < Ua3u0.heap.size) := HFl.out.log.lt
      go_simp
      refine (refAdd_any G _ Ly room ac ar sq (.slice a0 ds.length c0) kd nc nr pc pr fc fr nm vl ds Ua3u0 HFl.out.firm (HIc.out.below HBw.out) HSz.out hly).mono ?_
      rintro e Ua3u2 ⟨v6, rfl, hf6, hb⟩
      (try go_wp2_with fail)
      refine hK.out _ _ (BelowH.below hHeld hb) (fun hHeld2 => ?_)
      clear hK K hHeld
      have hHeld := hHeld2
      clear hHeld2
      (try simp only [Act.put, List.setIfInBounds_toArray, List.set_cons_zero, List.set_cons_succ])
      replace HFl : Hid (Fil w lb room yb F G Lx Ly (.slice ay Ly.length cy) Ua3u2) := HFl.out.below hb
      replace HBw : Hid (BelowH w Ua3u2) := HBw.out.below hb
      obtain ⟨a6, c6, e6⟩ := hf6.isH.form
      subst e6
      have HF6 : Hid (HFirm (fun k => G k ∨ (Ua3u0.heap.size ≤ k ∧ k < Ua3u2.heap.size)) Ua3u2 (.slice a6 (addL Ly room (⟨ac, ar, sq, ds, kd, nc, nr, pc, pr, fc, fr, nm, vl⟩ : Ch)).length c6) (addL Ly room (⟨ac, ar, sq, ds, kd, nc, nr, pc, pr, fc, fr, nm, vl⟩ : Ch))) := hf6
      clear hf6
      clear hb
      refine wpAnyH_take (i := 6) (oi := ⟨some 29, _, _, _, _, _⟩) (v := ?va3u_0_5x6) rfl (by kernel_rfl) (by kernel_rfl) (by kernel_rfl) (fun _ _ _ h => h) (Or.inl ⟨by rfl, ?hya3u_0_5x6⟩) hHeld ?resta3u_0_5x6
      case hya3u_0_5x6 => (intro w _; go_simp; try with_reducible rfl)
      simp only [Act.put, List.setIfInBounds_toArray, List.set_cons_zero, List.set_cons_succ]
      refine wpAnyH_take (i := 7) (oi := ⟨some 36, _, _, _, _, _⟩) (v := ?va3u_0_5x7) rfl (by kernel_rfl) (by kernel_rfl) (by kernel_rfl) (fun _ _ _ h => h) (Or.inl ⟨by rfl, ?hya3u_0_5x7⟩) hHeld ?resta3u_0_5x7
      case hya3u_0_5x7 => (intro w _; go_simp; try with_reducible rfl)
      simp only [Act.put, List.setIfInBounds_toArray, List.set_cons_zero, List.set_cons_succ]
      refine wpAnyH_take (i := 8) (oi := ⟨some 37, _, _, _, _, _⟩) (v := ?va3u_0_5x8) rfl (by kernel_rfl) (by kernel_rfl) (by kernel_rfl) (fun _ _ _ h => h) (Or.inl ⟨by rfl, ?hya3u_0_5x8⟩) hHeld ?resta3u_0_5x8
      case hya3u_0_5x8 => (intro w _; go_simp; try with_reducible rfl)
      simp only [Act.put, List.setIfInBounds_toArray, List.set_cons_zero, List.set_cons_succ]
      refine wpAnyH_ready (rs := [9]) (by kernel_rfl) (by simp) ?_
      refine AllReadyH.cons (o := ⟨none, _, _, _, _, _⟩) rfl (fun K hK => ?_) AllReadyH.nil
      obtain ⟨r_0, r_1, r_2, r_3⟩ := row2_cells HFl.out.ybox
      go_simp
      refine hK.out _ _ ((HFl.out.put HF6.out hyb HFk.out).bel) (fun hHeld2 => ?_)
      clear hK K hHeld
      have hHeld := hHeld2
      clear hHeld2
      (try simp only [Act.put, List.setIfInBounds_toArray, List.set_cons_zero, List.set_cons_succ])
      have HFl9 : Hid (Fil w lb room yb F (fun k => G k ∨ (Ua3u0.heap.size ≤ k ∧ k < Ua3u2.heap.size)) Lx (addL Ly room (⟨ac, ar, sq, ds, kd, nc, nr, pc, pr, fc, fr, nm, vl⟩ : Ch)) (.slice a6 (addL Ly room (⟨ac, ar, sq, ds, kd, nc, nr, pc, pr, fc, fr, nm, vl⟩ : Ch)).length c6) ((Ua3u2.setCell ⟨yb, 0, none⟩ (.int .i64 room)).setCell ⟨yb, 1, none⟩ (.slice a6 (addL Ly room (⟨ac, ar, sq, ds, kd, nc, nr, pc, pr, fc, fr, nm, vl⟩ : Ch)).length c6))) := HFl.out.put HF6.out hyb HFk.out
      clear r_0 r_1 r_2 r_3 HFl HF6
      refine wpAnyH_done (by kernel_rfl) ?_ _
      clear hHeld
      go_wp2
      go_roundw
      case rel => exact ⟨k + 1, _, _, _, by omega, by go_num, (by have e2 := HLL.out; have e3 : Lx = addL Ly room (⟨ac, ar, sq, ds, kd, nc, nr, pc, pr, fc, fr, nm, vl⟩ : Ch) := HLx.out.trans e2; rw [e2]; rw [e3] at HFl9; exact HFl9)⟩
      case measure => simp [intOf]; omega
    · have hkl : k = l.length := by omega
      subst hkl
      rw [List.take_length] at HFl
      obtain ⟨Ly, eLy⟩ : ∃ X, X = fillL room l := ⟨_, rfl⟩
      rw [← eLy] at HFl
      obtain ⟨Lx, eLx⟩ : ∃ X, X = Ly := ⟨_, rfl⟩
      obtain ⟨ay, cy, ey⟩ := HFl.out.firm.isH.form
      subst ey
      have HLy : Hid (fillL room l = Ly) := eLy.symm
      clear eLy
      rw [show Fil w lb room yb F G Ly Ly = Fil w lb room yb F G Lx Ly by rw [eLx]] at HFl
      have HLx : Hid (Lx = Ly) := eLx
      clear eLx hlt
      go_upto_region 8 with fail
      refine wp_region_held_drew (S := fun W' => W'.heap[yb]? = some (.cells #[.int .i64 room, .slice ay Ly.length cy] 29)) (by kernel_rfl) HFl.out.ybox (fun hHeld => ?_)
      obtain ⟨Ub4u0, eW⟩ : ∃ X, X = wr.drew := ⟨_, rfl⟩
      have hb : Below wr.heap.size wr Ub4u0 := by rw [eW]; exact (Below.refl _ _).drew
      replace HFl : Hid (Fil w lb room yb F G Lx Ly (.slice ay Ly.length cy) Ub4u0) := HFl.out.below hb
      rw [← eW] at hHeld ⊢
      clear eW hb
      refine wpAnyH_take (i := 0) (oi := ⟨some 38, _, _, _, _, _⟩) (v := ?vb4ux0) rfl (by kernel_rfl) (by kernel_rfl) (by kernel_rfl) (fun _ _ _ h => h) (Or.inl ⟨by rfl, ?hyb4ux0⟩) hHeld ?restb4ux0
      case hyb4ux0 => (intro w _; go_simp; try with_reducible rfl)
      simp only [Act.put, List.setIfInBounds_toArray, List.set_cons_zero, List.set_cons_succ]
      refine wpAnyH_take (i := 1) (oi := ⟨some 39, _, _, _, _, _⟩) (v := ?vb4ux1) rfl (by kernel_rfl) (by kernel_rfl) (by kernel_rfl) (fun _ _ _ h => h) (Or.inl ⟨by rfl, ?hyb4ux1⟩) hHeld ?restb4ux1
      case hyb4ux1 => (intro w hSw; (try dsimp only at hSw); have hk := hSw; obtain ⟨x_0, x_1, _, _⟩ := row2_cells hk; go_simp; try with_reducible rfl)
      simp only [Act.put, List.setIfInBounds_toArray, List.set_cons_zero, List.set_cons_succ]
      refine wpAnyH_take (i := 2) (oi := ⟨some 4, _, _, _, _, _⟩) (v := ?vb4ux2) rfl (by kernel_rfl) (by kernel_rfl) (by kernel_rfl) (fun _ _ _ h => h) (Or.inl ⟨by rfl, ?hyb4ux2⟩) hHeld ?restb4ux2
      case hyb4ux2 => (intro w _; go_simp; try with_reducible rfl)
      simp only [Act.put, List.setIfInBounds_toArray, List.set_cons_zero, List.set_cons_succ]
      refine wpAnyH_ready (rs := [3]) (by kernel_rfl) (by simp) ?_
      refine AllReadyH.cons (o := ⟨none, _, _, _, _, _⟩) rfl (fun K hK => ?_) AllReadyH.nil
      obtain ⟨r_0, r_1, r_2, r_3⟩ := row2_cells HFl.out.rbox
      go_simp
      refine hK.out _ _ (row_set_other (row_set_other hHeld HFl.out.ne) HFl.out.ne) (fun hHeld2 => ?_)
      clear hK K hHeld
      have hHeld := hHeld2
      clear hHeld2
      (try simp only [Act.put, List.setIfInBounds_toArray, List.set_cons_zero, List.set_cons_succ])
      have HE := HFl.out.last
      have HSm : Hid (((Ub4u0.setCell ⟨w.heap.size, 0, none⟩ (.int .i64 room)).setCell ⟨w.heap.size, 1, none⟩ (.slice ay Ly.length cy)).heap[w.heap.size]? = some (.cells #[.int .i64 room, .slice ay Ly.length cy] 29)) := row_set2 HFl.out.rbox
      clear r_0 r_1 r_2 r_3
      refine wpAnyH_done (by kernel_rfl) ?_ _
      clear hHeld
      have HE2 : Hid (_ ∧ _) := HE
      clear HE
      go_wp2
      (try simp only [Exit.inBlock, Exit.then])
      refine bodyPost_ret (v := .tuple #[.pointer (some ⟨lb, 0, none⟩), .agg #[.int .i64 room, .slice ay Ly.length cy]]) ?res rfl ?post
      case res => exact results_tmp_row rfl _ _ w.heap.size _ _ _ _ rfl HSm.out Tryz.underlying29 rfl (by kernel_rfl) rfl
      obtain ⟨q1, q2, q3⟩ := HE2.out
      rw [HLx.out] at q1
      refine ⟨lb, _, F, G, rfl, ?_, ?_, q3⟩
      · rw [HLy.out]; exact q1
      · rw [HLy.out]; exact q2

end Go.Proofs.YtckipepodohnpaaGreat

namespace Go.Proofs.YtckipepodohnpaaGreat
open Go.RowKit
set_option linter.unusedVariables false
set_option linter.unusedSimpArgs false

/-- A zero log of the document's, in a block. -/
def BxL (b : Nat) (W : World) : Prop := W.heap[b]? = some (.cells #[.int .i64 0, .slice none 0 0] 29)
theorem BxL.below {b : Nat} {W W' : World} (h : BxL b W) (hb : Below W.heap.size W W') : BxL b W' := (hb.block _ (row_lt h)).trans h
/-- A log and the document's, whose box is yb. -/
structure AdB (w : World) (lb : Nat) (room : Int) (yb : Nat) (F G : Nat → Prop) (L : List Ch) (yv : Value) (U : World) : Prop where
  log : LogOk F U lb room L
  firm : HFirm G U yv L
  ybox : U.heap[yb]? = some (.cells #[.int .i64 room, yv] 29)
  bel : Below w.heap.size w U
  ff : ∀ k, F k → w.heap.size ≤ k
  fg : ∀ k, G k → ¬ F k
  fy : ¬ F yb
  gy : ¬ G yb
  yw : w.heap.size ≤ yb
/-- .. and a change's copy, whose box is kb. -/
structure AdS (w : World) (lb : Nat) (room : Int) (yb kb : Nat) (F G : Nat → Prop) (Lx Ly : List Ch) (yv dv : Value) (c : Ch) (ds : List Int) (U : World) : Prop where
  log : LogOk F U lb room Lx
  firm : HFirm G U yv Ly
  ybox : U.heap[yb]? = some (.cells #[.int .i64 room, yv] 29)
  kbox : U.heap[kb]? = some (.cells (chCells c dv).toArray 34)
  own : OwnI w.heap.size U dv ds
  bel : Below w.heap.size w U
  ff : ∀ k, F k → w.heap.size ≤ k
  fg : ∀ k, G k → ¬ F k
  fy : ¬ F yb
  gy : ¬ G yb
  yw : w.heap.size ≤ yb
  fk : ¬ F kb
  gk : ¬ G kb
  kw : w.heap.size ≤ kb
  yk : yb ≠ kb
  fo : ∀ k, dv.ownBlock = some k → ¬ F k ∧ ¬ G k ∧ k ≠ yb ∧ k ≠ kb
section
variable {w : World} {lb : Nat} {room : Int} {yb kb : Nat} {F F' G G' : Nat → Prop} {L Lx Lx' Ly Ly' : List Ch} {yv yv' dv : Value} {c : Ch} {ds ds' : List Int} {U U' : World}
theorem AdB.below (h : AdB w lb room yb F G L yv U) (hb : Below U.heap.size U U') : AdB w lb room yb F G L yv U' :=
  ⟨h.log.below hb, h.firm.below hb, (hb.block _ (row_lt h.ybox)).trans h.ybox, h.bel.trans (hb.mono h.bel.size), h.ff, h.fg, h.fy, h.gy, h.yw⟩
theorem AdS.toB (h : AdS w lb room yb kb F G L L yv dv c ds U) : AdB w lb room yb F G L yv U := ⟨h.log, h.firm, h.ybox, h.bel, h.ff, h.fg, h.fy, h.gy, h.yw⟩
theorem AdS.keep (h : AdS w lb room yb kb F G Lx Ly yv dv c ds U) (hk : KeepsS (fun k => F k ∨ G k ∨ k = yb ∨ k = kb ∨ dv.ownBlock = some k) U U') (hb : Below w.heap.size w U') : AdS w lb room yb kb F G Lx Ly yv dv c ds U' :=
  ⟨h.log.keep (hk.mono fun k q => .inl q), h.firm.keep (hk.mono fun k q => .inr (.inl q)), (hk.2 _ (.inr (.inr (.inl rfl)))).trans h.ybox, (hk.2 _ (.inr (.inr (.inr (.inl rfl))))).trans h.kbox, h.own.keepF fun k e => hk.2 k (.inr (.inr (.inr (.inr e)))), hb, h.ff, h.fg, h.fy, h.gy, h.yw, h.fk, h.gk, h.kw, h.yk, h.fo⟩
theorem AdS.lt (h : AdS w lb room yb kb F G Lx Ly yv dv c ds U) : ∀ k, (F k ∨ G k ∨ k = yb ∨ k = kb ∨ dv.ownBlock = some k) → k < U.heap.size := by
  rintro k (q | q | rfl | rfl | q)
  · exact h.log.lt k q
  · exact h.firm.1 k q
  · exact row_lt h.ybox
  · exact row_lt h.kbox
  · exact (World.ownsRow.lt h.own k q).2
theorem AdS.below (h : AdS w lb room yb kb F G Lx Ly yv dv c ds U) (hb : Below U.heap.size U U') : AdS w lb room yb kb F G Lx Ly yv dv c ds U' := h.keep (KeepsS.of_below hb h.lt) (h.bel.trans (hb.mono h.bel.size))
theorem AdS.fresh (h : AdS w lb room yb kb F G Lx Ly yv dv c ds U) : ¬ F U.heap.size ∧ ¬ G U.heap.size ∧ U.heap.size ≠ yb ∧ U.heap.size ≠ kb ∧ dv.ownBlock ≠ some U.heap.size ∧ w.heap.size ≤ U.heap.size :=
  ⟨fun q => by have := h.lt _ (.inl q); omega, fun q => by have := h.lt _ (.inr (.inl q)); omega, fun e => by have := h.lt yb (.inr (.inr (.inl rfl))); omega, fun e => by have := h.lt kb (.inr (.inr (.inr (.inl rfl)))); omega, fun q => by have := h.lt _ (.inr (.inr (.inr (.inr q)))); omega, h.bel.size⟩
theorem AdS.far (h : AdS w lb room yb kb F G Lx Ly yv dv c ds U) {zb i : Nat} {v : Value} (hz : ¬ F zb ∧ ¬ G zb ∧ zb ≠ yb ∧ zb ≠ kb ∧ dv.ownBlock ≠ some zb ∧ w.heap.size ≤ zb) : AdS w lb room yb kb F G Lx Ly yv dv c ds (U.setCell ⟨zb, i, none⟩ v) :=
  h.keep ⟨by simp [World.setCell], fun k hk => RowKit.Below.heap_setCell _ _ _ _ (fun (e : k = zb) => by
    subst e
    rcases hk with q | q | q | q | q
    · exact hz.1 q
    · exact hz.2.1 q
    · exact hz.2.2.1 q
    · exact hz.2.2.2.1 q
    · exact hz.2.2.2.2.1 q)⟩ (h.bel.setCell (p := ⟨zb, i, none⟩) hz.2.2.2.2.2 _)
/-- The document's log is another one now. -/
theorem AdS.put (h : AdS w lb room yb kb F G Lx Ly yv dv c ds U) (hf : HFirm G' U yv' Ly') (hG : ∀ k, G' k → ¬ F k ∧ k ≠ yb ∧ k ≠ kb ∧ dv.ownBlock ≠ some k) :
    AdS w lb room yb kb F G' Lx Ly' yv' dv c ds ((U.setCell ⟨yb, 0, none⟩ (.int .i64 room)).setCell ⟨yb, 1, none⟩ yv') := by
  have far : ∀ k, k ≠ yb → ((U.setCell ⟨yb, 0, none⟩ (.int .i64 room)).setCell ⟨yb, 1, none⟩ yv').heap[k]? = U.heap[k]? := fun k hk => (RowKit.Below.heap_setCell _ _ _ _ hk).trans (RowKit.Below.heap_setCell _ _ _ _ hk)
  have hs : U.heap.size ≤ ((U.setCell ⟨yb, 0, none⟩ (.int .i64 room)).setCell ⟨yb, 1, none⟩ yv').heap.size := by simp [World.setCell]
  exact ⟨h.log.keep ⟨hs, fun k q => far k (fun e => h.fy (e ▸ q))⟩, hf.keep ⟨hs, fun k q => far k (hG k q).2.1⟩, row_set2 h.ybox, (far _ (fun e => h.yk e.symm)).trans h.kbox, h.own.keepF fun k e => far k (h.fo k e).2.2.1, (h.bel.setCell (p := ⟨yb, 0, none⟩) h.yw _).setCell (p := ⟨yb, 1, none⟩) h.yw _, h.ff, fun k q => (hG k q).1, h.fy, fun q => (hG _ q).2.1 rfl, h.yw, h.fk, fun q => (hG _ q).2.2.1 rfl, h.kw, h.yk, fun k e => ⟨(h.fo k e).1, fun q => (hG k q).2.2.2 e, (h.fo k e).2.2⟩⟩
/-- The program's log is another one now. -/
theorem AdS.add (h : AdS w lb room yb kb F G Lx Ly yv dv c ds U) (hl : LogOk F' U' lb room Lx') (hf : ∀ k, F' k → F k ∨ U.heap.size ≤ k) (ht : Touch F U U') : AdS w lb room yb kb F' G Lx' Ly yv dv c ds U' := by
  have hy := row_lt h.ybox
  have hk := row_lt h.kbox
  have ho := fun k e => (World.ownsRow.lt h.own k e).2
  refine ⟨hl, h.firm.keep (ht.keeps fun k q => ⟨h.firm.1 k q, h.fg k q⟩), (ht.block _ hy h.fy).trans h.ybox, (ht.block _ hk h.fk).trans h.kbox, h.own.keepF fun k e => ht.block k (ho k e) (h.fo k e).1, h.bel.trans (ht.below h.ff h.bel.size), fun k q => ?_, fun k hG q => ?_, fun q => ?_, h.gy, h.yw, fun q => ?_, h.gk, h.kw, h.yk, fun k e => ⟨fun q => ?_, (h.fo k e).2⟩⟩
  · exact (hf k q).elim (h.ff k) (fun q => Nat.le_trans h.bel.size q)
  · rcases hf k q with q | q
    · exact h.fg k hG q
    · have := h.firm.1 k hG; omega
  · rcases hf _ q with q | q
    · exact h.fy q
    · omega
  · rcases hf _ q with q | q
    · exact h.fk q
    · omega
  · rcases hf _ q with q | q
    · exact (h.fo k e).1 q
    · have := ho k e; omega
/-- A number of the copy's clock is another one now. -/
theorem AdS.write {g n cap : Nat} (h : AdS w lb room yb kb F G Lx Ly yv (.slice (some ⟨g, 0, none⟩) n cap) c ds U) (hn : n = ds.length) (j : Nat) (x : Int) : AdS w lb room yb kb F G Lx Ly yv (.slice (some ⟨g, 0, none⟩) n cap) c (ds.set j x) (U.setCell ⟨g, j, none⟩ (.int .i64 x)) := by
  obtain ⟨n1, n2, n3, n4⟩ := h.fo g rfl
  have far : ∀ k, k ≠ g → (U.setCell ⟨g, j, none⟩ (.int .i64 x)).heap[k]? = U.heap[k]? := fun k hk => RowKit.Below.heap_setCell _ _ _ _ hk
  have hs : U.heap.size ≤ (U.setCell ⟨g, j, none⟩ (.int .i64 x)).heap.size := by simp [World.setCell]
  exact ⟨h.log.keep ⟨hs, fun k q => far k (fun e => n1 (e ▸ q))⟩, h.firm.keep ⟨hs, fun k q => far k (fun e => n2 (e ▸ q))⟩, (far _ (fun e => n3 e.symm)).trans h.ybox, (far _ (fun e => n4 e.symm)).trans h.kbox, h.own.write hn j x, h.bel.setCell (p := ⟨g, j, none⟩) (World.ownsRow.lt h.own g rfl).1 _, h.ff, h.fg, h.fy, h.gy, h.yw, h.fk, h.gk, h.kw, h.yk, h.fo⟩
end

set_option maxRecDepth 100000 in
set_option maxHeartbeats 16000000 in
theorem addsLaw_any (room : Int) (v : Value) (l : List Ch) (w : World) (_ : (Lit.int .i64 room).wf = true) (h : IsH w v l) :
    Calls Tryz.prog 3 #[.int .i64 room, v] w fun e w' => e = .returned (.bool true) ∧ Below w.heap.size w w' := by
  obtain ⟨a1, c1, rfl, hc1, hl1, r1⟩ := h
  have HR : Hid (l = [] ∨ ∃ b o, a1 = some ⟨b, o, none⟩ ∧ ChsAt w b o l) := r1
  clear r1
  go_enter Tryz.func3, Tryz.ntmps3
  go_wp2_with fail
  refine (new_any room _).mono ?_
  rintro e w1 ⟨h, hb1⟩
  rcases h with ⟨h, rfl⟩ | ⟨hr, lb, F, rfl, hL, hF⟩
  · have HB1 : Hid (Below w.heap.size w w1) := hb1
    clear hb1
    rcases h with h | h
    · go_wp2_with (go_at_call 10; refine (awake_any _).mono ?_; rintro e w4 ⟨rfl, hb4⟩)
      go_ret
      exact ⟨rfl, HB1.out.trans (hb4.mono HB1.out.size)⟩
    · have h2 : ¬ room < 1 := by omega
      go_wp2_with (go_at_call 10; refine (awake_any _).mono ?_; rintro e w4 ⟨rfl, hb4⟩)
      go_ret
      exact ⟨rfl, HB1.out.trans (hb4.mono HB1.out.size)⟩
  obtain ⟨hr0, hr1⟩ := hr
  obtain ⟨W2, eW2⟩ : ∃ X, X = w1.alloc (.cells #[.int .i64 room, .slice none 0 0] 29) := ⟨_, rfl⟩
  obtain ⟨yb, eyb⟩ : ∃ b, b = w1.heap.size := ⟨_, rfl⟩
  have hb2 : Below w1.heap.size w1 W2 := by rw [eW2]; exact (Below.refl _ _).alloc (Nat.le_refl _) _
  have HB0 : Hid (AdB w lb room yb F (fun _ => False) (fillL room (l.take 0)) (.slice none 0 0) W2) := by
    have hs1 := hb1.size
    refine ⟨hL.below hb2, HFirm.nil _, ?_, hb1.trans (hb2.mono hb1.size), hF, fun k hk => hk.elim, fun hk => ?_, fun hk => hk.elim, by omega⟩
    · rw [eyb, eW2]; exact heap_alloc_new _ _
    · have := hL.lt yb hk; omega
  have q1 : ¬ room < 1 := by omega
  have q2 : ¬ 4096 < room := by omega
  clear hL hF hb1 hb2
  go_wp2
  rw [← eW2, ← eyb]
  clear eW2 eyb
  go_loopw [8] (fun i wr => ∃ (k : Nat) (F G : Nat → Prop) (yv : Value), k ≤ l.length ∧ i = .int .i64 (k : Int) ∧ Hid (AdB w lb room yb F G (fillL room (l.take k)) yv wr)) (fun i _ => l.length - (intOf i).toNat)
  case atStart => exact ⟨0, _, _, _, Nat.zero_le _, rfl, HB0⟩
  case round =>
    obtain ⟨k, F, G, yv, hk, rfl, HB⟩ := hrel
    by_cases hlt : k < l.length
    · obtain ⟨b1, o1, rfl, g1⟩ := HR.out.resolve_left (by intro e; subst e; simp at hlt)
      obtain ⟨a0, c0, i3, hs3, z⟩ := (g1 k hlt).all
      have hbb : b1 < w.heap.size := (g1 k hlt).lt
      have hc' : ∀ W', BelowH w W' → W'.cell? ⟨b1, o1 + k * 13, none⟩ = some (.int .i64 l[k].ac) ∧ W'.cell? ⟨b1, o1 + k * 13 + 1, none⟩ = some (.int .i64 l[k].ar) ∧ W'.cell? ⟨b1, o1 + k * 13 + 2, none⟩ = some (.int .i64 l[k].seq) ∧ W'.cell? ⟨b1, o1 + k * 13 + 3, none⟩ = some (.slice a0 l[k].deps.length c0) ∧ W'.cell? ⟨b1, o1 + k * 13 + 4, none⟩ = some (.int .i64 l[k].kind) ∧ W'.cell? ⟨b1, o1 + k * 13 + 5, none⟩ = some (.int .i64 l[k].nc) ∧ W'.cell? ⟨b1, o1 + k * 13 + 6, none⟩ = some (.int .i64 l[k].nr) ∧ W'.cell? ⟨b1, o1 + k * 13 + 7, none⟩ = some (.int .i64 l[k].pc) ∧ W'.cell? ⟨b1, o1 + k * 13 + 8, none⟩ = some (.int .i64 l[k].pr) ∧ W'.cell? ⟨b1, o1 + k * 13 + 9, none⟩ = some (.int .i64 l[k].fc) ∧ W'.cell? ⟨b1, o1 + k * 13 + 10, none⟩ = some (.int .i64 l[k].fr) ∧ W'.cell? ⟨b1, o1 + k * 13 + 11, none⟩ = some (.string l[k].name) ∧ W'.cell? ⟨b1, o1 + k * 13 + 12, none⟩ = some (.string l[k].value) := fun W' hb => by
        obtain ⟨z0, z1, z2, z3, z4, z5, z6, z7, z8, z9, z10, z11, z12⟩ := z
        exact ⟨(hb.cell (p := ⟨b1, o1 + k * 13, none⟩) hbb).trans z0, (hb.cell (p := ⟨b1, o1 + k * 13 + 1, none⟩) hbb).trans z1, (hb.cell (p := ⟨b1, o1 + k * 13 + 2, none⟩) hbb).trans z2, (hb.cell (p := ⟨b1, o1 + k * 13 + 3, none⟩) hbb).trans z3, (hb.cell (p := ⟨b1, o1 + k * 13 + 4, none⟩) hbb).trans z4, (hb.cell (p := ⟨b1, o1 + k * 13 + 5, none⟩) hbb).trans z5, (hb.cell (p := ⟨b1, o1 + k * 13 + 6, none⟩) hbb).trans z6, (hb.cell (p := ⟨b1, o1 + k * 13 + 7, none⟩) hbb).trans z7, (hb.cell (p := ⟨b1, o1 + k * 13 + 8, none⟩) hbb).trans z8, (hb.cell (p := ⟨b1, o1 + k * 13 + 9, none⟩) hbb).trans z9, (hb.cell (p := ⟨b1, o1 + k * 13 + 10, none⟩) hbb).trans z10, (hb.cell (p := ⟨b1, o1 + k * 13 + 11, none⟩) hbb).trans z11, (hb.cell (p := ⟨b1, o1 + k * 13 + 12, none⟩) hbb).trans z12⟩
      have k1 : (k : Int) < (l.length : Int) := by omega
      have k0 : (0 : Int) ≤ (k : Int) := by omega
      have HFs : Hid (fillL room (l.take (k + 1)) = addL (fillL room (l.take k)) room l[k]) := by
        have e := fillL_snoc room (l.take k) l[k]
        rw [← List.take_succ_eq_append_getElem hlt] at e
        exact e
      have hroom : ((fillL room (l.take k)).length : Int) ≤ room := fillL_room (by omega) _
      have HGd : Hid (Good (fillL room (l.take k))) := fillL_good _ _
      have HGd2 : Hid (Good (fillL room (l.take (k + 1))) ∧ ((fillL room (l.take (k + 1))).length : Int) ≤ room) := ⟨fillL_good _ _, fillL_room (by omega) _⟩
      obtain ⟨⟨ac, ar, sq, ds, kd, nc, nr, pc, pr, fc, fr, nm, vl⟩, hc⟩ : ∃ c, c = l[k] := ⟨_, rfl⟩
      rw [← hc] at i3 hs3 hc' HFs
      simp only at hc'
      have HIc : Hid (IsI w (.slice a0 ds.length c0) ds) := i3
      have HSz : Hid (Sized (⟨ac, ar, sq, ds, kd, nc, nr, pc, pr, fc, fr, nm, vl⟩ : Ch)) := hs3
      have HC : Hid (∀ W', BelowH w W' → W'.cell? ⟨b1, o1 + k * 13, none⟩ = some (.int .i64 ac) ∧ W'.cell? ⟨b1, o1 + k * 13 + 1, none⟩ = some (.int .i64 ar) ∧ W'.cell? ⟨b1, o1 + k * 13 + 2, none⟩ = some (.int .i64 sq) ∧ W'.cell? ⟨b1, o1 + k * 13 + 3, none⟩ = some (.slice a0 ds.length c0) ∧ W'.cell? ⟨b1, o1 + k * 13 + 4, none⟩ = some (.int .i64 kd) ∧ W'.cell? ⟨b1, o1 + k * 13 + 5, none⟩ = some (.int .i64 nc) ∧ W'.cell? ⟨b1, o1 + k * 13 + 6, none⟩ = some (.int .i64 nr) ∧ W'.cell? ⟨b1, o1 + k * 13 + 7, none⟩ = some (.int .i64 pc) ∧ W'.cell? ⟨b1, o1 + k * 13 + 8, none⟩ = some (.int .i64 pr) ∧ W'.cell? ⟨b1, o1 + k * 13 + 9, none⟩ = some (.int .i64 fc) ∧ W'.cell? ⟨b1, o1 + k * 13 + 10, none⟩ = some (.int .i64 fr) ∧ W'.cell? ⟨b1, o1 + k * 13 + 11, none⟩ = some (.string nm) ∧ W'.cell? ⟨b1, o1 + k * 13 + 12, none⟩ = some (.string vl)) := hc'
      obtain ⟨p_0, p_1, p_2, p_3, p_4, p_5, p_6, p_7, p_8, p_9, p_10, p_11, p_12⟩ := HC.out _ HB.out.bel
      obtain ⟨L, eL⟩ : ∃ L, L = fillL room (l.take k) := ⟨_, rfl⟩
      rw [← eL] at HB HFs HGd hroom
      clear hc i3 hs3 g1 z hc' eL
      obtain ⟨ay, cy, ey⟩ := HB.out.firm.isH.form
      subst ey
      have hly : L.length ≤ 4096 := by omega
      go_wp2_with fail
      refine (refCopyCh_any ac ar sq (.slice a0 ds.length c0) kd nc nr pc pr fc fr nm vl ds _ (HIc.out.below HB.out.bel)).mono ?_
      rintro e w1 ⟨v2, rfl, ho2, hb1⟩
      obtain ⟨a2, c2, e2⟩ := ho2.form
      subst e2
      obtain ⟨w2, eW2⟩ : ∃ X, X = w1.alloc (.cells #[.int .i64 ac, .int .i64 ar, .int .i64 sq, .slice a2 ds.length c2, .int .i64 kd, .int .i64 nc, .int .i64 nr, .int .i64 pc, .int .i64 pr, .int .i64 fc, .int .i64 fr, .string nm, .string vl] 34) := ⟨_, rfl⟩
      obtain ⟨kb, ekb⟩ : ∃ b, b = w1.heap.size := ⟨_, rfl⟩
      have hb2 : Below w1.heap.size w1 w2 := by rw [eW2]; exact (Below.refl _ _).alloc (Nat.le_refl _) _
      have hb12 : Below wr.heap.size wr w2 := hb1.trans (hb2.mono hb1.size)
      have HB2 := HB.out.below hb12
      have hsw : w.heap.size ≤ wr.heap.size := HB.out.bel.size
      have HA : Hid (AdS w lb room yb kb F G L L (.slice ay L.length cy) (.slice a2 ds.length c2) (⟨ac, ar, sq, ds, kd, nc, nr, pc, pr, fc, fr, nm, vl⟩ : Ch) ds w2) := by
        have hlo := fun k e => World.ownsRow.lt ho2 k e
        have hs1 := hb1.size
        have hy := row_lt HB.out.ybox
        refine ⟨HB2.log, HB2.firm, HB2.ybox, by rw [ekb, eW2]; exact heap_alloc_new _ _, (ho2.below hb2).low (by omega), HB2.bel, HB2.ff, HB2.fg, HB2.fy, HB2.gy, HB2.yw, fun q => ?_, fun q => ?_, by omega, by omega, fun k e => ⟨fun q => ?_, fun q => ?_, ?_, ?_⟩⟩
        · have := HB.out.log.lt _ q; omega
        · have := HB.out.firm.1 _ q; omega
        · have := HB.out.log.lt _ q; have := (hlo k e).1; omega
        · have := HB.out.firm.1 _ q; have := (hlo k e).1; omega
        · have := (hlo k e).1; omega
        · have := (hlo k e).2; omega
      have HBw : Hid (BelowH w w2) := HB2.bel
      obtain ⟨o_0, o_1, o_2, o_3, o_4, o_5, o_6, o_7, o_8, o_9, o_10, o_11, o_12⟩ := HC.out _ HBw.out
      rw [eW2] at o_0 o_1 o_2 o_3 o_4 o_5 o_6 o_7 o_8 o_9 o_10 o_11 o_12
      clear ho2 hb1 hb2 hb12 HB2 p_0 p_1 p_2 p_3 p_4 p_5 p_6 p_7 p_8 p_9 p_10 p_11 p_12 hsw
      go_upto_region 11 with fail
      rw [← eW2, ← ekb]
      clear eW2 ekb o_0 o_1 o_2 o_3 o_4 o_5 o_6 o_7 o_8 o_9 o_10 o_11 o_12
      refine wp_region_held_drew (S := fun W' => BelowH w W') (by kernel_rfl) (BelowH.below HBw.out (Below.refl _ _).drew) (fun hHeld => ?_)
      obtain ⟨Ug3u0, eW⟩ : ∃ X, X = w2.drew := ⟨_, rfl⟩
      have hb : Below w2.heap.size w2 Ug3u0 := by rw [eW]; exact (Below.refl _ _).drew
      replace HA : Hid (AdS w lb room yb kb F G L L (.slice ay L.length cy) (.slice a2 ds.length c2) (⟨ac, ar, sq, ds, kd, nc, nr, pc, pr, fc, fr, nm, vl⟩ : Ch) ds Ug3u0) := HA.out.below hb
      replace HBw : Hid (BelowH w Ug3u0) := HBw.out.below hb
      rw [← eW] at hHeld ⊢
      clear eW hb
      refine wpAnyH_take (i := 1) (oi := ⟨some 54, _, _, _, _, _⟩) (v := ?vg3ux1) rfl (by kernel_rfl) (by kernel_rfl) (by kernel_rfl) (fun _ _ _ h => h) (Or.inl ⟨by rfl, ?hyg3ux1⟩) hHeld ?restg3ux1
      case hyg3ux1 => (intro w _; go_simp; try with_reducible rfl)
      simp only [Act.put, List.setIfInBounds_toArray, List.set_cons_zero, List.set_cons_succ]
      refine wpAnyH_take (i := 2) (oi := ⟨some 55, _, _, _, _, _⟩) (v := ?vg3ux2) rfl (by kernel_rfl) (by kernel_rfl) (by kernel_rfl) (fun _ _ _ h => h) (Or.inl ⟨by rfl, ?hyg3ux2⟩) hHeld ?restg3ux2
      case hyg3ux2 => (intro w _; go_simp; try with_reducible rfl)
      simp only [Act.put, List.setIfInBounds_toArray, List.set_cons_zero, List.set_cons_succ]
      refine wpAnyH_take (i := 3) (oi := ⟨some 56, _, _, _, _, _⟩) (v := ?vg3ux3) rfl (by kernel_rfl) (by kernel_rfl) (by kernel_rfl) (fun _ _ _ h => h) (Or.inl ⟨by rfl, ?hyg3ux3⟩) hHeld ?restg3ux3
      case hyg3ux3 => (intro w hSw; (try dsimp only at hSw); have hk := hSw; obtain ⟨p_0, p_1, p_2, p_3, p_4, p_5, p_6, p_7, p_8, p_9, p_10, p_11, p_12⟩ := HC.out _ hk; go_simp; try with_reducible rfl)
      simp only [Act.put, List.setIfInBounds_toArray, List.set_cons_zero, List.set_cons_succ]
      refine wpAnyH_take (i := 4) (oi := ⟨some 57, _, _, _, _, _⟩) (v := ?vg3ux4) rfl (by kernel_rfl) (by kernel_rfl) (by kernel_rfl) (fun _ _ _ h => h) (Or.inl ⟨by rfl, ?hyg3ux4⟩) hHeld ?restg3ux4
      case hyg3ux4 => (intro w hSw; (try dsimp only at hSw); have hk := hSw; obtain ⟨p_0, p_1, p_2, p_3, p_4, p_5, p_6, p_7, p_8, p_9, p_10, p_11, p_12⟩ := HC.out _ hk; go_simp; try with_reducible rfl)
      simp only [Act.put, List.setIfInBounds_toArray, List.set_cons_zero, List.set_cons_succ]
      refine wpAnyH_ready (rs := [0, 9]) (by kernel_rfl) (by simp) ?_
      refine AllReadyH.cons (o := ⟨some 53, _, _, _, _, _⟩) rfl (fun K hK => ?_) (AllReadyH.cons (o := ⟨some 10, _, _, _, _, _⟩) rfl (fun K hK => ?_) AllReadyH.nil)
      · obtain ⟨x_0, x_1, _, _⟩ := row2_cells HA.out.ybox
        go_simp
        refine hK.out _ _ (hHeld) (fun hHeld2 => ?_)
        clear hK K hHeld
        have hHeld := hHeld2
        clear hHeld2
        (try simp only [Act.put, List.setIfInBounds_toArray, List.set_cons_zero, List.set_cons_succ])
        clear x_0 x_1
        refine wpAnyH_ready (rs := [5, 9]) (by kernel_rfl) (by simp) ?_
        refine AllReadyH.cons (o := ⟨some 58, _, _, _, _, _⟩) rfl (fun K hK => ?_) (AllReadyH.cons (o := ⟨some 10, _, _, _, _, _⟩) rfl (fun K hK => ?_) AllReadyH.nil)
        · have HN6 : Hid (AdS w lb room yb kb F G L L (.slice ay L.length cy) (.slice a2 ds.length c2) (⟨ac, ar, sq, ds, kd, nc, nr, pc, pr, fc, fr, nm, vl⟩ : Ch) ds Ug3u0) := HA.out
          go_simp
          refine (refAdd_any G _ L room ac ar sq (.slice a0 ds.length c0) kd nc nr pc pr fc fr nm vl ds Ug3u0 HA.out.firm (HIc.out.below HBw.out) HSz.out hly).mono ?_
          rintro e Ug3u2 ⟨v6, rfl, hf6, hb⟩
          (try go_wp2_with fail)
          refine hK.out _ _ (BelowH.below hHeld hb) (fun hHeld2 => ?_)
          clear hK K hHeld
          have hHeld := hHeld2
          clear hHeld2
          (try simp only [Act.put, List.setIfInBounds_toArray, List.set_cons_zero, List.set_cons_succ])
          replace HA : Hid (AdS w lb room yb kb F G L L (.slice ay L.length cy) (.slice a2 ds.length c2) (⟨ac, ar, sq, ds, kd, nc, nr, pc, pr, fc, fr, nm, vl⟩ : Ch) ds Ug3u2) := HA.out.below hb
          replace HBw : Hid (BelowH w Ug3u2) := HBw.out.below hb
          obtain ⟨a6, c6, e6⟩ := hf6.isH.form
          subst e6
          obtain ⟨G2, eG2⟩ : ∃ G2 : Nat → Prop, G2 = fun k => G k ∨ (Ug3u0.heap.size ≤ k ∧ k < Ug3u2.heap.size) := ⟨_, rfl⟩
          rw [← eG2] at hf6
          have HG2 : Hid (∀ k, G2 k → G k ∨ (Ug3u0.heap.size ≤ k ∧ k < Ug3u2.heap.size)) := fun k hk => by rw [eG2] at hk; exact hk
          have HF6 : Hid (HFirm G2 Ug3u2 (.slice a6 (addL L room (⟨ac, ar, sq, ds, kd, nc, nr, pc, pr, fc, fr, nm, vl⟩ : Ch)).length c6) (addL L room (⟨ac, ar, sq, ds, kd, nc, nr, pc, pr, fc, fr, nm, vl⟩ : Ch))) := hf6
          have HK6 : Hid (∀ k, G2 k → ¬ F k ∧ k ≠ yb ∧ k ≠ kb ∧ (.slice a2 ds.length c2 : Value).ownBlock ≠ some k) := fun k hk => by rcases HG2.out k hk with q | q; exact ⟨HN6.out.fg k q, fun e => HN6.out.gy (e ▸ q), fun e => HN6.out.gk (e ▸ q), fun e => (HN6.out.fo k e).2.1 q⟩; exact ⟨fun h => by have := HN6.out.log.lt k h; omega, fun e => by have := row_lt HN6.out.ybox; omega, fun e => by have := row_lt HN6.out.kbox; omega, fun e => by have := (World.ownsRow.lt HN6.out.own k e).2; omega⟩
          have HL6 : Hid (∀ k, G2 k → k < Ug3u2.heap.size) := HF6.out.1
          clear hf6 eG2 HG2 HN6
          clear hb
          refine wpAnyH_take (i := 6) (oi := ⟨some 52, _, _, _, _, _⟩) (v := ?vg3u_0_5x6) rfl (by kernel_rfl) (by kernel_rfl) (by kernel_rfl) (fun _ _ _ h => h) (Or.inl ⟨by rfl, ?hyg3u_0_5x6⟩) hHeld ?restg3u_0_5x6
          case hyg3u_0_5x6 => (intro w _; go_simp; try with_reducible rfl)
          simp only [Act.put, List.setIfInBounds_toArray, List.set_cons_zero, List.set_cons_succ]
          refine wpAnyH_take (i := 7) (oi := ⟨some 59, _, _, _, _, _⟩) (v := ?vg3u_0_5x7) rfl (by kernel_rfl) (by kernel_rfl) (by kernel_rfl) (fun _ _ _ h => h) (Or.inl ⟨by rfl, ?hyg3u_0_5x7⟩) hHeld ?restg3u_0_5x7
          case hyg3u_0_5x7 => (intro w _; go_simp; try with_reducible rfl)
          simp only [Act.put, List.setIfInBounds_toArray, List.set_cons_zero, List.set_cons_succ]
          refine wpAnyH_take (i := 8) (oi := ⟨some 60, _, _, _, _, _⟩) (v := ?vg3u_0_5x8) rfl (by kernel_rfl) (by kernel_rfl) (by kernel_rfl) (fun _ _ _ h => h) (Or.inl ⟨by rfl, ?hyg3u_0_5x8⟩) hHeld ?restg3u_0_5x8
          case hyg3u_0_5x8 => (intro w _; go_simp; try with_reducible rfl)
          simp only [Act.put, List.setIfInBounds_toArray, List.set_cons_zero, List.set_cons_succ]
          refine wpAnyH_ready (rs := [9]) (by kernel_rfl) (by simp) ?_
          refine AllReadyH.cons (o := ⟨some 10, _, _, _, _, _⟩) rfl (fun K hK => ?_) AllReadyH.nil
          have HZ0 : Hid (¬ F Ug3u2.heap.size ∧ ¬ G Ug3u2.heap.size ∧ Ug3u2.heap.size ≠ yb ∧ Ug3u2.heap.size ≠ kb ∧ (.slice a2 ds.length c2 : Value).ownBlock ≠ some Ug3u2.heap.size ∧ w.heap.size ≤ Ug3u2.heap.size) := HA.out.fresh
          have HZ7 : Hid (¬ G2 Ug3u2.heap.size) := fun hk => by have := HF6.out.1 _ hk; omega
          go_simp
          refine hK.out _ _ (BelowH.below hHeld ((Below.refl _ _).alloc (Nat.le_refl _) _)) (fun hHeld2 => ?_)
          clear hK K hHeld
          have hHeld := hHeld2
          clear hHeld2
          (try simp only [Act.put, List.setIfInBounds_toArray, List.set_cons_zero, List.set_cons_succ])
          obtain ⟨Ug3u3, eW⟩ : ∃ X, X = Ug3u2.alloc (.cells #[.int .i64 0, .slice none 0 0] 29) := ⟨_, rfl⟩
          have hb : Below Ug3u2.heap.size Ug3u2 Ug3u3 := by rw [eW]; exact (Below.refl _ _).alloc (Nat.le_refl _) _
          replace HA : Hid (AdS w lb room yb kb F G L L (.slice ay L.length cy) (.slice a2 ds.length c2) (⟨ac, ar, sq, ds, kd, nc, nr, pc, pr, fc, fr, nm, vl⟩ : Ch) ds Ug3u3) := HA.out.below hb
          replace HBw : Hid (BelowH w Ug3u3) := HBw.out.below hb
          replace HF6 : Hid (HFirm G2 Ug3u3 (.slice a6 (addL L room (⟨ac, ar, sq, ds, kd, nc, nr, pc, pr, fc, fr, nm, vl⟩ : Ch)).length c6) (addL L room (⟨ac, ar, sq, ds, kd, nc, nr, pc, pr, fc, fr, nm, vl⟩ : Ch))) := HF6.out.below hb
          obtain ⟨zb, ezb⟩ : ∃ b, b = Ug3u2.heap.size := ⟨_, rfl⟩
          rw [← eW] at hHeld ⊢
          (try rw [← ezb])
          have HZ : Hid (BxL zb Ug3u3) := by rw [ezb, eW]; exact heap_alloc_new _ _
          have HZn : Hid (¬ F zb ∧ ¬ G zb ∧ zb ≠ yb ∧ zb ≠ kb ∧ (.slice a2 ds.length c2 : Value).ownBlock ≠ some zb ∧ w.heap.size ≤ zb) := by rw [ezb]; exact HZ0.out
          have HZ6 : Hid (¬ G2 zb) := by rw [ezb]; exact HZ7.out
          clear eW
          clear ezb
          clear hb
          refine wpAnyH_ready (rs := [10]) (by kernel_rfl) (by simp) ?_
          refine AllReadyH.cons (o := ⟨none, _, _, _, _, _⟩) rfl (fun K hK => ?_) AllReadyH.nil
          obtain ⟨r_0, r_1, r_2, r_3⟩ := row2_cells HZ.out
          go_simp
          refine hK.out _ _ (((HA.out.far (i := 0) (v := .int .i64 room) HZn.out).far (i := 1) (v := (.slice a6 (addL L room (⟨ac, ar, sq, ds, kd, nc, nr, pc, pr, fc, fr, nm, vl⟩ : Ch)).length c6)) HZn.out).bel) (fun hHeld2 => ?_)
          clear hK K hHeld
          have hHeld := hHeld2
          clear hHeld2
          (try simp only [Act.put, List.setIfInBounds_toArray, List.set_cons_zero, List.set_cons_succ])
          have HA9 : Hid (AdS w lb room yb kb F G L L (.slice ay L.length cy) (.slice a2 ds.length c2) (⟨ac, ar, sq, ds, kd, nc, nr, pc, pr, fc, fr, nm, vl⟩ : Ch) ds ((Ug3u3.setCell ⟨zb, 0, none⟩ (.int .i64 room)).setCell ⟨zb, 1, none⟩ (.slice a6 (addL L room (⟨ac, ar, sq, ds, kd, nc, nr, pc, pr, fc, fr, nm, vl⟩ : Ch)).length c6))) := (HA.out.far (i := 0) (v := .int .i64 room) HZn.out).far (i := 1) (v := (.slice a6 (addL L room (⟨ac, ar, sq, ds, kd, nc, nr, pc, pr, fc, fr, nm, vl⟩ : Ch)).length c6)) HZn.out
          have HF9 : Hid (HFirm G2 ((Ug3u3.setCell ⟨zb, 0, none⟩ (.int .i64 room)).setCell ⟨zb, 1, none⟩ (.slice a6 (addL L room (⟨ac, ar, sq, ds, kd, nc, nr, pc, pr, fc, fr, nm, vl⟩ : Ch)).length c6)) (.slice a6 (addL L room (⟨ac, ar, sq, ds, kd, nc, nr, pc, pr, fc, fr, nm, vl⟩ : Ch)).length c6) (addL L room (⟨ac, ar, sq, ds, kd, nc, nr, pc, pr, fc, fr, nm, vl⟩ : Ch))) := HF6.out.keep ⟨by simp [World.setCell], fun k hk => (RowKit.Below.heap_setCell _ _ _ _ (fun (e : k = zb) => HZ6.out (e ▸ hk))).trans (RowKit.Below.heap_setCell _ _ _ _ (fun (e : k = zb) => HZ6.out (e ▸ hk)))⟩
          have HZ9 : Hid (((Ug3u3.setCell ⟨zb, 0, none⟩ (.int .i64 room)).setCell ⟨zb, 1, none⟩ (.slice a6 (addL L room (⟨ac, ar, sq, ds, kd, nc, nr, pc, pr, fc, fr, nm, vl⟩ : Ch)).length c6)).heap[zb]? = some (.cells #[.int .i64 room, (.slice a6 (addL L room (⟨ac, ar, sq, ds, kd, nc, nr, pc, pr, fc, fr, nm, vl⟩ : Ch)).length c6)] 29)) := row_set2 HZ.out
          obtain ⟨W9, eW9⟩ : ∃ X, X = ((Ug3u3.setCell ⟨zb, 0, none⟩ (.int .i64 room)).setCell ⟨zb, 1, none⟩ (.slice a6 (addL L room (⟨ac, ar, sq, ds, kd, nc, nr, pc, pr, fc, fr, nm, vl⟩ : Ch)).length c6)) := ⟨_, rfl⟩
          rw [← eW9] at HA9 HF9 HZ9 hHeld ⊢
          clear eW9 r_0 r_1 r_2 r_3 HA HF6 HZ
          refine wpAnyH_take (i := 11) (oi := ⟨some 11, _, _, _, _, _⟩) (v := ?vg3u_0_5_9_10x11) rfl (by kernel_rfl) (by kernel_rfl) (by kernel_rfl) (fun _ _ _ h => h) (Or.inl ⟨by rfl, ?hyg3u_0_5_9_10x11⟩) hHeld ?restg3u_0_5_9_10x11
          case hyg3u_0_5_9_10x11 => (intro w _; go_simp; try with_reducible rfl)
          simp only [Act.put, List.setIfInBounds_toArray, List.set_cons_zero, List.set_cons_succ]
          refine wpAnyH_done (by kernel_rfl) ?_ _
          clear hHeld
          obtain ⟨z_0, z_1, _, _⟩ := row2_cells HZ9.out
          obtain ⟨y_0, y_1, y_2, y_3⟩ := row2_cells HA9.out.ybox
          have hkb : W9.heap[kb]? = some (.cells #[.int .i64 ac, .int .i64 ar, .int .i64 sq, .slice a2 ds.length c2, .int .i64 kd, .int .i64 nc, .int .i64 nr, .int .i64 pc, .int .i64 pr, .int .i64 fc, .int .i64 fr, .string nm, .string vl] 34) := HA9.out.kbox
          obtain ⟨o_0, o_1, o_2, o_3, o_4, o_5, o_6, o_7, o_8, o_9, o_10, o_11, o_12⟩ := row_cells hkb
          have hne1 : kb ≠ yb := fun e => HA9.out.yk e.symm
          have hne2 : yb ≠ kb := HA9.out.yk
          have hdl : ds.length ≤ 17592186044416 := by obtain ⟨_, _, _, _, hl, _⟩ := HIc.out; exact hl
          have HA4 : Hid (AdS w lb room yb kb F G2 L (addL L room (⟨ac, ar, sq, ds, kd, nc, nr, pc, pr, fc, fr, nm, vl⟩ : Ch)) (.slice a6 (addL L room (⟨ac, ar, sq, ds, kd, nc, nr, pc, pr, fc, fr, nm, vl⟩ : Ch)).length c6) (.slice a2 ds.length c2) (⟨ac, ar, sq, ds, kd, nc, nr, pc, pr, fc, fr, nm, vl⟩ : Ch) ds ((W9.setCell ⟨yb, 0, none⟩ (.int .i64 room)).setCell ⟨yb, 1, none⟩ (.slice a6 (addL L room (⟨ac, ar, sq, ds, kd, nc, nr, pc, pr, fc, fr, nm, vl⟩ : Ch)).length c6))) := HA9.out.put HF9.out HK6.out
          have HGa : Hid (Good (addL L room (⟨ac, ar, sq, ds, kd, nc, nr, pc, pr, fc, fr, nm, vl⟩ : Ch)) ∧ ((addL L room (⟨ac, ar, sq, ds, kd, nc, nr, pc, pr, fc, fr, nm, vl⟩ : Ch)).length : Int) ≤ room) := by rw [← HFs.out]; exact HGd2.out
          clear hkb HA9 HF9 HZ9 HZn HK6 HZ6
          go_wp2_with fail
          obtain ⟨W4, eW4⟩ : ∃ X, X = ((W9.setCell ⟨yb, 0, none⟩ (.int .i64 room)).setCell ⟨yb, 1, none⟩ (.slice a6 (addL L room (⟨ac, ar, sq, ds, kd, nc, nr, pc, pr, fc, fr, nm, vl⟩ : Ch)).length c6)) := ⟨_, rfl⟩
          rw [← eW4] at HA4 ⊢
          clear eW4 z_0 z_1 y_0 y_1 y_2 y_3 o_0 o_1 o_2 o_3 o_4 o_5 o_6 o_7 o_8 o_9 o_10 o_11 o_12
          refine (add_any F lb room L (⟨ac, ar, sq, ds, kd, nc, nr, pc, pr, fc, fr, nm, vl⟩ : Ch) (.slice a2 ds.length c2) W4 HA4.out.log HGd.out hroom hr1 (HA4.out.own.isI hdl) HSz.out).mono ?_
          rintro e w5 ⟨rfl, F5, hL5, _, hf5, ht5⟩
          have HA5 : Hid (AdS w lb room yb kb F5 G2 (addL L room (⟨ac, ar, sq, ds, kd, nc, nr, pc, pr, fc, fr, nm, vl⟩ : Ch)) (addL L room (⟨ac, ar, sq, ds, kd, nc, nr, pc, pr, fc, fr, nm, vl⟩ : Ch)) (.slice a6 (addL L room (⟨ac, ar, sq, ds, kd, nc, nr, pc, pr, fc, fr, nm, vl⟩ : Ch)).length c6) (.slice a2 ds.length c2) (⟨ac, ar, sq, ds, kd, nc, nr, pc, pr, fc, fr, nm, vl⟩ : Ch) ds w5) := HA4.out.add hL5 hf5 ht5
          obtain ⟨AL, eAL⟩ : ∃ X, X = (addL L room (⟨ac, ar, sq, ds, kd, nc, nr, pc, pr, fc, fr, nm, vl⟩ : Ch)) := ⟨_, rfl⟩
          rw [← eAL] at HA5 HGa HFs ⊢
          clear hL5 hf5 ht5 HA4 eAL HGd
          generalize whyR L room (⟨ac, ar, sq, ds, kd, nc, nr, pc, pr, fc, fr, nm, vl⟩ : Ch) = we at *
          have qw : (we == we) = true := by simp
          go_wp2
          rename World => wq
          go_loopw [12] (fun iv wr => ∃ (j : Nat) (E : List Int), j ≤ ds.length ∧ iv = .int .i64 (j : Int) ∧ Hid (E.length = ds.length) ∧ Hid (AdS w lb room yb kb F5 G2 AL AL (.slice a6 AL.length c6) (.slice a2 ds.length c2) (⟨ac, ar, sq, ds, kd, nc, nr, pc, pr, fc, fr, nm, vl⟩ : Ch) E wr)) (fun iv _ => ds.length - (intOf iv).toNat)
          case atStart => exact ⟨0, ds, Nat.zero_le _, rfl, rfl, HA5⟩
          case round =>
            obtain ⟨j, E, hj, rfl, HE, HAr⟩ := hrel
            have hkb : wr.heap[kb]? = some (.cells #[.int .i64 ac, .int .i64 ar, .int .i64 sq, .slice a2 ds.length c2, .int .i64 kd, .int .i64 nc, .int .i64 nr, .int .i64 pc, .int .i64 pr, .int .i64 fc, .int .i64 fr, .string nm, .string vl] 34) := HAr.out.kbox
            obtain ⟨o_0, o_1, o_2, o_3, o_4, o_5, o_6, o_7, o_8, o_9, o_10, o_11, o_12⟩ := row_cells hkb
            by_cases hjl : j < ds.length
            · rcases HAr.out.own.2 with ⟨e5, hn5⟩ | ⟨gb, cap5, cur, e5, hg5, _⟩
              · have := HE.out; omega
              · injection e5 with e6 e7 e8
                subst e6
                have hjE : j < E.length := by rw [HE.out]; exact hjl
                have x1 : ∃ y, wr.cell? ⟨gb, j, none⟩ = some y := by
                  have h9 := HAr.out.own
                  rw [← HE.out] at h9
                  have := World.ownsRow.cellAt h9 j (by omega)
                  rw [this]
                  exact ⟨_, List.getElem?_eq_getElem (by rw [show (cellsI E).length = E.length by simp [cellsI]]; exact hjE)⟩
                obtain ⟨yy, x1⟩ := x1
                have f1 : wr.frozen? ⟨gb, j, none⟩ = false := by
                  have h9 := HAr.out.own
                  rw [← HE.out] at h9
                  exact World.ownsRow.frozenAt h9 j
                have j1 : (j : Int) < (ds.length : Int) := by omega
                have j0 : (0 : Int) ≤ (j : Int) := by omega
                clear hkb e7 e8
                go_wp2
                go_roundw
                case rel => exact ⟨j + 1, E.set j (-7), by omega, by go_num, by show _ = _; rw [List.length_set]; exact HE.out, HAr.out.write HE.out.symm j (-7)⟩
                case measure => simp [intOf]; omega
            · obtain ⟨y_0, y_1, _, _⟩ := row2_cells HAr.out.ybox
              clear hkb
              go_wp2_with fail
              refine (told_any F5 _ room AL _ _ HAr.out.log.v HAr.out.firm.isH HGa.out.1 (by have := HGa.out.2; omega)).mono ?_
              rintro e w7 ⟨rfl, hb7⟩
              have HB7 : Hid (AdB w lb room yb F5 G2 (fillL room (l.take (k + 1))) (.slice a6 AL.length c6) w7) := by rw [HFs.out]; exact HAr.out.toB.below hb7
              clear hb7
              go_wp2
              go_roundw
              case rel => exact ⟨k + 1, F5, G2, _, by omega, by go_num, HB7⟩
              case measure => simp [intOf]; omega
        · have HZ0 : Hid (¬ F Ug3u0.heap.size ∧ ¬ G Ug3u0.heap.size ∧ Ug3u0.heap.size ≠ yb ∧ Ug3u0.heap.size ≠ kb ∧ (.slice a2 ds.length c2 : Value).ownBlock ≠ some Ug3u0.heap.size ∧ w.heap.size ≤ Ug3u0.heap.size) := HA.out.fresh
          go_simp
          refine hK.out _ _ (BelowH.below hHeld ((Below.refl _ _).alloc (Nat.le_refl _) _)) (fun hHeld2 => ?_)
          clear hK K hHeld
          have hHeld := hHeld2
          clear hHeld2
          (try simp only [Act.put, List.setIfInBounds_toArray, List.set_cons_zero, List.set_cons_succ])
          obtain ⟨Ug3u5, eW⟩ : ∃ X, X = Ug3u0.alloc (.cells #[.int .i64 0, .slice none 0 0] 29) := ⟨_, rfl⟩
          have hb : Below Ug3u0.heap.size Ug3u0 Ug3u5 := by rw [eW]; exact (Below.refl _ _).alloc (Nat.le_refl _) _
          replace HA : Hid (AdS w lb room yb kb F G L L (.slice ay L.length cy) (.slice a2 ds.length c2) (⟨ac, ar, sq, ds, kd, nc, nr, pc, pr, fc, fr, nm, vl⟩ : Ch) ds Ug3u5) := HA.out.below hb
          replace HBw : Hid (BelowH w Ug3u5) := HBw.out.below hb
          obtain ⟨zb, ezb⟩ : ∃ b, b = Ug3u0.heap.size := ⟨_, rfl⟩
          rw [← eW] at hHeld ⊢
          (try rw [← ezb])
          have HZ : Hid (BxL zb Ug3u5) := by rw [ezb, eW]; exact heap_alloc_new _ _
          have HZn : Hid (¬ F zb ∧ ¬ G zb ∧ zb ≠ yb ∧ zb ≠ kb ∧ (.slice a2 ds.length c2 : Value).ownBlock ≠ some zb ∧ w.heap.size ≤ zb) := by rw [ezb]; exact HZ0.out
          clear eW
          clear ezb
          clear hb
          refine wpAnyH_ready (rs := [5]) (by kernel_rfl) (by simp) ?_
          refine AllReadyH.cons (o := ⟨some 58, _, _, _, _, _⟩) rfl (fun K hK => ?_) AllReadyH.nil
          have HZl : Hid (zb < Ug3u5.heap.size) := row_lt HZ.out
          have HN6 : Hid (AdS w lb room yb kb F G L L (.slice ay L.length cy) (.slice a2 ds.length c2) (⟨ac, ar, sq, ds, kd, nc, nr, pc, pr, fc, fr, nm, vl⟩ : Ch) ds Ug3u5) := HA.out
          go_simp
          refine (refAdd_any G _ L room ac ar sq (.slice a0 ds.length c0) kd nc nr pc pr fc fr nm vl ds Ug3u5 HA.out.firm (HIc.out.below HBw.out) HSz.out hly).mono ?_
          rintro e Ug3u6 ⟨v6, rfl, hf6, hb⟩
          (try go_wp2_with fail)
          refine hK.out _ _ (BelowH.below hHeld hb) (fun hHeld2 => ?_)
          clear hK K hHeld
          have hHeld := hHeld2
          clear hHeld2
          (try simp only [Act.put, List.setIfInBounds_toArray, List.set_cons_zero, List.set_cons_succ])
          replace HA : Hid (AdS w lb room yb kb F G L L (.slice ay L.length cy) (.slice a2 ds.length c2) (⟨ac, ar, sq, ds, kd, nc, nr, pc, pr, fc, fr, nm, vl⟩ : Ch) ds Ug3u6) := HA.out.below hb
          replace HBw : Hid (BelowH w Ug3u6) := HBw.out.below hb
          replace HZ : Hid (BxL zb Ug3u6) := HZ.out.below hb
          obtain ⟨a6, c6, e6⟩ := hf6.isH.form
          subst e6
          obtain ⟨G2, eG2⟩ : ∃ G2 : Nat → Prop, G2 = fun k => G k ∨ (Ug3u5.heap.size ≤ k ∧ k < Ug3u6.heap.size) := ⟨_, rfl⟩
          rw [← eG2] at hf6
          have HG2 : Hid (∀ k, G2 k → G k ∨ (Ug3u5.heap.size ≤ k ∧ k < Ug3u6.heap.size)) := fun k hk => by rw [eG2] at hk; exact hk
          have HF6 : Hid (HFirm G2 Ug3u6 (.slice a6 (addL L room (⟨ac, ar, sq, ds, kd, nc, nr, pc, pr, fc, fr, nm, vl⟩ : Ch)).length c6) (addL L room (⟨ac, ar, sq, ds, kd, nc, nr, pc, pr, fc, fr, nm, vl⟩ : Ch))) := hf6
          have HK6 : Hid (∀ k, G2 k → ¬ F k ∧ k ≠ yb ∧ k ≠ kb ∧ (.slice a2 ds.length c2 : Value).ownBlock ≠ some k) := fun k hk => by rcases HG2.out k hk with q | q; exact ⟨HN6.out.fg k q, fun e => HN6.out.gy (e ▸ q), fun e => HN6.out.gk (e ▸ q), fun e => (HN6.out.fo k e).2.1 q⟩; exact ⟨fun h => by have := HN6.out.log.lt k h; omega, fun e => by have := row_lt HN6.out.ybox; omega, fun e => by have := row_lt HN6.out.kbox; omega, fun e => by have := (World.ownsRow.lt HN6.out.own k e).2; omega⟩
          have HZ6 : Hid (¬ G2 zb) := fun hk => by rcases HG2.out zb hk with q | q; exact HZn.out.2.1 q; have := HZl.out; omega
          clear hf6 eG2 HG2 HN6
          clear hb
          refine wpAnyH_take (i := 6) (oi := ⟨some 52, _, _, _, _, _⟩) (v := ?vg3u_0_9_5x6) rfl (by kernel_rfl) (by kernel_rfl) (by kernel_rfl) (fun _ _ _ h => h) (Or.inl ⟨by rfl, ?hyg3u_0_9_5x6⟩) hHeld ?restg3u_0_9_5x6
          case hyg3u_0_9_5x6 => (intro w _; go_simp; try with_reducible rfl)
          simp only [Act.put, List.setIfInBounds_toArray, List.set_cons_zero, List.set_cons_succ]
          refine wpAnyH_take (i := 7) (oi := ⟨some 59, _, _, _, _, _⟩) (v := ?vg3u_0_9_5x7) rfl (by kernel_rfl) (by kernel_rfl) (by kernel_rfl) (fun _ _ _ h => h) (Or.inl ⟨by rfl, ?hyg3u_0_9_5x7⟩) hHeld ?restg3u_0_9_5x7
          case hyg3u_0_9_5x7 => (intro w _; go_simp; try with_reducible rfl)
          simp only [Act.put, List.setIfInBounds_toArray, List.set_cons_zero, List.set_cons_succ]
          refine wpAnyH_take (i := 8) (oi := ⟨some 60, _, _, _, _, _⟩) (v := ?vg3u_0_9_5x8) rfl (by kernel_rfl) (by kernel_rfl) (by kernel_rfl) (fun _ _ _ h => h) (Or.inl ⟨by rfl, ?hyg3u_0_9_5x8⟩) hHeld ?restg3u_0_9_5x8
          case hyg3u_0_9_5x8 => (intro w _; go_simp; try with_reducible rfl)
          simp only [Act.put, List.setIfInBounds_toArray, List.set_cons_zero, List.set_cons_succ]
          refine wpAnyH_ready (rs := [10]) (by kernel_rfl) (by simp) ?_
          refine AllReadyH.cons (o := ⟨none, _, _, _, _, _⟩) rfl (fun K hK => ?_) AllReadyH.nil
          obtain ⟨r_0, r_1, r_2, r_3⟩ := row2_cells HZ.out
          go_simp
          refine hK.out _ _ (((HA.out.far (i := 0) (v := .int .i64 room) HZn.out).far (i := 1) (v := (.slice a6 (addL L room (⟨ac, ar, sq, ds, kd, nc, nr, pc, pr, fc, fr, nm, vl⟩ : Ch)).length c6)) HZn.out).bel) (fun hHeld2 => ?_)
          clear hK K hHeld
          have hHeld := hHeld2
          clear hHeld2
          (try simp only [Act.put, List.setIfInBounds_toArray, List.set_cons_zero, List.set_cons_succ])
          have HA9 : Hid (AdS w lb room yb kb F G L L (.slice ay L.length cy) (.slice a2 ds.length c2) (⟨ac, ar, sq, ds, kd, nc, nr, pc, pr, fc, fr, nm, vl⟩ : Ch) ds ((Ug3u6.setCell ⟨zb, 0, none⟩ (.int .i64 room)).setCell ⟨zb, 1, none⟩ (.slice a6 (addL L room (⟨ac, ar, sq, ds, kd, nc, nr, pc, pr, fc, fr, nm, vl⟩ : Ch)).length c6))) := (HA.out.far (i := 0) (v := .int .i64 room) HZn.out).far (i := 1) (v := (.slice a6 (addL L room (⟨ac, ar, sq, ds, kd, nc, nr, pc, pr, fc, fr, nm, vl⟩ : Ch)).length c6)) HZn.out
          have HF9 : Hid (HFirm G2 ((Ug3u6.setCell ⟨zb, 0, none⟩ (.int .i64 room)).setCell ⟨zb, 1, none⟩ (.slice a6 (addL L room (⟨ac, ar, sq, ds, kd, nc, nr, pc, pr, fc, fr, nm, vl⟩ : Ch)).length c6)) (.slice a6 (addL L room (⟨ac, ar, sq, ds, kd, nc, nr, pc, pr, fc, fr, nm, vl⟩ : Ch)).length c6) (addL L room (⟨ac, ar, sq, ds, kd, nc, nr, pc, pr, fc, fr, nm, vl⟩ : Ch))) := HF6.out.keep ⟨by simp [World.setCell], fun k hk => (RowKit.Below.heap_setCell _ _ _ _ (fun (e : k = zb) => HZ6.out (e ▸ hk))).trans (RowKit.Below.heap_setCell _ _ _ _ (fun (e : k = zb) => HZ6.out (e ▸ hk)))⟩
          have HZ9 : Hid (((Ug3u6.setCell ⟨zb, 0, none⟩ (.int .i64 room)).setCell ⟨zb, 1, none⟩ (.slice a6 (addL L room (⟨ac, ar, sq, ds, kd, nc, nr, pc, pr, fc, fr, nm, vl⟩ : Ch)).length c6)).heap[zb]? = some (.cells #[.int .i64 room, (.slice a6 (addL L room (⟨ac, ar, sq, ds, kd, nc, nr, pc, pr, fc, fr, nm, vl⟩ : Ch)).length c6)] 29)) := row_set2 HZ.out
          obtain ⟨W9, eW9⟩ : ∃ X, X = ((Ug3u6.setCell ⟨zb, 0, none⟩ (.int .i64 room)).setCell ⟨zb, 1, none⟩ (.slice a6 (addL L room (⟨ac, ar, sq, ds, kd, nc, nr, pc, pr, fc, fr, nm, vl⟩ : Ch)).length c6)) := ⟨_, rfl⟩
          rw [← eW9] at HA9 HF9 HZ9 hHeld ⊢
          clear eW9 r_0 r_1 r_2 r_3 HA HF6 HZ
          refine wpAnyH_take (i := 11) (oi := ⟨some 11, _, _, _, _, _⟩) (v := ?vg3u_0_9_5_10x11) rfl (by kernel_rfl) (by kernel_rfl) (by kernel_rfl) (fun _ _ _ h => h) (Or.inl ⟨by rfl, ?hyg3u_0_9_5_10x11⟩) hHeld ?restg3u_0_9_5_10x11
          case hyg3u_0_9_5_10x11 => (intro w _; go_simp; try with_reducible rfl)
          simp only [Act.put, List.setIfInBounds_toArray, List.set_cons_zero, List.set_cons_succ]
          refine wpAnyH_done (by kernel_rfl) ?_ _
          clear hHeld
          obtain ⟨z_0, z_1, _, _⟩ := row2_cells HZ9.out
          obtain ⟨y_0, y_1, y_2, y_3⟩ := row2_cells HA9.out.ybox
          have hkb : W9.heap[kb]? = some (.cells #[.int .i64 ac, .int .i64 ar, .int .i64 sq, .slice a2 ds.length c2, .int .i64 kd, .int .i64 nc, .int .i64 nr, .int .i64 pc, .int .i64 pr, .int .i64 fc, .int .i64 fr, .string nm, .string vl] 34) := HA9.out.kbox
          obtain ⟨o_0, o_1, o_2, o_3, o_4, o_5, o_6, o_7, o_8, o_9, o_10, o_11, o_12⟩ := row_cells hkb
          have hne1 : kb ≠ yb := fun e => HA9.out.yk e.symm
          have hne2 : yb ≠ kb := HA9.out.yk
          have hdl : ds.length ≤ 17592186044416 := by obtain ⟨_, _, _, _, hl, _⟩ := HIc.out; exact hl
          have HA4 : Hid (AdS w lb room yb kb F G2 L (addL L room (⟨ac, ar, sq, ds, kd, nc, nr, pc, pr, fc, fr, nm, vl⟩ : Ch)) (.slice a6 (addL L room (⟨ac, ar, sq, ds, kd, nc, nr, pc, pr, fc, fr, nm, vl⟩ : Ch)).length c6) (.slice a2 ds.length c2) (⟨ac, ar, sq, ds, kd, nc, nr, pc, pr, fc, fr, nm, vl⟩ : Ch) ds ((W9.setCell ⟨yb, 0, none⟩ (.int .i64 room)).setCell ⟨yb, 1, none⟩ (.slice a6 (addL L room (⟨ac, ar, sq, ds, kd, nc, nr, pc, pr, fc, fr, nm, vl⟩ : Ch)).length c6))) := HA9.out.put HF9.out HK6.out
          have HGa : Hid (Good (addL L room (⟨ac, ar, sq, ds, kd, nc, nr, pc, pr, fc, fr, nm, vl⟩ : Ch)) ∧ ((addL L room (⟨ac, ar, sq, ds, kd, nc, nr, pc, pr, fc, fr, nm, vl⟩ : Ch)).length : Int) ≤ room) := by rw [← HFs.out]; exact HGd2.out
          clear hkb HA9 HF9 HZ9 HZn HK6 HZ6
          go_wp2_with fail
          obtain ⟨W4, eW4⟩ : ∃ X, X = ((W9.setCell ⟨yb, 0, none⟩ (.int .i64 room)).setCell ⟨yb, 1, none⟩ (.slice a6 (addL L room (⟨ac, ar, sq, ds, kd, nc, nr, pc, pr, fc, fr, nm, vl⟩ : Ch)).length c6)) := ⟨_, rfl⟩
          rw [← eW4] at HA4 ⊢
          clear eW4 z_0 z_1 y_0 y_1 y_2 y_3 o_0 o_1 o_2 o_3 o_4 o_5 o_6 o_7 o_8 o_9 o_10 o_11 o_12
          refine (add_any F lb room L (⟨ac, ar, sq, ds, kd, nc, nr, pc, pr, fc, fr, nm, vl⟩ : Ch) (.slice a2 ds.length c2) W4 HA4.out.log HGd.out hroom hr1 (HA4.out.own.isI hdl) HSz.out).mono ?_
          rintro e w5 ⟨rfl, F5, hL5, _, hf5, ht5⟩
          have HA5 : Hid (AdS w lb room yb kb F5 G2 (addL L room (⟨ac, ar, sq, ds, kd, nc, nr, pc, pr, fc, fr, nm, vl⟩ : Ch)) (addL L room (⟨ac, ar, sq, ds, kd, nc, nr, pc, pr, fc, fr, nm, vl⟩ : Ch)) (.slice a6 (addL L room (⟨ac, ar, sq, ds, kd, nc, nr, pc, pr, fc, fr, nm, vl⟩ : Ch)).length c6) (.slice a2 ds.length c2) (⟨ac, ar, sq, ds, kd, nc, nr, pc, pr, fc, fr, nm, vl⟩ : Ch) ds w5) := HA4.out.add hL5 hf5 ht5
          obtain ⟨AL, eAL⟩ : ∃ X, X = (addL L room (⟨ac, ar, sq, ds, kd, nc, nr, pc, pr, fc, fr, nm, vl⟩ : Ch)) := ⟨_, rfl⟩
          rw [← eAL] at HA5 HGa HFs ⊢
          clear hL5 hf5 ht5 HA4 eAL HGd
          generalize whyR L room (⟨ac, ar, sq, ds, kd, nc, nr, pc, pr, fc, fr, nm, vl⟩ : Ch) = we at *
          have qw : (we == we) = true := by simp
          go_wp2
          rename World => wq
          go_loopw [12] (fun iv wr => ∃ (j : Nat) (E : List Int), j ≤ ds.length ∧ iv = .int .i64 (j : Int) ∧ Hid (E.length = ds.length) ∧ Hid (AdS w lb room yb kb F5 G2 AL AL (.slice a6 AL.length c6) (.slice a2 ds.length c2) (⟨ac, ar, sq, ds, kd, nc, nr, pc, pr, fc, fr, nm, vl⟩ : Ch) E wr)) (fun iv _ => ds.length - (intOf iv).toNat)
          case atStart => exact ⟨0, ds, Nat.zero_le _, rfl, rfl, HA5⟩
          case round =>
            obtain ⟨j, E, hj, rfl, HE, HAr⟩ := hrel
            have hkb : wr.heap[kb]? = some (.cells #[.int .i64 ac, .int .i64 ar, .int .i64 sq, .slice a2 ds.length c2, .int .i64 kd, .int .i64 nc, .int .i64 nr, .int .i64 pc, .int .i64 pr, .int .i64 fc, .int .i64 fr, .string nm, .string vl] 34) := HAr.out.kbox
            obtain ⟨o_0, o_1, o_2, o_3, o_4, o_5, o_6, o_7, o_8, o_9, o_10, o_11, o_12⟩ := row_cells hkb
            by_cases hjl : j < ds.length
            · rcases HAr.out.own.2 with ⟨e5, hn5⟩ | ⟨gb, cap5, cur, e5, hg5, _⟩
              · have := HE.out; omega
              · injection e5 with e6 e7 e8
                subst e6
                have hjE : j < E.length := by rw [HE.out]; exact hjl
                have x1 : ∃ y, wr.cell? ⟨gb, j, none⟩ = some y := by
                  have h9 := HAr.out.own
                  rw [← HE.out] at h9
                  have := World.ownsRow.cellAt h9 j (by omega)
                  rw [this]
                  exact ⟨_, List.getElem?_eq_getElem (by rw [show (cellsI E).length = E.length by simp [cellsI]]; exact hjE)⟩
                obtain ⟨yy, x1⟩ := x1
                have f1 : wr.frozen? ⟨gb, j, none⟩ = false := by
                  have h9 := HAr.out.own
                  rw [← HE.out] at h9
                  exact World.ownsRow.frozenAt h9 j
                have j1 : (j : Int) < (ds.length : Int) := by omega
                have j0 : (0 : Int) ≤ (j : Int) := by omega
                clear hkb e7 e8
                go_wp2
                go_roundw
                case rel => exact ⟨j + 1, E.set j (-7), by omega, by go_num, by show _ = _; rw [List.length_set]; exact HE.out, HAr.out.write HE.out.symm j (-7)⟩
                case measure => simp [intOf]; omega
            · obtain ⟨y_0, y_1, _, _⟩ := row2_cells HAr.out.ybox
              clear hkb
              go_wp2_with fail
              refine (told_any F5 _ room AL _ _ HAr.out.log.v HAr.out.firm.isH HGa.out.1 (by have := HGa.out.2; omega)).mono ?_
              rintro e w7 ⟨rfl, hb7⟩
              have HB7 : Hid (AdB w lb room yb F5 G2 (fillL room (l.take (k + 1))) (.slice a6 AL.length c6) w7) := by rw [HFs.out]; exact HAr.out.toB.below hb7
              clear hb7
              go_wp2
              go_roundw
              case rel => exact ⟨k + 1, F5, G2, _, by omega, by go_num, HB7⟩
              case measure => simp [intOf]; omega
      · have HZ0 : Hid (¬ F Ug3u0.heap.size ∧ ¬ G Ug3u0.heap.size ∧ Ug3u0.heap.size ≠ yb ∧ Ug3u0.heap.size ≠ kb ∧ (.slice a2 ds.length c2 : Value).ownBlock ≠ some Ug3u0.heap.size ∧ w.heap.size ≤ Ug3u0.heap.size) := HA.out.fresh
        go_simp
        refine hK.out _ _ (BelowH.below hHeld ((Below.refl _ _).alloc (Nat.le_refl _) _)) (fun hHeld2 => ?_)
        clear hK K hHeld
        have hHeld := hHeld2
        clear hHeld2
        (try simp only [Act.put, List.setIfInBounds_toArray, List.set_cons_zero, List.set_cons_succ])
        obtain ⟨Ug3u8, eW⟩ : ∃ X, X = Ug3u0.alloc (.cells #[.int .i64 0, .slice none 0 0] 29) := ⟨_, rfl⟩
        have hb : Below Ug3u0.heap.size Ug3u0 Ug3u8 := by rw [eW]; exact (Below.refl _ _).alloc (Nat.le_refl _) _
        replace HA : Hid (AdS w lb room yb kb F G L L (.slice ay L.length cy) (.slice a2 ds.length c2) (⟨ac, ar, sq, ds, kd, nc, nr, pc, pr, fc, fr, nm, vl⟩ : Ch) ds Ug3u8) := HA.out.below hb
        replace HBw : Hid (BelowH w Ug3u8) := HBw.out.below hb
        obtain ⟨zb, ezb⟩ : ∃ b, b = Ug3u0.heap.size := ⟨_, rfl⟩
        rw [← eW] at hHeld ⊢
        (try rw [← ezb])
        have HZ : Hid (BxL zb Ug3u8) := by rw [ezb, eW]; exact heap_alloc_new _ _
        have HZn : Hid (¬ F zb ∧ ¬ G zb ∧ zb ≠ yb ∧ zb ≠ kb ∧ (.slice a2 ds.length c2 : Value).ownBlock ≠ some zb ∧ w.heap.size ≤ zb) := by rw [ezb]; exact HZ0.out
        clear eW
        clear ezb
        clear hb
        refine wpAnyH_ready (rs := [0]) (by kernel_rfl) (by simp) ?_
        refine AllReadyH.cons (o := ⟨some 53, _, _, _, _, _⟩) rfl (fun K hK => ?_) AllReadyH.nil
        obtain ⟨x_0, x_1, _, _⟩ := row2_cells HA.out.ybox
        go_simp
        refine hK.out _ _ (hHeld) (fun hHeld2 => ?_)
        clear hK K hHeld
        have hHeld := hHeld2
        clear hHeld2
        (try simp only [Act.put, List.setIfInBounds_toArray, List.set_cons_zero, List.set_cons_succ])
        clear x_0 x_1
        refine wpAnyH_ready (rs := [5]) (by kernel_rfl) (by simp) ?_
        refine AllReadyH.cons (o := ⟨some 58, _, _, _, _, _⟩) rfl (fun K hK => ?_) AllReadyH.nil
        have HZl : Hid (zb < Ug3u8.heap.size) := row_lt HZ.out
        have HN6 : Hid (AdS w lb room yb kb F G L L (.slice ay L.length cy) (.slice a2 ds.length c2) (⟨ac, ar, sq, ds, kd, nc, nr, pc, pr, fc, fr, nm, vl⟩ : Ch) ds Ug3u8) := HA.out
        go_simp
        refine (refAdd_any G _ L room ac ar sq (.slice a0 ds.length c0) kd nc nr pc pr fc fr nm vl ds Ug3u8 HA.out.firm (HIc.out.below HBw.out) HSz.out hly).mono ?_
        rintro e Ug3u10 ⟨v6, rfl, hf6, hb⟩
        (try go_wp2_with fail)
        refine hK.out _ _ (BelowH.below hHeld hb) (fun hHeld2 => ?_)
        clear hK K hHeld
        have hHeld := hHeld2
        clear hHeld2
        (try simp only [Act.put, List.setIfInBounds_toArray, List.set_cons_zero, List.set_cons_succ])
        replace HA : Hid (AdS w lb room yb kb F G L L (.slice ay L.length cy) (.slice a2 ds.length c2) (⟨ac, ar, sq, ds, kd, nc, nr, pc, pr, fc, fr, nm, vl⟩ : Ch) ds Ug3u10) := HA.out.below hb
        replace HBw : Hid (BelowH w Ug3u10) := HBw.out.below hb
        replace HZ : Hid (BxL zb Ug3u10) := HZ.out.below hb
        obtain ⟨a6, c6, e6⟩ := hf6.isH.form
        subst e6
        obtain ⟨G2, eG2⟩ : ∃ G2 : Nat → Prop, G2 = fun k => G k ∨ (Ug3u8.heap.size ≤ k ∧ k < Ug3u10.heap.size) := ⟨_, rfl⟩
        rw [← eG2] at hf6
        have HG2 : Hid (∀ k, G2 k → G k ∨ (Ug3u8.heap.size ≤ k ∧ k < Ug3u10.heap.size)) := fun k hk => by rw [eG2] at hk; exact hk
        have HF6 : Hid (HFirm G2 Ug3u10 (.slice a6 (addL L room (⟨ac, ar, sq, ds, kd, nc, nr, pc, pr, fc, fr, nm, vl⟩ : Ch)).length c6) (addL L room (⟨ac, ar, sq, ds, kd, nc, nr, pc, pr, fc, fr, nm, vl⟩ : Ch))) := hf6
        have HK6 : Hid (∀ k, G2 k → ¬ F k ∧ k ≠ yb ∧ k ≠ kb ∧ (.slice a2 ds.length c2 : Value).ownBlock ≠ some k) := fun k hk => by rcases HG2.out k hk with q | q; exact ⟨HN6.out.fg k q, fun e => HN6.out.gy (e ▸ q), fun e => HN6.out.gk (e ▸ q), fun e => (HN6.out.fo k e).2.1 q⟩; exact ⟨fun h => by have := HN6.out.log.lt k h; omega, fun e => by have := row_lt HN6.out.ybox; omega, fun e => by have := row_lt HN6.out.kbox; omega, fun e => by have := (World.ownsRow.lt HN6.out.own k e).2; omega⟩
        have HZ6 : Hid (¬ G2 zb) := fun hk => by rcases HG2.out zb hk with q | q; exact HZn.out.2.1 q; have := HZl.out; omega
        clear hf6 eG2 HG2 HN6
        clear hb
        refine wpAnyH_take (i := 6) (oi := ⟨some 52, _, _, _, _, _⟩) (v := ?vg3u_9_0_5x6) rfl (by kernel_rfl) (by kernel_rfl) (by kernel_rfl) (fun _ _ _ h => h) (Or.inl ⟨by rfl, ?hyg3u_9_0_5x6⟩) hHeld ?restg3u_9_0_5x6
        case hyg3u_9_0_5x6 => (intro w _; go_simp; try with_reducible rfl)
        simp only [Act.put, List.setIfInBounds_toArray, List.set_cons_zero, List.set_cons_succ]
        refine wpAnyH_take (i := 7) (oi := ⟨some 59, _, _, _, _, _⟩) (v := ?vg3u_9_0_5x7) rfl (by kernel_rfl) (by kernel_rfl) (by kernel_rfl) (fun _ _ _ h => h) (Or.inl ⟨by rfl, ?hyg3u_9_0_5x7⟩) hHeld ?restg3u_9_0_5x7
        case hyg3u_9_0_5x7 => (intro w _; go_simp; try with_reducible rfl)
        simp only [Act.put, List.setIfInBounds_toArray, List.set_cons_zero, List.set_cons_succ]
        refine wpAnyH_take (i := 8) (oi := ⟨some 60, _, _, _, _, _⟩) (v := ?vg3u_9_0_5x8) rfl (by kernel_rfl) (by kernel_rfl) (by kernel_rfl) (fun _ _ _ h => h) (Or.inl ⟨by rfl, ?hyg3u_9_0_5x8⟩) hHeld ?restg3u_9_0_5x8
        case hyg3u_9_0_5x8 => (intro w _; go_simp; try with_reducible rfl)
        simp only [Act.put, List.setIfInBounds_toArray, List.set_cons_zero, List.set_cons_succ]
        refine wpAnyH_ready (rs := [10]) (by kernel_rfl) (by simp) ?_
        refine AllReadyH.cons (o := ⟨none, _, _, _, _, _⟩) rfl (fun K hK => ?_) AllReadyH.nil
        obtain ⟨r_0, r_1, r_2, r_3⟩ := row2_cells HZ.out
        go_simp
        refine hK.out _ _ (((HA.out.far (i := 0) (v := .int .i64 room) HZn.out).far (i := 1) (v := (.slice a6 (addL L room (⟨ac, ar, sq, ds, kd, nc, nr, pc, pr, fc, fr, nm, vl⟩ : Ch)).length c6)) HZn.out).bel) (fun hHeld2 => ?_)
        clear hK K hHeld
        have hHeld := hHeld2
        clear hHeld2
        (try simp only [Act.put, List.setIfInBounds_toArray, List.set_cons_zero, List.set_cons_succ])
        have HA9 : Hid (AdS w lb room yb kb F G L L (.slice ay L.length cy) (.slice a2 ds.length c2) (⟨ac, ar, sq, ds, kd, nc, nr, pc, pr, fc, fr, nm, vl⟩ : Ch) ds ((Ug3u10.setCell ⟨zb, 0, none⟩ (.int .i64 room)).setCell ⟨zb, 1, none⟩ (.slice a6 (addL L room (⟨ac, ar, sq, ds, kd, nc, nr, pc, pr, fc, fr, nm, vl⟩ : Ch)).length c6))) := (HA.out.far (i := 0) (v := .int .i64 room) HZn.out).far (i := 1) (v := (.slice a6 (addL L room (⟨ac, ar, sq, ds, kd, nc, nr, pc, pr, fc, fr, nm, vl⟩ : Ch)).length c6)) HZn.out
        have HF9 : Hid (HFirm G2 ((Ug3u10.setCell ⟨zb, 0, none⟩ (.int .i64 room)).setCell ⟨zb, 1, none⟩ (.slice a6 (addL L room (⟨ac, ar, sq, ds, kd, nc, nr, pc, pr, fc, fr, nm, vl⟩ : Ch)).length c6)) (.slice a6 (addL L room (⟨ac, ar, sq, ds, kd, nc, nr, pc, pr, fc, fr, nm, vl⟩ : Ch)).length c6) (addL L room (⟨ac, ar, sq, ds, kd, nc, nr, pc, pr, fc, fr, nm, vl⟩ : Ch))) := HF6.out.keep ⟨by simp [World.setCell], fun k hk => (RowKit.Below.heap_setCell _ _ _ _ (fun (e : k = zb) => HZ6.out (e ▸ hk))).trans (RowKit.Below.heap_setCell _ _ _ _ (fun (e : k = zb) => HZ6.out (e ▸ hk)))⟩
        have HZ9 : Hid (((Ug3u10.setCell ⟨zb, 0, none⟩ (.int .i64 room)).setCell ⟨zb, 1, none⟩ (.slice a6 (addL L room (⟨ac, ar, sq, ds, kd, nc, nr, pc, pr, fc, fr, nm, vl⟩ : Ch)).length c6)).heap[zb]? = some (.cells #[.int .i64 room, (.slice a6 (addL L room (⟨ac, ar, sq, ds, kd, nc, nr, pc, pr, fc, fr, nm, vl⟩ : Ch)).length c6)] 29)) := row_set2 HZ.out
        obtain ⟨W9, eW9⟩ : ∃ X, X = ((Ug3u10.setCell ⟨zb, 0, none⟩ (.int .i64 room)).setCell ⟨zb, 1, none⟩ (.slice a6 (addL L room (⟨ac, ar, sq, ds, kd, nc, nr, pc, pr, fc, fr, nm, vl⟩ : Ch)).length c6)) := ⟨_, rfl⟩
        rw [← eW9] at HA9 HF9 HZ9 hHeld ⊢
        clear eW9 r_0 r_1 r_2 r_3 HA HF6 HZ
        refine wpAnyH_take (i := 11) (oi := ⟨some 11, _, _, _, _, _⟩) (v := ?vg3u_9_0_5_10x11) rfl (by kernel_rfl) (by kernel_rfl) (by kernel_rfl) (fun _ _ _ h => h) (Or.inl ⟨by rfl, ?hyg3u_9_0_5_10x11⟩) hHeld ?restg3u_9_0_5_10x11
        case hyg3u_9_0_5_10x11 => (intro w _; go_simp; try with_reducible rfl)
        simp only [Act.put, List.setIfInBounds_toArray, List.set_cons_zero, List.set_cons_succ]
        refine wpAnyH_done (by kernel_rfl) ?_ _
        clear hHeld
        obtain ⟨z_0, z_1, _, _⟩ := row2_cells HZ9.out
        obtain ⟨y_0, y_1, y_2, y_3⟩ := row2_cells HA9.out.ybox
        have hkb : W9.heap[kb]? = some (.cells #[.int .i64 ac, .int .i64 ar, .int .i64 sq, .slice a2 ds.length c2, .int .i64 kd, .int .i64 nc, .int .i64 nr, .int .i64 pc, .int .i64 pr, .int .i64 fc, .int .i64 fr, .string nm, .string vl] 34) := HA9.out.kbox
        obtain ⟨o_0, o_1, o_2, o_3, o_4, o_5, o_6, o_7, o_8, o_9, o_10, o_11, o_12⟩ := row_cells hkb
        have hne1 : kb ≠ yb := fun e => HA9.out.yk e.symm
        have hne2 : yb ≠ kb := HA9.out.yk
        have hdl : ds.length ≤ 17592186044416 := by obtain ⟨_, _, _, _, hl, _⟩ := HIc.out; exact hl
        have HA4 : Hid (AdS w lb room yb kb F G2 L (addL L room (⟨ac, ar, sq, ds, kd, nc, nr, pc, pr, fc, fr, nm, vl⟩ : Ch)) (.slice a6 (addL L room (⟨ac, ar, sq, ds, kd, nc, nr, pc, pr, fc, fr, nm, vl⟩ : Ch)).length c6) (.slice a2 ds.length c2) (⟨ac, ar, sq, ds, kd, nc, nr, pc, pr, fc, fr, nm, vl⟩ : Ch) ds ((W9.setCell ⟨yb, 0, none⟩ (.int .i64 room)).setCell ⟨yb, 1, none⟩ (.slice a6 (addL L room (⟨ac, ar, sq, ds, kd, nc, nr, pc, pr, fc, fr, nm, vl⟩ : Ch)).length c6))) := HA9.out.put HF9.out HK6.out
        have HGa : Hid (Good (addL L room (⟨ac, ar, sq, ds, kd, nc, nr, pc, pr, fc, fr, nm, vl⟩ : Ch)) ∧ ((addL L room (⟨ac, ar, sq, ds, kd, nc, nr, pc, pr, fc, fr, nm, vl⟩ : Ch)).length : Int) ≤ room) := by rw [← HFs.out]; exact HGd2.out
        clear hkb HA9 HF9 HZ9 HZn HK6 HZ6
        go_wp2_with fail
        obtain ⟨W4, eW4⟩ : ∃ X, X = ((W9.setCell ⟨yb, 0, none⟩ (.int .i64 room)).setCell ⟨yb, 1, none⟩ (.slice a6 (addL L room (⟨ac, ar, sq, ds, kd, nc, nr, pc, pr, fc, fr, nm, vl⟩ : Ch)).length c6)) := ⟨_, rfl⟩
        rw [← eW4] at HA4 ⊢
        clear eW4 z_0 z_1 y_0 y_1 y_2 y_3 o_0 o_1 o_2 o_3 o_4 o_5 o_6 o_7 o_8 o_9 o_10 o_11 o_12
        refine (add_any F lb room L (⟨ac, ar, sq, ds, kd, nc, nr, pc, pr, fc, fr, nm, vl⟩ : Ch) (.slice a2 ds.length c2) W4 HA4.out.log HGd.out hroom hr1 (HA4.out.own.isI hdl) HSz.out).mono ?_
        rintro e w5 ⟨rfl, F5, hL5, _, hf5, ht5⟩
        have HA5 : Hid (AdS w lb room yb kb F5 G2 (addL L room (⟨ac, ar, sq, ds, kd, nc, nr, pc, pr, fc, fr, nm, vl⟩ : Ch)) (addL L room (⟨ac, ar, sq, ds, kd, nc, nr, pc, pr, fc, fr, nm, vl⟩ : Ch)) (.slice a6 (addL L room (⟨ac, ar, sq, ds, kd, nc, nr, pc, pr, fc, fr, nm, vl⟩ : Ch)).length c6) (.slice a2 ds.length c2) (⟨ac, ar, sq, ds, kd, nc, nr, pc, pr, fc, fr, nm, vl⟩ : Ch) ds w5) := HA4.out.add hL5 hf5 ht5
        obtain ⟨AL, eAL⟩ : ∃ X, X = (addL L room (⟨ac, ar, sq, ds, kd, nc, nr, pc, pr, fc, fr, nm, vl⟩ : Ch)) := ⟨_, rfl⟩
        rw [← eAL] at HA5 HGa HFs ⊢
        clear hL5 hf5 ht5 HA4 eAL HGd
        generalize whyR L room (⟨ac, ar, sq, ds, kd, nc, nr, pc, pr, fc, fr, nm, vl⟩ : Ch) = we at *
        have qw : (we == we) = true := by simp
        go_wp2
        rename World => wq
        go_loopw [12] (fun iv wr => ∃ (j : Nat) (E : List Int), j ≤ ds.length ∧ iv = .int .i64 (j : Int) ∧ Hid (E.length = ds.length) ∧ Hid (AdS w lb room yb kb F5 G2 AL AL (.slice a6 AL.length c6) (.slice a2 ds.length c2) (⟨ac, ar, sq, ds, kd, nc, nr, pc, pr, fc, fr, nm, vl⟩ : Ch) E wr)) (fun iv _ => ds.length - (intOf iv).toNat)
        case atStart => exact ⟨0, ds, Nat.zero_le _, rfl, rfl, HA5⟩
        case round =>
          obtain ⟨j, E, hj, rfl, HE, HAr⟩ := hrel
          have hkb : wr.heap[kb]? = some (.cells #[.int .i64 ac, .int .i64 ar, .int .i64 sq, .slice a2 ds.length c2, .int .i64 kd, .int .i64 nc, .int .i64 nr, .int .i64 pc, .int .i64 pr, .int .i64 fc, .int .i64 fr, .string nm, .string vl] 34) := HAr.out.kbox
          obtain ⟨o_0, o_1, o_2, o_3, o_4, o_5, o_6, o_7, o_8, o_9, o_10, o_11, o_12⟩ := row_cells hkb
          by_cases hjl : j < ds.length
          · rcases HAr.out.own.2 with ⟨e5, hn5⟩ | ⟨gb, cap5, cur, e5, hg5, _⟩
            · have := HE.out; omega
            · injection e5 with e6 e7 e8
              subst e6
              have hjE : j < E.length := by rw [HE.out]; exact hjl
              have x1 : ∃ y, wr.cell? ⟨gb, j, none⟩ = some y := by
                have h9 := HAr.out.own
                rw [← HE.out] at h9
                have := World.ownsRow.cellAt h9 j (by omega)
                rw [this]
                exact ⟨_, List.getElem?_eq_getElem (by rw [show (cellsI E).length = E.length by simp [cellsI]]; exact hjE)⟩
              obtain ⟨yy, x1⟩ := x1
              have f1 : wr.frozen? ⟨gb, j, none⟩ = false := by
                have h9 := HAr.out.own
                rw [← HE.out] at h9
                exact World.ownsRow.frozenAt h9 j
              have j1 : (j : Int) < (ds.length : Int) := by omega
              have j0 : (0 : Int) ≤ (j : Int) := by omega
              clear hkb e7 e8
              go_wp2
              go_roundw
              case rel => exact ⟨j + 1, E.set j (-7), by omega, by go_num, by show _ = _; rw [List.length_set]; exact HE.out, HAr.out.write HE.out.symm j (-7)⟩
              case measure => simp [intOf]; omega
          · obtain ⟨y_0, y_1, _, _⟩ := row2_cells HAr.out.ybox
            clear hkb
            go_wp2_with fail
            refine (told_any F5 _ room AL _ _ HAr.out.log.v HAr.out.firm.isH HGa.out.1 (by have := HGa.out.2; omega)).mono ?_
            rintro e w7 ⟨rfl, hb7⟩
            have HB7 : Hid (AdB w lb room yb F5 G2 (fillL room (l.take (k + 1))) (.slice a6 AL.length c6) w7) := by rw [HFs.out]; exact HAr.out.toB.below hb7
            clear hb7
            go_wp2
            go_roundw
            case rel => exact ⟨k + 1, F5, G2, _, by omega, by go_num, HB7⟩
            case measure => simp [intOf]; omega
    · have HBl : Hid (Below w.heap.size w wr) := HB.out.bel
      go_wp2_with (go_at_call 10; refine (awake_any _).mono ?_; rintro e w4 ⟨rfl, hb4⟩)
      go_ret
      exact ⟨rfl, HBl.out.trans (hb4.mono HBl.out.size)⟩

end Go.Proofs.YtckipepodohnpaaGreat

namespace Go.Proofs.YtckipepodohnpaaGreat
open Go.ChangeShapes Go.WideShapes Go.ChangeAt Go.RowKit
open Go.ChangeMaps (open_string shut_string)
set_option linter.unusedVariables false

set_option maxRecDepth 100000 in
theorem oplogAdds_lifted (os : Os) (started : os.Started) (H : Type) (enc : TypeId × Value → H) :
    ReturnsInHanded {} Tryz.checked os 3 .any (Rows.oplogAddsSpec.pre6 enc Tryz.prog Tryz.f3 Rows.oplogAddsRow.domain false) (Rows.oplogAddsSpec.post enc Tryz.prog Tryz.f3 false true false false) := by
  refine returnsInHanded_of_change_sized (C := Tryz.checked) ownI started (by kernel_rfl) Tryz.func3
    (ChangeSpec.witness6 (enc := enc) (C := Tryz.checked) false ⟨#[], #[.int .i64 0, .slice none 0 0], []⟩ 8 (by kernel_rfl) (by kernel_rfl) (by kernel_rfl) (by kernel_rfl)) ?_
  intro W base args ds gs before hval0 hW _ hsz0 _
  have hval : ∀ (j : Nat) t v, Tryz.f3.params[j]? = some t → args[j]? = some v → Value.okWide Tryz.prog W .any base t v := hval0
  have hW' := hW
  obtain ⟨p, q, hA0, hV, rfl, hfz, hnd⟩ := hW
  have hA : DataW.TrodAll enc Tryz.prog W 0 (fun _ => true) true Tryz.f3.params.toList args.toList ds p := hA0
  rw [Tryz.params3] at hA hval
  obtain ⟨v0, v1, d0, d1, p0, p1, rfl, rfl, rfl, h0, h1⟩ := trodAll_two hA
  obtain ⟨rfl, rfl⟩ := trodVars_none hV
  obtain ⟨x0, rfl, rfl, rfl, wx0⟩ := open_int Tryz.underlying3 (hval 0 3 v0 rfl rfl) h0
  have hk1 := h1
  have hsz : (DataW.weightsEach Tryz.prog (Tryz.f3.params.toList ++ Rows.oplogAddsSpec.plain.varTypes Tryz.prog) (_ ++ _)).all (· ≤ reachBytes) = true := hsz0
  rw [Tryz.params3] at hsz
  have hw1 : ∀ n ∈ d1.weights Tryz.prog 22, n ≤ reachBytes := fun n hn => by
    have h1 := List.all_eq_true.1 hsz n (DataW.weights_mem_each (j := 1) rfl rfl n hn)
    simpa using h1
  obtain ⟨D1, is1, hl1⟩ := open_chsV (hval 1 22 v1 rfl rfl) h1 hw1
  have hlt1 : ∀ x ∈ p1, x.block < W.heap.size := fun x hx => by simpa using hW'.lt x (by simp [hx])
  clear hA0 hval0
  refine (addsLaw_any x0 v1 D1 W wx0 is1).mono fun e W' ⟨he, bel⟩ => ?_
  subst he
  exact ⟨_, rfl, _, _, _, [], _, [], hW', trodAll_mk1 (shut_bool Tryz.underlying4 _), trodAll_mk2 (shut_int Tryz.underlying3 wx0) (Below.trod laidOutI (by kernel_rfl) (of_decide_eq_true (by kernel_rfl)) hk1 bel hlt1), rfl, bel.frame _, fun h => by cases h⟩

theorem oplogAdds_holds : Rows.OplogAddsSaid :=
  OpenClaim.holds_of_wide 3 Tryz.f3 rfl rfl rfl rfl rfl rfl rfl ⟨rfl, rfl, rfl, rfl, rfl⟩ rfl rfl rfl rfl rfl (by kernel_rfl) Tryz.func3 (by kernel_rfl)
    (of_decide_eq_true (by kernel_rfl)) (by unfold Func.isWrapper; first | (rw [if_pos (by decide +kernel)]; kernel_rfl) | (rw [if_neg (by decide +kernel)]; exact ⟨rfl, rfl⟩))
    (fun os started H enc _ => oplogAdds_lifted os started H enc)
#print axioms oplogAdds_holds
end Go.Proofs.YtckipepodohnpaaGreat
