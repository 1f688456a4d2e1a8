/- slots, Each, Order. -/
import Derived.Test.YtfgkdbidgbpobaaRwE
import Derived.Laws.EntriesVeiled
namespace Go.Proofs.Ytfgkdbidgbpobaa
open Go.RowKit Go.Shelf
set_option linter.unusedVariables false
set_option linter.unusedSimpArgs false

attribute [local go_sem] Oper.semAt_some

theorem LyS.frLs {F : Nat → Prop} {N bo bl ba br rb : Nat} {L : List Sl} {ma mb : Nat} {fv : Value} {E : List (St × Value)} {D : List Sl} {v : Value} {W : World} (h : LyS F N bo bl ba br rb L ma mb fv E D v W) (hl : L.length ≤ 4096) : LsE stCells 2 F W fv (kidL L z0) := by
  have e : kidL L z0 = frL L := by unfold kidL; rw [if_pos rfl]
  rw [e]
  exact h.row.own.lsE stCells_len (by have := frL_length L; omega) h.row.ff

set_option maxRecDepth 100000 in
set_option maxHeartbeats 8000000 in
theorem slots_any (F : Nat → Prop) (rb : Nat) (L : List Sl) (w : World) (h : RowOk F w rb L) :
    Calls Try.prog 18 #[.pointer (some ⟨rb, 0, none⟩)] w fun e w' => ∃ v, e = .returned v ∧ OwnSl w.heap.size w' v ((ordL L).map (slO L)) ∧ Below w.heap.size w w' := by
  obtain ⟨ma, mb, fv, E, h, hl⟩ := h
  obtain ⟨isl, hisl, hz0sl, hz1sl, hz2sl⟩ := info_parts infoSlot
  have HLl : Hid (L.length ≤ 4096) := hl
  have HG : Hid (GoodL L) := h.good
  obtain ⟨W0, eW0⟩ : ∃ X, X = w.alloc (.cells [.pointer (some ⟨rb, 0, none⟩)].toArray 23) := ⟨_, rfl⟩
  have hs0 : W0.heap.size = w.heap.size + 1 := by rw [eW0]; simp
  have hb0 : Below w.heap.size w W0 := by rw [eW0]; exact (Below.refl _ _).alloc (Nat.le_refl _) _
  have hr0 : BxC w.heap.size [.pointer (some ⟨rb, 0, none⟩)] 23 W0 := by rw [eW0]; exact BxC.new _ _ _
  have h0 := h.below hb0
  obtain ⟨W1, hmk, hown1, hg1⟩ := run_make_own (P := Try.prog) W0 w.heap.size 22 36 isl (.agg #[.int .i64 0, .int .i64 0, .int .i64 0, .int .i64 0]) 4 Try.underlying22 hisl hz0sl hz1sl .i64 .i64 L.length (by rw [hz2sl]; omega) (by unfold maxLen; omega) (by omega)
  have hb1 : Below W0.heap.size W0 W1 := ⟨hg1.os, hg1.tape, hg1.output, hg1.size, fun k hk => hg1.block k hk (by simp)⟩
  rw [hs0] at hmk hown1
  obtain ⟨W5, eW5⟩ : ∃ X, X = (((W1.alloc (.cells [.slice (some ⟨w.heap.size + 1, 0, none⟩) 0 L.length].toArray 22)).alloc (.cells [layV W1.heap.size w.heap.size].toArray 68)).alloc (.cells [layAV (W1.heap.size + 1) (W1.heap.size + 1 + 1) w.heap.size].toArray 69)) := ⟨_, rfl⟩
  have hb5 : Below W1.heap.size W1 W5 := by rw [eW5]; exact (((Below.refl _ _).alloc (Nat.le_refl _) _).alloc (by simp) _).alloc (by simp; omega) _
  obtain ⟨n1, n2, n3⟩ := BxC.new3 W1 [.slice (some ⟨w.heap.size + 1, 0, none⟩) 0 L.length] [layV W1.heap.size w.heap.size] [layAV (W1.heap.size + 1) (W1.heap.size + 1 + 1) w.heap.size] 22 68 69
  rw [← eW5] at n1 n2 n3
  have hs1 := hb1.size
  have HS : Hid (LyS F w.heap.size W1.heap.size (W1.heap.size + 1) (W1.heap.size + 1 + 1) w.heap.size rb L ma mb fv E [] (.slice (some ⟨w.heap.size + 1, 0, none⟩) 0 L.length) W5) := ⟨(h0.below hb1).below hb5, h.lt, n1, n2, n3, (hr0.below hb1).below hb5, OwnE.below (D := []) hown1 hb5, by omega⟩
  have HB : Hid (Below w.heap.size w W5) := (hb0.trans (hb1.mono (by omega))).trans (hb5.mono (by omega))
  have HSz : Hid (w.heap.size ≤ W1.heap.size) := by (show _ ≤ _; omega)
  obtain ⟨D9, eD9⟩ : ∃ D9, D9 = (bel L z0).map (slO L) := ⟨_, rfl⟩
  have HD9 : Hid (D9 = (bel L z0).map (slO L)) := eD9
  clear eD9
  have c0 := h0.c0
  have hln := lenA h0.am
  have p0 := hr0.cell 0 _ rfl
  have HW : Hid (W0 = w.alloc (.cells #[.pointer (some ⟨rb, 0, none⟩)] 23)) := eW0
  rw [eW0] at c0 hln p0 hmk
  clear h h0 hb0 hb1 hb5 hown1 hg1 n1 n2 n3 hr0 hs0 hs1
  go_enter Try.func18, Try.ntmps18
  go_wp2
  have eW6 := eW5
  simp only [layV, layAV] at eW6
  rw [← eW6]
  clear eW6 eW5 c0 hln p0 hmk
  refine wp_region_held_drew (S := fun W' => BxC w.heap.size [.pointer (some ⟨rb, 0, none⟩)] 23 W' ∧ BxC (W1.heap.size + 1 + 1) [layAV (W1.heap.size + 1) (W1.heap.size + 1 + 1) w.heap.size] 69 W' ∧ RowIs F W' rb L (behZ L) (frL L) ma mb fv E) (by kernel_rfl) ⟨HS.out.r.below (Below.refl _ _).drew, HS.out.a.below (Below.refl _ _).drew, HS.out.row.below (Below.refl _ _).drew⟩ (fun hHeld => ?_)
  obtain ⟨Ua2u0, eW⟩ : ∃ X, X = W5.drew := ⟨_, rfl⟩
  have hb : Below W5.heap.size W5 Ua2u0 := by rw [eW]; exact (Below.refl _ _).drew
  replace HS : Hid (LyS F w.heap.size W1.heap.size (W1.heap.size + 1) (W1.heap.size + 1 + 1) w.heap.size rb L ma mb fv E [] (.slice (some ⟨w.heap.size + 1, 0, none⟩) 0 L.length) Ua2u0) := HS.out.below hb
  replace HB : Hid (Below w.heap.size w Ua2u0) := HB.out.trans (hb.mono HB.out.size)
  rw [← eW] at hHeld ⊢
  clear eW hb
  refine tkW 0 (some 16) (v := ?_) ?_ hHeld ?_
  rotate_left
  · (intro ww hSw; (try dsimp only at hSw); have hS := hSw; have c2 := hS.2.2.c2; have p0 := hS.1.cell 0 _ rfl; have p1 := hS.2.1.cell 0 _ rfl; simp only [layAV] at p1; go_simp; try with_reducible rfl)
  refine tkW 1 (some 17) (v := ?_) ?_ hHeld ?_
  rotate_left
  · (intro ww hSw; (try dsimp only at hSw); have hS := hSw; have c2 := hS.2.2.c2; have p0 := hS.1.cell 0 _ rfl; have p1 := hS.2.1.cell 0 _ rfl; simp only [layAV] at p1; go_simp; try with_reducible rfl)
  refine tkW 2 (some 18) (v := ?_) ?_ hHeld ?_
  rotate_left
  · (intro ww hSw; (try dsimp only at hSw); have hS := hSw; go_simp; try with_reducible rfl)
  refine tkW 3 (some 19) (v := ?_) ?_ hHeld ?_
  rotate_left
  · (intro ww _; go_simp; try with_reducible rfl)
  refine tkW 4 (some 20) (v := ?_) ?_ hHeld ?_
  rotate_left
  · (intro ww hSw; (try dsimp only at hSw); have hS := hSw; have c2 := hS.2.2.c2; have p0 := hS.1.cell 0 _ rfl; have p1 := hS.2.1.cell 0 _ rfl; simp only [layAV] at p1; go_simp; try with_reducible rfl)
  refine wpAnyH_ready (rs := [5]) (by kernel_rfl) (by simp) ?_
  refine AllReadyH.cons (o := ⟨some 21, _, _, _, _, _⟩) rfl (fun K hK => ?_) AllReadyH.nil
  go_simp
  refine (layAll_any F w.heap.size W1.heap.size (W1.heap.size + 1) (W1.heap.size + 1 + 1) w.heap.size rb L ma mb fv E HLl.out HG.out (latN L z0 + 1) z0 fv [] _ Ua2u0 (.inl rfl) (Nat.lt_succ_self _) HS.out (HS.out.frLs HLl.out) (by have := bel_length HG.out (a := z0) (.inl rfl); have := HLl.out; simp; omega)).mono ?_
  rintro e Ua2u1 ⟨⟨u9, rfl⟩, hP⟩
  (try go_wp2_with fail)
  obtain ⟨v9, hS9, ht9, _⟩ := hP
  have HF : Hid (LyS F w.heap.size W1.heap.size (W1.heap.size + 1) (W1.heap.size + 1 + 1) w.heap.size rb L ma mb fv E D9 v9 Ua2u1) := (by rw [List.nil_append, ← HD9.out] at hS9; exact hS9)
  have HB9 : Hid (Below w.heap.size w Ua2u1) := HB.out.trans (ht9.below (fun k e => by have h7 := HSz.out; rcases e with e | e; omega; exact (HS.out.own.lt k e).1) HB.out.size)
  have hS2 : BxC w.heap.size [.pointer (some ⟨rb, 0, none⟩)] 23 Ua2u1 ∧ BxC (W1.heap.size + 1 + 1) [layAV (W1.heap.size + 1) (W1.heap.size + 1 + 1) w.heap.size] 69 Ua2u1 ∧ RowIs F Ua2u1 rb L (behZ L) (frL L) ma mb fv E := ⟨HF.out.r, HF.out.a, HF.out.row⟩
  refine hK.out _ _ (hS2) (fun hHeld2 => ?_)
  clear hK K hHeld
  have hHeld := hHeld2
  clear hHeld2
  (try simp only [Act.put, List.setIfInBounds_toArray, List.set_cons_zero, List.set_cons_succ])
  clear hS9 ht9 hS2
  refine wpAnyH_done (by kernel_rfl) ?_ _
  clear hHeld
  have o0 := HF.out.o.cell 0 _ rfl
  obtain ⟨a9, c9, e9⟩ := HF.out.own.form
  subst e9
  go_wp2
  go_ret
  exact ⟨_, rfl, by (show OwnSl _ _ _ ((bel L z0).map (slO L)); rw [← HD9.out]; exact HF.out.own), HB9.out⟩

set_option maxHeartbeats 1000000 in
theorem slots0_any (w : World) : Calls Try.prog 18 #[.pointer none] w fun e w' => ∃ v, e = .returned v ∧ OwnSl w.heap.size w' v ((ordL []).map (slO [])) ∧ Below w.heap.size w w' := by
  go_enter Try.func18, Try.ntmps18
  go_wp2
  go_ret
  exact ⟨_, rfl, OwnE.nil0 _ _, (Below.refl _ _).alloc (Nat.le_refl _) _⟩
/-- A row of these slots, or a nil one of none. -/
def RowV (F : Nat → Prop) (w : World) (v : Value) (L : List Sl) : Prop := (∃ rb, v = .pointer (some ⟨rb, 0, none⟩) ∧ RowOk F w rb L) ∨ (v = .pointer none ∧ L = [])
section
variable {F : Nat → Prop} {w w' : World} {v : Value} {L : List Sl}
theorem RowV.touch (h : RowV F w v L) {G : Nat → Prop} (ht : Touch G w w') (hG : ∀ k, F k → ¬ G k) : RowV F w' v L := h.imp (fun ⟨rb, e, h⟩ => ⟨rb, e, h.touch ht hG⟩) id
theorem RowV.below (h : RowV F w v L) (hb : Below w.heap.size w w') : RowV F w' v L := h.imp (fun ⟨rb, e, h⟩ => ⟨rb, e, h.below hb⟩) id
theorem RowOk.rv {rb : Nat} (h : RowOk F w rb L) : RowV F w (.pointer (some ⟨rb, 0, none⟩)) L := .inl ⟨rb, rfl, h⟩
theorem RowV.good (h : RowV F w v L) : GoodL L := by
  rcases h with ⟨rb, e, h⟩ | ⟨e, h⟩
  · exact h.good
  · rw [h]; exact GoodL.nil
theorem RowV.small (h : RowV F w v L) : L.length ≤ 4096 := by
  rcases h with ⟨rb, e, h⟩ | ⟨e, h⟩
  · exact h.small
  · rw [h]; simp
theorem slots_v (h : RowV F w v L) : Calls Try.prog 18 #[v] w fun e w' => ∃ v', e = .returned v' ∧ OwnSl w.heap.size w' v' ((ordL L).map (slO L)) ∧ Below w.heap.size w w' := by
  rcases h with ⟨rb, rfl, h⟩ | ⟨rfl, rfl⟩
  · exact slots_any F rb L w h
  · exact slots0_any w
theorem len_v (h : RowV F w v L) : Calls Try.prog 28 #[v] w fun e w' => e = .returned (.int .i64 (L.length : Int)) ∧ w' = w := by
  rcases h with ⟨rb, rfl, h⟩ | ⟨rfl, rfl⟩
  · exact lenIs_any F rb L w h
  · exact len0_any w
theorem RowV.ptr (h : RowV F w v L) : ∃ p, v = .pointer p := by
  rcases h with ⟨rb, rfl, h⟩ | ⟨rfl, rfl⟩
  · exact ⟨_, rfl⟩
  · exact ⟨_, rfl⟩
end
/-- What Each answers: an iterator of these slots, in blocks from b on. -/
def EachV (b : Nat) (w : World) (v : Value) (D : List Sl) : Prop := ∃ bo a c, v = .func (.func 19) #[] #[.pointer (some ⟨bo, 0, none⟩)] ∧ b ≤ bo ∧ BxC bo [.slice a D.length c] 22 w ∧ OwnSl b w (.slice a D.length c) D

set_option maxHeartbeats 1000000 in
theorem each_any (F : Nat → Prop) (v : Value) (L : List Sl) (w : World) (h : RowV F w v L) :
    Calls Try.prog 6 #[v] w fun e w' => ∃ u, e = .returned u ∧ EachV w.heap.size w' u ((ordL L).map (slO L)) ∧ Below w.heap.size w w' := by
  obtain ⟨p, rfl⟩ := h.ptr
  have HV : Hid (RowV F w (.pointer p) L) := h
  clear h
  go_enter Try.func6, Try.ntmps6
  go_wp2_with fail
  refine (slots_v HV.out).mono ?_
  rintro e w1 ⟨v1, rfl, ho, hb⟩
  obtain ⟨a1, c1, e1⟩ := ho.form
  subst e1
  have HO : Hid (OwnSl w.heap.size w1 (.slice a1 ((ordL L).map (slO L)).length c1) ((ordL L).map (slO L))) := ho
  have HB : Hid (Below w.heap.size w w1) := hb
  clear ho hb
  obtain ⟨D, hD⟩ : ∃ D, D = (ordL L).map (slO L) := ⟨_, rfl⟩
  rw [← hD] at HO ⊢
  have HD : Hid (D = (ordL L).map (slO L)) := hD
  clear hD
  obtain ⟨W2, eW⟩ : ∃ X, X = w1.alloc (.cells [.slice a1 D.length c1].toArray 22) := ⟨_, rfl⟩
  have hb2 : Below w1.heap.size w1 W2 := by rw [eW]; exact (Below.refl _ _).alloc (Nat.le_refl _) _
  have HX : Hid (BxC w1.heap.size [.slice a1 D.length c1] 22 W2) := by rw [eW]; exact BxC.new _ _ _
  have HO2 : Hid (OwnSl w.heap.size W2 (.slice a1 D.length c1) D) := HO.out.below hb2
  have HB2 : Hid (Below w.heap.size w W2) := HB.out.trans (hb2.mono HB.out.size)
  clear hb2
  go_wp2
  go_ret
  rw [← eW]
  exact ⟨_, rfl, by (rw [← HD.out]; exact ⟨w1.heap.size, a1, c1, rfl, HB.out.size, HX.out, HO2.out⟩), HB2.out⟩
/-- A slot as yield's argument. -/
def encL (x : Sl) : Array Value := #[.agg #[.int .i64 x.ts.1, .int .i64 x.ts.2, .int .i64 x.af.1, .int .i64 x.af.2]]

set_option maxRecDepth 100000 in
set_option maxHeartbeats 8000000 in
theorem each1_in (n : Nat) (hn : 2 ≤ n) (l B1 c : Nat) (S : Nat → Prop) (a : Option Addr) (D : List Sl) (J Jx : Nat → World → Prop) (W : World)
    (hS1 : S B1) (hSl : ∀ k, S k → k < W.heap.size) (hB1 : W.cell? ⟨B1, 0, none⟩ = some (.slice a D.length c)) (hR : LsE slCells 4 S W (.slice a D.length c) D) (hl : D.length ≤ 16384)
    (hJ : AbidesFrom W.heap.size J)
    (hY : ∀ k (h : k < D.length) W1, J k W1 → YieldAt Fence.wide (n - 1) Try.prog l (encL D[k]) W1 fun e W' => (e = .returned (.bool true) ∧ J (k + 1) W' ∧ KeepsS S W1 W') ∨ (e = .returned (.bool false) ∧ Jx (k + 1) W')) (h0 : J 0 W) :
    CallsIn Fence.wide n Try.prog 19 #[.func (.yield l) #[] #[], .pointer (some ⟨B1, 0, none⟩)] W fun e W' => (∃ v, e = .returned v) ∧ (J D.length W' ∨ ∃ k, k ≤ D.length ∧ Jx k W') := by
  have HR : Hid (LsE slCells 4 S W (.slice a D.length c) D) := hR
  have HSl : Hid (∀ k, S k → k < W.heap.size) := hSl
  have HJ : Hid (AbidesFrom W.heap.size J) := hJ
  clear hR hJ hSl
  refine callsIn_of_wp Try.func19 rfl trivial ?_ rfl
  simp only [Try.ntmps19, List.size_toArray, List.length_cons, List.length_nil, Nat.reduceAdd, Nat.reduceSub, Array.replicate_succ, Array.replicate_zero, List.push_toArray, List.append_toArray, List.nil_append, List.cons_append]
  gi_wp2
  gi_loopw [4, 7] (fun _ i wr => ∃ k : Nat, k ≤ D.length ∧ i = .int .i64 k ∧ Hid (JH W.heap.size J k wr) ∧ Hid (KeepsH S W wr))
    (fun _ i _ => D.length - (intOf i).toNat)
  case atStart => exact ⟨0, Nat.zero_le _, rfl, ⟨h0, HJ.out⟩, ⟨KeepsS.refl _ _, HSl.out⟩⟩
  case round =>
    obtain ⟨k, hk, rfl, HJr, HKr⟩ := hrel
    by_cases hlt : k < D.length
    · obtain ⟨a', cap', e', hc', hl', hrow⟩ := HR.out.keep HKr.out.1
      injection e' with e1 _ e3
      subst e1 e3
      obtain ⟨b, o, rfl, hSb, hbl, hcs⟩ := hrow.resolve_left (by intro e; subst e; simp at hlt)
      have y1 : wr.cell? ⟨b, o + k * 4, none⟩ = some (.int .i64 D[k].ts.1) := hcs k hlt 0 _ rfl
      have y2 : wr.cell? ⟨b, o + k * 4 + 1, none⟩ = some (.int .i64 D[k].ts.2) := hcs k hlt 1 _ rfl
      have y3 : wr.cell? ⟨b, o + k * 4 + 2, none⟩ = some (.int .i64 D[k].af.1) := hcs k hlt 2 _ rfl
      have y4 : wr.cell? ⟨b, o + k * 4 + 3, none⟩ = some (.int .i64 D[k].af.2) := hcs k hlt 3 _ rfl
      have kk1 : (k : Int) < (D.length : Int) := by omega
      have kk0 : (0 : Int) ≤ (k : Int) := by omega
      have hYk := hY k hlt
      have HJl : Hid (k + 1 ≤ D.length) := hlt
      clear hcs hrow hc' hl'
      generalize D[k] = x at *
      obtain ⟨⟨f, t⟩, ⟨q, r⟩⟩ := x
      obtain ⟨W4, eW4⟩ : ∃ X, X = wr.alloc (.cells #[.int .i64 f, .int .i64 t, .int .i64 q, .int .i64 r] 36) := ⟨_, rfl⟩
      have hb4 : Below wr.heap.size wr W4 := by rw [eW4]; exact (Below.refl _ _).alloc (Nat.le_refl _) _
      have HKx : Hid (KeepsH S W W4) := HKr.out.below hb4
      have HJx : Hid (JH W.heap.size J k W4) := HJr.out.below hb4
      obtain ⟨fn, tmps, assign, body, hy, hRd⟩ := hYk _ HJx.out.1
      simp only [encL] at hy
      have hy2 := hy
      rw [eW4] at hy2
      clear hb4 hYk hy
      gi_wp2
      rw [← eW4]
      refine ⟨fun _ => by omega, hRd.mono ?_⟩
      rintro e W3 (⟨rfl, hJ3, hk3⟩ | ⟨rfl, hJx3⟩)
      · have HJ3 : Hid (JH W.heap.size J (k + 1) W3) := ⟨hJ3, HJ.out⟩
        have HK3 : Hid (KeepsH S W W3) := ⟨HKx.out.1.trans hk3, HSl.out⟩
        clear hJ3 hk3 eW4 hy2
        gi_wp2
        go_roundw
        case rel => exact ⟨k + 1, by omega, by go_num, HJ3, HK3⟩
        case measure => simp [intOf]; omega
      · have HJ3 : Hid (Jx (k + 1) W3) := hJx3
        clear hJx3 eW4 hy2
        gi_wp2
        refine bodyPost_ret (results_none rfl _ _ _) rfl ?_
        exact ⟨⟨_, rfl⟩, .inr ⟨_, HJl.out, HJ3.out⟩⟩
    · have HE : Hid (J D.length wr) := by
        have := HJr.out.1
        obtain rfl : k = D.length := by omega
        exact this
      gi_wp2
      go_end0
      exact ⟨⟨_, rfl⟩, .inl HE.out⟩
/-- The iterator, wherever it is gone over. -/
theorem each_seq (n : Nat) (hn : 2 ≤ n) (B1 c : Nat) (S : Nat → Prop) (a : Option Addr) (D : List Sl) (w : World) (hS1 : S B1) (hSl : ∀ k, S k → k < w.heap.size) (hB1 : w.cell? ⟨B1, 0, none⟩ = some (.slice a D.length c)) (hR : LsE slCells 4 S w (.slice a D.length c) D) (hl : D.length ≤ 16384) :
    SeqOf n Try.prog 19 #[.pointer (some ⟨B1, 0, none⟩)] encL (KeepsS S) D w := fun l J Jx W hW hJ _ hY h0 =>
  have hk : KeepsS S w W := KeepsS.of_below hW hSl
  each1_in n hn l B1 c S a D J Jx W hS1 (fun k h => Nat.lt_of_lt_of_le (hSl k h) hW.size) ((hk.cell (p := ⟨B1, 0, none⟩) hS1).trans hB1) (hR.keep hk) hl hJ hY h0

end Go.Proofs.Ytfgkdbidgbpobaa
