/- drop, makeNode. -/
import Derived.Test.YtccpljllgpabnabPaF
namespace Go.Proofs.Ytccpljllgpabnab
open Go.RowKit
set_option linter.unusedVariables false
set_option linter.unusedSimpArgs false

section
variable {B wb bm bh top : Nat} {tp : Option Nat} {X : Nat → Prop} {g : Gr} {D : List (St × Nat)} {T : VT} {H : List VT} {w W W' : World}
theorem PwM.mapB (h : PwM B wb bm bh tp X g D W) (hg : W.grownBy W' (some bm)) : Below B W W' := ⟨hg.os, hg.tape, hg.output, hg.size, fun k hk => hg.block k (Nat.lt_of_lt_of_le hk h.le) fun e => by cases e; have := h.lo.2.1; omega⟩
theorem PwM.mapN (h : PwM B wb bm bh tp X g D W) {k : Nat} {cs : Array Value} {t : TypeId} (hk : W.heap[k]? = some (.cells cs t)) : k ≠ bm := fun e => by
  obtain ⟨es, cl, h2, _⟩ := h.mp
  rw [e, h2] at hk
  cases hk
theorem PwM.delNode (h : PwM B wb bm bh tp X g D W) {c j : Nat} (hg : W.grownBy W' (some bm)) (hm : MapIs Prod.fst (fun e => ptr (some e.2)) W' bm (D.eraseIdx j)) : PwM B wb bm bh tp (fun b => X b ∧ b ≠ c) g (D.eraseIdx j) W' := by
  have hk : ∀ k, k < W.heap.size → k ≠ bm → W'.heap[k]? = W.heap[k]? := fun k hk hne => hg.block k hk fun e => hne (by cases e; rfl)
  exact ⟨(hk _ (row_lt h.wr) h.wm).trans h.wr, hm, fun b hb => (hk _ (h.mem.lt hb.1) fun e => h.mX (e ▸ hb.1)).trans (h.mem b hb.1), fun b hb => OwnE.keep (h.at_ b hb.1) fun k e => hk k (OwnE.lt (h.at_ b hb.1) k e).2 (h.aT hb.1 e).2.2, fun b c k hb hc => h.ap b c k hb.1 hc.1, h.lo.1, h.lo.2.1, fun b hb => h.lo.2.2 b hb.1⟩
theorem HeldI.dropP {k : St} {c : Nat} {y : VT} (hi : HeldI bh X g D T H k c y) (h : PwP bh X g D [T] [top] H) (hy : y.ks = []) (j : Nat) (hj : D[j]? = some (k, c)) : PwP bh (fun b => X b ∧ b ≠ c) (unl g bh c) (D.eraseIdx j) [T] [top] (cutL k H) := by
  have e := hi.yk
  have h1 := h.unl h.xh hi.mem hi.rt (.inr (by rw [e]; exact hi.fl))
  rw [e, cutL, if_neg (fun e2 => hi.nt (by rw [keysV_eq, e2]; exact List.mem_cons_self ..)), cutL, cutV_off k T fun e2 => hi.nt (by rw [keysV_eq]; exact List.mem_cons_of_mem _ e2)] at h1
  exact PwP.remove (Lo := [T]) (lb := [top]) h1 rfl hy (by rw [e]; exact hj)
theorem addG_no (h : Lnk X g) {n : Nat} (hn : ¬ X n) (f : Nf) (a : Value) : ∀ q, (X q ∨ q = n) → n ∉ (addG g n f a).C q := fun q hq hm => by
  rcases hq with hq | rfl
  · have e : (addG g n f a).C q = g.C q := updF_ne _ _ fun (e : q = n) => hn (by rw [← e]; exact hq)
    rw [e] at hm
    exact hn (h.mem q n hq hm)
  · have e : (addG g q f a).C q = [] := updF_same _ _ _
    rw [e] at hm
    simp at hm
end

set_option maxRecDepth 100000 in
set_option maxHeartbeats 4000000 in
theorem drop_s {B wb bm bh top : Nat} {X : Nat → Prop} {g : Gr} {D : List (St × Nat)} {T : VT} {H : List VT} (p : Pa) (w : World) (h : PwM B wb bm bh (some top) X g D w) (hp : PwP bh X g D [T] [top] H) (hkd : p.kd = 2) :
    Calls Try.prog 31 #[.pointer (some ⟨wb, 0, none⟩), paV p] w fun e w' => StpP B wb bm bh top (stepU p T H) e w' ∧ BelT B w w' := by
  have HPp := hide9 hp
  have HKd := hide9 hkd
  clear hp hkd
  have hbx : Below w.heap.size w (w.alloc (.cells #[.int .i64 p.kd, .int .i64 p.k.1, .int .i64 p.k.2, .int .i64 p.pa.1, .int .i64 p.pa.2, .int .i64 p.af.1, .int .i64 p.af.2, .string p.nm, .string p.vl] 42)) := (Below.refl _ _).alloc (Nat.le_refl _) _
  have HB : Hid (BelT B w (w.alloc (.cells #[.int .i64 p.kd, .int .i64 p.k.1, .int .i64 p.k.2, .int .i64 p.pa.1, .int .i64 p.pa.2, .int .i64 p.af.1, .int .i64 p.af.2, .string p.nm, .string p.vl] 42))) := BelT.of hbx h.le
  have HP : Hid (PwM B wb bm bh (some top) X g D (w.alloc (.cells #[.int .i64 p.kd, .int .i64 p.k.1, .int .i64 p.k.2, .int .i64 p.pa.1, .int .i64 p.pa.2, .int .i64 p.af.1, .int .i64 p.af.2, .string p.nm, .string p.vl] 42))) := h.below hbx
  have HK : Hid ((w.alloc (.cells #[.int .i64 p.kd, .int .i64 p.k.1, .int .i64 p.k.2, .int .i64 p.pa.1, .int .i64 p.pa.2, .int .i64 p.af.1, .int .i64 p.af.2, .string p.nm, .string p.vl] 42)).heap[w.heap.size]? = some (.cells #[.int .i64 p.kd, .int .i64 p.k.1, .int .i64 p.k.2, .int .i64 p.pa.1, .int .i64 p.pa.2, .int .i64 p.af.1, .int .i64 p.af.2, .string p.nm, .string p.vl] 42)) := heap_alloc_new _ _
  clear hbx h
  show Calls Try.prog 31 #[.pointer (some ⟨wb, 0, none⟩), .agg #[.int .i64 p.kd, .int .i64 p.k.1, .int .i64 p.k.2, .int .i64 p.pa.1, .int .i64 p.pa.2, .int .i64 p.af.1, .int .i64 p.af.2, .string p.nm, .string p.vl]] w _
  go_enter Try.func31, Try.ntmps31
  go_upto_region 2 with (go_at_call 51; refine (held_s HP.out HPp.out p.k).mono ?_; rintro e w1 ⟨⟨v, rfl, hq⟩, hb⟩)
  replace HB : Hid (BelT B w w1) := HB.out.trans (BelT.of hb HP.out.le)
  replace HK : Hid (w1.heap[w.heap.size]? = some (.cells #[.int .i64 p.kd, .int .i64 p.k.1, .int .i64 p.k.2, .int .i64 p.pa.1, .int .i64 p.pa.2, .int .i64 p.af.1, .int .i64 p.af.2, .string p.nm, .string p.vl] 42)) := (hb.block _ (row_lt HK.out)).trans HK.out
  replace HP : Hid (PwM B wb bm bh (some top) X g D w1) := HP.out.below hb
  clear hb
  obtain ⟨kb, ekb⟩ : ∃ b, b = w.heap.size := ⟨_, rfl⟩
  rw [← ekb] at HK ⊢
  clear ekb
  rcases hq with ⟨rfl, hno⟩ | ⟨c, y, rfl, hi⟩
  · have HSt : Hid (stepU p T H = (4, T, H)) := hide9 (by unfold stepU; rw [if_neg (by rw [HKd.out]; decide), if_pos HKd.out, hno])
    go_wp2
    (try rw [Exit.noGoto_ret])
    go_ret
    refine ⟨?_, HB.out⟩
    rw [HSt.out]
    exact StpP.err (by decide)
  · have HI := hide9 hi
    clear hi
    cases hfs : g.fs c with
    | some z =>
      have u9 : w1.cell? ⟨c, 9, none⟩ = some (.pointer (some ⟨z, 0, none⟩)) := (by have h9 := HP.out.mem.cfs HI.out.cx.1; rw [hfs] at h9; exact h9)
      have HSt : Hid (stepU p T H = (7, T, H)) := hide9 (by have h1 := HPp.out.lk.fst c HI.out.cx.1; rw [hfs] at h1; have h2 := RtL.len (Rt_iff.1 HI.out.rt).2; unfold stepU; rw [if_neg (by rw [HKd.out]; decide), if_pos HKd.out, HI.out.hp]; dsimp only; rw [if_neg (fun e => by rw [e] at h2; rw [List.eq_nil_of_length_eq_zero h2] at h1; cases h1)])
      clear hfs
      go_wp2
      (try rw [Exit.noGoto_ret])
      go_ret
      refine ⟨?_, HB.out⟩
      rw [HSt.out]
      exact StpP.err (by decide)
    | none =>
      have u9 : w1.cell? ⟨c, 9, none⟩ = some (.pointer none) := (by have h9 := HP.out.mem.cfs HI.out.cx.1; rw [hfs] at h9; exact h9)
      have HKs : Hid (y.ks = []) := hide9 (by have h1 := HPp.out.lk.fst c HI.out.cx.1; rw [hfs] at h1; have h2 := RtL.len (Rt_iff.1 HI.out.rt).2; exact List.eq_nil_of_length_eq_zero (by rw [← h2]; cases hC : g.C c with | nil => rfl | cons a l => rw [hC] at h1; cases h1))
      have HSt : Hid (stepU p T H = (0, T, cutL p.k H)) := hide9 (by unfold stepU; rw [if_neg (by rw [HKd.out]; decide), if_pos HKd.out, HI.out.hp]; dsimp only; rw [if_pos HKs.out])
      clear hfs
      have HQ : Hid (∀ j, D[j]? = some (p.k, c) → PwP bh (fun b => X b ∧ b ≠ c) (unl g bh c) (D.eraseIdx j) [T] [top] (cutL p.k H)) := HI.out.dropP HPp.out HKs.out
      go_wp2_with (go_at_call 50; refine (unlink_s HP.out HPp.out.lk HPp.out.xh HI.out.mem).mono ?_; rintro e w2 ⟨⟨v, rfl⟩, hg, ht⟩)
      replace HB : Hid (BelT B w w2) := HB.out.trans (HP.out.touchT ht)
      replace HK : Hid (w2.heap[kb]? = some (.cells #[.int .i64 p.kd, .int .i64 p.k.1, .int .i64 p.k.2, .int .i64 p.pa.1, .int .i64 p.pa.2, .int .i64 p.af.1, .int .i64 p.af.2, .string p.nm, .string p.vl] 42)) := HP.out.row ht HK.out (by decide)
      replace HP : Hid (PwM B wb bm bh (some top) X (unl g bh c) D w2) := hg
      clear hg ht
      refine wp_region_held_drew (S := fun W' => W'.cell? ⟨wb, 0, none⟩ = some (.map (some bm)) ∧ W'.heap[kb]? = some (.cells #[.int .i64 p.kd, .int .i64 p.k.1, .int .i64 p.k.2, .int .i64 p.pa.1, .int .i64 p.pa.2, .int .i64 p.af.1, .int .i64 p.af.2, .string p.nm, .string p.vl] 42)) (by kernel_rfl) ⟨HP.out.drew.c0, HK.out⟩ (fun hHeld => ?_)
      obtain ⟨Ud71u0, eW⟩ : ∃ X, X = w2.drew := ⟨_, rfl⟩
      have hb : Below w2.heap.size w2 Ud71u0 := by rw [eW]; exact (Below.refl _ _).drew
      replace HB : Hid (BelT B w Ud71u0) := HB.out.trans (BelT.of hb HP.out.le)
      replace HP : Hid (PwM B wb bm bh (some top) X (unl g bh c) D Ud71u0) := HP.out.below hb
      replace HK : Hid (Ud71u0.heap[kb]? = some (.cells #[.int .i64 p.kd, .int .i64 p.k.1, .int .i64 p.k.2, .int .i64 p.pa.1, .int .i64 p.pa.2, .int .i64 p.af.1, .int .i64 p.af.2, .string p.nm, .string p.vl] 42)) := (hb.block _ (row_lt HK.out)).trans HK.out
      rw [← eW] at hHeld ⊢
      clear eW hb
      refine tkW 0 (some 19) (v := ?_) ?_ hHeld ?_
      rotate_left
      · (intro ww _; go_simp; try with_reducible rfl)
      refine tkW 1 (some 20) (v := ?_) ?_ hHeld ?_
      rotate_left
      · (intro ww hSw; (try dsimp only at hSw); obtain ⟨c0, hK⟩ := hSw; have b1 : ww.cell? ⟨kb, 1, none⟩ = some (.int .i64 p.k.1) := (by rw [cell_of_row ww kb 1 _ _ _ hK]; rfl); have b2 : ww.cell? ⟨kb, 2, none⟩ = some (.int .i64 p.k.2) := (by rw [cell_of_row ww kb 2 _ _ _ hK]; rfl); go_simp; try with_reducible rfl)
      refine tkW 2 (some 21) (v := ?_) ?_ hHeld ?_
      rotate_left
      · (intro ww _; go_simp; try with_reducible rfl)
      refine tkW 3 (some 22) (v := ?_) ?_ hHeld ?_
      rotate_left
      · (intro ww hSw; (try dsimp only at hSw); obtain ⟨c0, hK⟩ := hSw; have b1 : ww.cell? ⟨kb, 1, none⟩ = some (.int .i64 p.k.1) := (by rw [cell_of_row ww kb 1 _ _ _ hK]; rfl); have b2 : ww.cell? ⟨kb, 2, none⟩ = some (.int .i64 p.k.2) := (by rw [cell_of_row ww kb 2 _ _ _ hK]; rfl); go_simp; try with_reducible rfl)
      refine tkW 4 (some 23) (v := ?_) ?_ hHeld ?_
      rotate_left
      · (intro ww _; go_simp; try with_reducible rfl)
      refine tkW 5 (some 24) (v := ?_) ?_ hHeld ?_
      rotate_left
      · (intro ww hSw; (try dsimp only at hSw); obtain ⟨c0, hK⟩ := hSw; have b1 : ww.cell? ⟨kb, 1, none⟩ = some (.int .i64 p.k.1) := (by rw [cell_of_row ww kb 1 _ _ _ hK]; rfl); have b2 : ww.cell? ⟨kb, 2, none⟩ = some (.int .i64 p.k.2) := (by rw [cell_of_row ww kb 2 _ _ _ hK]; rfl); go_simp; try with_reducible rfl)
      refine wpAnyH_ready (rs := [6]) (by kernel_rfl) (by simp) ?_
      refine AllReadyH.cons (o := ⟨none, _, _, _, _, _⟩) rfl (fun K hK => ?_) AllReadyH.nil
      obtain ⟨Ud71u1, hst, hg, hz, hM⟩ := drop_st 52 49 uNodes HP.out.mp p.k 0 23
      have hst2 : (Builtin.delete_ #[52, 23] 0 #[.map (some bm), .agg #[.int .i64 p.k.1, .int .i64 p.k.2]]).run Try.prog Ud71u0 = .ok (.tuple #[]) Ud71u1 := hst
      have hM2 : ∃ j, D[j]? = some (p.k, c) ∧ MapIs Prod.fst (fun e => ptr (some e.2)) Ud71u1 bm (D.eraseIdx j) := (by rcases hM with ⟨h1, _⟩ | ⟨x, j, h1, h2, h3⟩; rw [HI.out.gp] at h1; cases h1; rw [HI.out.gp] at h1; injection h1 with h1; subst h1; exact ⟨j, h2, h3⟩)
      obtain ⟨j, hj, hM3⟩ := hM2
      have HJ := hide9 hj
      have HP2 : Hid (PwM B wb bm bh (some top) (fun b => X b ∧ b ≠ c) (unl g bh c) (D.eraseIdx j) Ud71u1) := HP.out.delNode hg hM3
      have HB2 : Hid (BelT B w Ud71u1) := HB.out.trans (HP.out.mapT hg)
      have hS1 : (fun W' => W'.cell? ⟨wb, 0, none⟩ = some (.map (some bm)) ∧ W'.heap[kb]? = some (.cells #[.int .i64 p.kd, .int .i64 p.k.1, .int .i64 p.k.2, .int .i64 p.pa.1, .int .i64 p.pa.2, .int .i64 p.af.1, .int .i64 p.af.2, .string p.nm, .string p.vl] 42)) Ud71u1 := ⟨HP2.out.c0, (hg.block _ (row_lt HK.out) (fun e => HP.out.mapN HK.out (by cases e; rfl))).trans HK.out⟩
      clear hst hM hM3 hj
      go_simp
      refine hK.out _ _ (hS1) (fun hHeld2 => ?_)
      clear hK K hHeld
      have hHeld := hHeld2
      clear hHeld2
      (try simp only [Act.put, List.setIfInBounds_toArray, List.set_cons_zero, List.set_cons_succ])
      clear hst2 hg hz hS1 HP HB HK
      refine wpAnyH_done (by kernel_rfl) ?_ _
      clear hHeld
      go_wp2
      (try rw [Exit.noGoto_ret])
      go_ret
      refine ⟨?_, HB2.out⟩
      rw [HSt.out]
      refine StpP.ok ⟨HP2.out, ?_⟩
      exact HQ.out j HJ.out

theorem PwP.hasKey {bh top : Nat} {X : Nat → Prop} {g : Gr} {D : List (St × Nat)} {T : VT} {H : List VT} (h : PwP bh X g D [T] [top] H) {k : St} (hk : k ∈ keysV T ++ keysL H) : ∃ c, getP Prod.fst D k = some (k, c) := by
  rw [List.mem_append] at hk
  rcases h.look k with ⟨h1, h2, _⟩ | ⟨y, c, m, e1, e2, e3, e4, e5, e6, e7⟩ | ⟨y, c, m, r, e1, e2, e3, e4, e5, e6, e7, e8⟩
  · exact (hk.elim h1 h2).elim
  · exact ⟨c, e7⟩
  · exact ⟨c, e8⟩

set_option maxRecDepth 100000 in
set_option maxHeartbeats 4000000 in
theorem make_s {B wb bm bh top : Nat} {X : Nat → Prop} {g : Gr} {D : List (St × Nat)} {T : VT} {H : List VT} (p : Pa) (w : World) (h : PwM B wb bm bh (some top) X g D w) (hp : PwP bh X g D [T] [top] H) (hkd : p.kd = 3) :
    Calls Try.prog 32 #[.pointer (some ⟨wb, 0, none⟩), paV p] w fun e w' => StpP B wb bm bh top (stepU p T H) e w' ∧ BelT B w w' := by
  have HPp := hide9 hp
  have HKd := hide9 hkd
  clear hp hkd
  by_cases hkm : p.k ∈ keysV T ++ keysL H
  · have HKm := hide9 hkm
    obtain ⟨c, he⟩ := HPp.out.hasKey HKm.out
    have HE := hide9 he
    clear he hkm
    have hbx : Below w.heap.size w (w.alloc (.cells #[.int .i64 p.kd, .int .i64 p.k.1, .int .i64 p.k.2, .int .i64 p.pa.1, .int .i64 p.pa.2, .int .i64 p.af.1, .int .i64 p.af.2, .string p.nm, .string p.vl] 42)) := (Below.refl _ _).alloc (Nat.le_refl _) _
    have HB : Hid (BelT B w (w.alloc (.cells #[.int .i64 p.kd, .int .i64 p.k.1, .int .i64 p.k.2, .int .i64 p.pa.1, .int .i64 p.pa.2, .int .i64 p.af.1, .int .i64 p.af.2, .string p.nm, .string p.vl] 42))) := BelT.of hbx h.le
    have HP : Hid (PwM B wb bm bh (some top) X g D (w.alloc (.cells #[.int .i64 p.kd, .int .i64 p.k.1, .int .i64 p.k.2, .int .i64 p.pa.1, .int .i64 p.pa.2, .int .i64 p.af.1, .int .i64 p.af.2, .string p.nm, .string p.vl] 42))) := h.below hbx
    have HK : Hid ((w.alloc (.cells #[.int .i64 p.kd, .int .i64 p.k.1, .int .i64 p.k.2, .int .i64 p.pa.1, .int .i64 p.pa.2, .int .i64 p.af.1, .int .i64 p.af.2, .string p.nm, .string p.vl] 42)).heap[w.heap.size]? = some (.cells #[.int .i64 p.kd, .int .i64 p.k.1, .int .i64 p.k.2, .int .i64 p.pa.1, .int .i64 p.pa.2, .int .i64 p.af.1, .int .i64 p.af.2, .string p.nm, .string p.vl] 42)) := heap_alloc_new _ _
    clear hbx h
    show Calls Try.prog 32 #[.pointer (some ⟨wb, 0, none⟩), .agg #[.int .i64 p.kd, .int .i64 p.k.1, .int .i64 p.k.2, .int .i64 p.pa.1, .int .i64 p.pa.2, .int .i64 p.af.1, .int .i64 p.af.2, .string p.nm, .string p.vl]] w _
    go_enter Try.func32, Try.ntmps32
    go_wp2
    obtain ⟨W0, eW0⟩ : ∃ X, X = (w.alloc (.cells #[.int .i64 p.kd, .int .i64 p.k.1, .int .i64 p.k.2, .int .i64 p.pa.1, .int .i64 p.pa.2, .int .i64 p.af.1, .int .i64 p.af.2, .string p.nm, .string p.vl] 42)) := ⟨_, rfl⟩
    rw [← eW0] at HB HP HK ⊢
    obtain ⟨kb, ekb⟩ : ∃ b, b = w.heap.size := ⟨_, rfl⟩
    rw [← ekb] at HK ⊢
    clear eW0 ekb
    refine wp_region_held_drew (S := fun W' => PwM B wb bm bh (some top) X g D W' ∧ W'.heap[kb]? = some (.cells #[.int .i64 p.kd, .int .i64 p.k.1, .int .i64 p.k.2, .int .i64 p.pa.1, .int .i64 p.pa.2, .int .i64 p.af.1, .int .i64 p.af.2, .string p.nm, .string p.vl] 42)) (by kernel_rfl) ⟨HP.out.drew, HK.out⟩ (fun hHeld => ?_)
    obtain ⟨Um1True2u0, eW⟩ : ∃ X, X = W0.drew := ⟨_, rfl⟩
    have hb : Below W0.heap.size W0 Um1True2u0 := by rw [eW]; exact (Below.refl _ _).drew
    replace HB : Hid (BelT B w Um1True2u0) := HB.out.trans (BelT.of hb HP.out.le)
    replace HP : Hid (PwM B wb bm bh (some top) X g D Um1True2u0) := HP.out.below hb
    replace HK : Hid (Um1True2u0.heap[kb]? = some (.cells #[.int .i64 p.kd, .int .i64 p.k.1, .int .i64 p.k.2, .int .i64 p.pa.1, .int .i64 p.pa.2, .int .i64 p.af.1, .int .i64 p.af.2, .string p.nm, .string p.vl] 42)) := (hb.block _ (row_lt HK.out)).trans HK.out
    rw [← eW] at hHeld ⊢
    clear eW hb
    refine tkW 0 (some 6) (v := ?_) ?_ hHeld ?_
    rotate_left
    · (intro ww _; go_simp; try with_reducible rfl)
    refine tkW 1 (some 7) (v := ?_) ?_ hHeld ?_
    rotate_left
    · (intro ww hSw; (try dsimp only at hSw); obtain ⟨hP, hK⟩ := hSw; have c0 := hP.c0; have b1 : ww.cell? ⟨kb, 1, none⟩ = some (.int .i64 p.k.1) := (by rw [cell_of_row ww kb 1 _ _ _ hK]; rfl); have b2 : ww.cell? ⟨kb, 2, none⟩ = some (.int .i64 p.k.2) := (by rw [cell_of_row ww kb 2 _ _ _ hK]; rfl); have hlk := hP.lookS HE.out; go_simp; try with_reducible rfl)
    refine tkW 2 (some 8) (v := ?_) ?_ hHeld ?_
    rotate_left
    · (intro ww _; go_simp; try with_reducible rfl)
    refine tkW 3 (some 9) (v := ?_) ?_ hHeld ?_
    rotate_left
    · (intro ww hSw; (try dsimp only at hSw); obtain ⟨hP, hK⟩ := hSw; have c0 := hP.c0; have b1 : ww.cell? ⟨kb, 1, none⟩ = some (.int .i64 p.k.1) := (by rw [cell_of_row ww kb 1 _ _ _ hK]; rfl); have b2 : ww.cell? ⟨kb, 2, none⟩ = some (.int .i64 p.k.2) := (by rw [cell_of_row ww kb 2 _ _ _ hK]; rfl); have hlk := hP.lookS HE.out; go_simp; try with_reducible rfl)
    refine tkW 4 (some 10) (v := ?_) ?_ hHeld ?_
    rotate_left
    · (intro ww _; go_simp; try with_reducible rfl)
    refine tkW 5 (some 11) (v := ?_) ?_ hHeld ?_
    rotate_left
    · (intro ww hSw; (try dsimp only at hSw); obtain ⟨hP, hK⟩ := hSw; have c0 := hP.c0; have b1 : ww.cell? ⟨kb, 1, none⟩ = some (.int .i64 p.k.1) := (by rw [cell_of_row ww kb 1 _ _ _ hK]; rfl); have b2 : ww.cell? ⟨kb, 2, none⟩ = some (.int .i64 p.k.2) := (by rw [cell_of_row ww kb 2 _ _ _ hK]; rfl); have hlk := hP.lookS HE.out; go_simp; try with_reducible rfl)
    refine tkW 6 (some 12) (v := ?_) ?_ hHeld ?_
    rotate_left
    · (intro ww hSw; (try dsimp only at hSw); obtain ⟨hP, hK⟩ := hSw; have c0 := hP.c0; have b1 : ww.cell? ⟨kb, 1, none⟩ = some (.int .i64 p.k.1) := (by rw [cell_of_row ww kb 1 _ _ _ hK]; rfl); have b2 : ww.cell? ⟨kb, 2, none⟩ = some (.int .i64 p.k.2) := (by rw [cell_of_row ww kb 2 _ _ _ hK]; rfl); have hlk := hP.lookS HE.out; go_simp; try with_reducible rfl)
    refine tkW 7 (some 13) (v := ?_) ?_ hHeld ?_
    rotate_left
    · (intro ww hSw; (try dsimp only at hSw); obtain ⟨hP, hK⟩ := hSw; have c0 := hP.c0; have b1 : ww.cell? ⟨kb, 1, none⟩ = some (.int .i64 p.k.1) := (by rw [cell_of_row ww kb 1 _ _ _ hK]; rfl); have b2 : ww.cell? ⟨kb, 2, none⟩ = some (.int .i64 p.k.2) := (by rw [cell_of_row ww kb 2 _ _ _ hK]; rfl); have hlk := hP.lookS HE.out; go_simp; try with_reducible rfl)
    refine wpAnyH_done (by kernel_rfl) ?_ _
    clear hHeld
    have HSt : Hid (stepU p T H = (5, T, H)) := hide9 (by unfold stepU; rw [if_neg (by rw [HKd.out]; decide), if_neg (by rw [HKd.out]; decide), if_pos HKd.out, if_pos HKm.out])
    go_wp2
    (try rw [Exit.noGoto_ret])
    go_ret
    refine ⟨?_, HB.out⟩
    rw [HSt.out]
    exact StpP.err (by decide)
  · have HKm := hide9 hkm
    have HE : Hid (getP Prod.fst D p.k = none) := HPp.out.absent (by simpa [keysL] using fun e => hkm (List.mem_append_left _ e)) (fun e => hkm (List.mem_append_right _ e))
    clear hkm
    have hbx : Below w.heap.size w (w.alloc (.cells #[.int .i64 p.kd, .int .i64 p.k.1, .int .i64 p.k.2, .int .i64 p.pa.1, .int .i64 p.pa.2, .int .i64 p.af.1, .int .i64 p.af.2, .string p.nm, .string p.vl] 42)) := (Below.refl _ _).alloc (Nat.le_refl _) _
    have HB : Hid (BelT B w (w.alloc (.cells #[.int .i64 p.kd, .int .i64 p.k.1, .int .i64 p.k.2, .int .i64 p.pa.1, .int .i64 p.pa.2, .int .i64 p.af.1, .int .i64 p.af.2, .string p.nm, .string p.vl] 42))) := BelT.of hbx h.le
    have HP : Hid (PwM B wb bm bh (some top) X g D (w.alloc (.cells #[.int .i64 p.kd, .int .i64 p.k.1, .int .i64 p.k.2, .int .i64 p.pa.1, .int .i64 p.pa.2, .int .i64 p.af.1, .int .i64 p.af.2, .string p.nm, .string p.vl] 42))) := h.below hbx
    have HK : Hid ((w.alloc (.cells #[.int .i64 p.kd, .int .i64 p.k.1, .int .i64 p.k.2, .int .i64 p.pa.1, .int .i64 p.pa.2, .int .i64 p.af.1, .int .i64 p.af.2, .string p.nm, .string p.vl] 42)).heap[w.heap.size]? = some (.cells #[.int .i64 p.kd, .int .i64 p.k.1, .int .i64 p.k.2, .int .i64 p.pa.1, .int .i64 p.pa.2, .int .i64 p.af.1, .int .i64 p.af.2, .string p.nm, .string p.vl] 42)) := heap_alloc_new _ _
    clear hbx h
    show Calls Try.prog 32 #[.pointer (some ⟨wb, 0, none⟩), .agg #[.int .i64 p.kd, .int .i64 p.k.1, .int .i64 p.k.2, .int .i64 p.pa.1, .int .i64 p.pa.2, .int .i64 p.af.1, .int .i64 p.af.2, .string p.nm, .string p.vl]] w _
    go_enter Try.func32, Try.ntmps32
    go_wp2
    obtain ⟨W0, eW0⟩ : ∃ X, X = (w.alloc (.cells #[.int .i64 p.kd, .int .i64 p.k.1, .int .i64 p.k.2, .int .i64 p.pa.1, .int .i64 p.pa.2, .int .i64 p.af.1, .int .i64 p.af.2, .string p.nm, .string p.vl] 42)) := ⟨_, rfl⟩
    rw [← eW0] at HB HP HK ⊢
    obtain ⟨kb, ekb⟩ : ∃ b, b = w.heap.size := ⟨_, rfl⟩
    rw [← ekb] at HK ⊢
    clear eW0 ekb
    refine wp_region_held_drew (S := fun W' => PwM B wb bm bh (some top) X g D W' ∧ W'.heap[kb]? = some (.cells #[.int .i64 p.kd, .int .i64 p.k.1, .int .i64 p.k.2, .int .i64 p.pa.1, .int .i64 p.pa.2, .int .i64 p.af.1, .int .i64 p.af.2, .string p.nm, .string p.vl] 42)) (by kernel_rfl) ⟨HP.out.drew, HK.out⟩ (fun hHeld => ?_)
    obtain ⟨Um1False3u0, eW⟩ : ∃ X, X = W0.drew := ⟨_, rfl⟩
    have hb : Below W0.heap.size W0 Um1False3u0 := by rw [eW]; exact (Below.refl _ _).drew
    replace HB : Hid (BelT B w Um1False3u0) := HB.out.trans (BelT.of hb HP.out.le)
    replace HP : Hid (PwM B wb bm bh (some top) X g D Um1False3u0) := HP.out.below hb
    replace HK : Hid (Um1False3u0.heap[kb]? = some (.cells #[.int .i64 p.kd, .int .i64 p.k.1, .int .i64 p.k.2, .int .i64 p.pa.1, .int .i64 p.pa.2, .int .i64 p.af.1, .int .i64 p.af.2, .string p.nm, .string p.vl] 42)) := (hb.block _ (row_lt HK.out)).trans HK.out
    rw [← eW] at hHeld ⊢
    clear eW hb
    refine tkW 0 (some 6) (v := ?_) ?_ hHeld ?_
    rotate_left
    · (intro ww _; go_simp; try with_reducible rfl)
    refine tkW 1 (some 7) (v := ?_) ?_ hHeld ?_
    rotate_left
    · (intro ww hSw; (try dsimp only at hSw); obtain ⟨hP, hK⟩ := hSw; have c0 := hP.c0; have b1 : ww.cell? ⟨kb, 1, none⟩ = some (.int .i64 p.k.1) := (by rw [cell_of_row ww kb 1 _ _ _ hK]; rfl); have b2 : ww.cell? ⟨kb, 2, none⟩ = some (.int .i64 p.k.2) := (by rw [cell_of_row ww kb 2 _ _ _ hK]; rfl); have hlk := hP.lookN HE.out; go_simp; try with_reducible rfl)
    refine tkW 2 (some 8) (v := ?_) ?_ hHeld ?_
    rotate_left
    · (intro ww _; go_simp; try with_reducible rfl)
    refine tkW 3 (some 9) (v := ?_) ?_ hHeld ?_
    rotate_left
    · (intro ww hSw; (try dsimp only at hSw); obtain ⟨hP, hK⟩ := hSw; have c0 := hP.c0; have b1 : ww.cell? ⟨kb, 1, none⟩ = some (.int .i64 p.k.1) := (by rw [cell_of_row ww kb 1 _ _ _ hK]; rfl); have b2 : ww.cell? ⟨kb, 2, none⟩ = some (.int .i64 p.k.2) := (by rw [cell_of_row ww kb 2 _ _ _ hK]; rfl); have hlk := hP.lookN HE.out; go_simp; try with_reducible rfl)
    refine tkW 4 (some 10) (v := ?_) ?_ hHeld ?_
    rotate_left
    · (intro ww _; go_simp; try with_reducible rfl)
    refine tkW 5 (some 11) (v := ?_) ?_ hHeld ?_
    rotate_left
    · (intro ww hSw; (try dsimp only at hSw); obtain ⟨hP, hK⟩ := hSw; have c0 := hP.c0; have b1 : ww.cell? ⟨kb, 1, none⟩ = some (.int .i64 p.k.1) := (by rw [cell_of_row ww kb 1 _ _ _ hK]; rfl); have b2 : ww.cell? ⟨kb, 2, none⟩ = some (.int .i64 p.k.2) := (by rw [cell_of_row ww kb 2 _ _ _ hK]; rfl); have hlk := hP.lookN HE.out; go_simp; try with_reducible rfl)
    refine tkW 6 (some 12) (v := ?_) ?_ hHeld ?_
    rotate_left
    · (intro ww hSw; (try dsimp only at hSw); obtain ⟨hP, hK⟩ := hSw; have c0 := hP.c0; have b1 : ww.cell? ⟨kb, 1, none⟩ = some (.int .i64 p.k.1) := (by rw [cell_of_row ww kb 1 _ _ _ hK]; rfl); have b2 : ww.cell? ⟨kb, 2, none⟩ = some (.int .i64 p.k.2) := (by rw [cell_of_row ww kb 2 _ _ _ hK]; rfl); have hlk := hP.lookN HE.out; go_simp; try with_reducible rfl)
    refine tkW 7 (some 13) (v := ?_) ?_ hHeld ?_
    rotate_left
    · (intro ww hSw; (try dsimp only at hSw); obtain ⟨hP, hK⟩ := hSw; have c0 := hP.c0; have b1 : ww.cell? ⟨kb, 1, none⟩ = some (.int .i64 p.k.1) := (by rw [cell_of_row ww kb 1 _ _ _ hK]; rfl); have b2 : ww.cell? ⟨kb, 2, none⟩ = some (.int .i64 p.k.2) := (by rw [cell_of_row ww kb 2 _ _ _ hK]; rfl); have hlk := hP.lookN HE.out; go_simp; try with_reducible rfl)
    refine wpAnyH_done (by kernel_rfl) ?_ _
    clear hHeld
    have c0 := HP.out.c0
    have hln := len_nodes HP.out.mp
    have hDl := HPp.out.len
    have hsz : szs [T] = T.sz := by simp [szs]
    rw [hsz] at hDl
    clear hsz
    by_cases hfu : D.length = 8192
    · have hd : ((D.length : Int) == 8192) = true := by rw [hfu]; rfl
      have HSt : Hid (stepU p T H = (6, T, H)) := hide9 (by unfold stepU; rw [if_neg (by rw [HKd.out]; decide), if_neg (by rw [HKd.out]; decide), if_pos HKd.out, if_neg HKm.out, if_pos (by omega)])
      clear hfu hDl
      go_wp2
      (try rw [Exit.noGoto_ret])
      go_ret
      refine ⟨?_, HB.out⟩
      rw [HSt.out]
      exact StpP.err (by decide)
    · have hd : ((D.length : Int) == 8192) = false := by simpa using (fun e : (D.length : Int) = 8192 => hfu (by omega))
      have HSt : Hid (stepU p T H = (0, T, .node p.k p.nm ⟨#[]⟩ [] [] :: H)) := hide9 (by unfold stepU; rw [if_neg (by rw [HKd.out]; decide), if_neg (by rw [HKd.out]; decide), if_pos HKd.out, if_neg HKm.out, if_neg (by omega)])
      clear hfu hDl
      have b1 : Um1False3u0.cell? ⟨kb, 1, none⟩ = some (.int .i64 p.k.1) := (by rw [cell_of_row Um1False3u0 kb 1 _ _ _ HK.out]; rfl)
      have b2 : Um1False3u0.cell? ⟨kb, 2, none⟩ = some (.int .i64 p.k.2) := (by rw [cell_of_row Um1False3u0 kb 2 _ _ _ HK.out]; rfl)
      have b7 : Um1False3u0.cell? ⟨kb, 7, none⟩ = some (.string p.nm) := (by rw [cell_of_row Um1False3u0 kb 7 _ _ _ HK.out]; rfl)
      go_wp2
      clear b1 b2 b7 c0 hln
      obtain ⟨W5, eW5⟩ : ∃ Y, Y = (Um1False3u0.alloc (.cells #[.int .i64 p.k.1, .int .i64 p.k.2, .string p.nm, .string ⟨#[]⟩, .slice none 0 0, .slice none 0 0, .pointer none, .pointer none, .pointer none, .pointer none] 51)) := ⟨_, rfl⟩
      have hb : Below Um1False3u0.heap.size Um1False3u0 W5 := by rw [eW5]; exact (Below.refl _ _).alloc (Nat.le_refl _) _
      have HN : Hid (W5.heap[Um1False3u0.heap.size]? = some (.cells #[.int .i64 p.k.1, .int .i64 p.k.2, .string p.nm, .string ⟨#[]⟩, .slice none 0 0, .slice none 0 0, .pointer none, .pointer none, .pointer none, .pointer none] 51)) := by rw [eW5]; exact heap_alloc_new _ _
      have HNx : Hid (¬ X Um1False3u0.heap.size ∧ B ≤ Um1False3u0.heap.size) := ⟨fun hx => absurd (HP.out.mem.lt hx) (Nat.lt_irrefl _), HP.out.le⟩
      replace HB : Hid (BelT B w W5) := HB.out.trans (BelT.of hb HP.out.le)
      replace HP : Hid (PwM B wb bm bh (some top) X g D W5) := HP.out.below hb
      replace HK : Hid (W5.heap[kb]? = some (.cells #[.int .i64 p.kd, .int .i64 p.k.1, .int .i64 p.k.2, .int .i64 p.pa.1, .int .i64 p.pa.2, .int .i64 p.af.1, .int .i64 p.af.2, .string p.nm, .string p.vl] 42)) := (hb.block _ (row_lt HK.out)).trans HK.out
      rw [← eW5]
      clear eW5 hb
      obtain ⟨nb, enb⟩ : ∃ b, b = Um1False3u0.heap.size := ⟨_, rfl⟩
      rw [← enb] at HN HNx ⊢
      clear enb
      refine wp_region_held_drew (S := fun W' => W'.cell? ⟨wb, 0, none⟩ = some (.map (some bm)) ∧ W'.heap[kb]? = some (.cells #[.int .i64 p.kd, .int .i64 p.k.1, .int .i64 p.k.2, .int .i64 p.pa.1, .int .i64 p.pa.2, .int .i64 p.af.1, .int .i64 p.af.2, .string p.nm, .string p.vl] 42)) (by kernel_rfl) ⟨HP.out.drew.c0, HK.out⟩ (fun hHeld => ?_)
      obtain ⟨Um64u0, eW⟩ : ∃ X, X = W5.drew := ⟨_, rfl⟩
      have hb : Below W5.heap.size W5 Um64u0 := by rw [eW]; exact (Below.refl _ _).drew
      replace HB : Hid (BelT B w Um64u0) := HB.out.trans (BelT.of hb HP.out.le)
      replace HP : Hid (PwM B wb bm bh (some top) X g D Um64u0) := HP.out.below hb
      replace HK : Hid (Um64u0.heap[kb]? = some (.cells #[.int .i64 p.kd, .int .i64 p.k.1, .int .i64 p.k.2, .int .i64 p.pa.1, .int .i64 p.pa.2, .int .i64 p.af.1, .int .i64 p.af.2, .string p.nm, .string p.vl] 42)) := (hb.block _ (row_lt HK.out)).trans HK.out
      replace HN : Hid (Um64u0.heap[nb]? = some (.cells #[.int .i64 p.k.1, .int .i64 p.k.2, .string p.nm, .string ⟨#[]⟩, .slice none 0 0, .slice none 0 0, .pointer none, .pointer none, .pointer none, .pointer none] 51)) := (hb.block _ (row_lt HN.out)).trans HN.out
      rw [← eW] at hHeld ⊢
      clear eW hb
      refine tkW 0 (some 27) (v := ?_) ?_ hHeld ?_
      rotate_left
      · (intro ww _; go_simp; try with_reducible rfl)
      refine tkW 1 (some 28) (v := ?_) ?_ hHeld ?_
      rotate_left
      · (intro ww hSw; (try dsimp only at hSw); obtain ⟨c0, hK⟩ := hSw; have b1 : ww.cell? ⟨kb, 1, none⟩ = some (.int .i64 p.k.1) := (by rw [cell_of_row ww kb 1 _ _ _ hK]; rfl); have b2 : ww.cell? ⟨kb, 2, none⟩ = some (.int .i64 p.k.2) := (by rw [cell_of_row ww kb 2 _ _ _ hK]; rfl); go_simp; try with_reducible rfl)
      refine tkW 2 (some 29) (v := ?_) ?_ hHeld ?_
      rotate_left
      · (intro ww _; go_simp; try with_reducible rfl)
      refine tkW 3 (some 30) (v := ?_) ?_ hHeld ?_
      rotate_left
      · (intro ww hSw; (try dsimp only at hSw); obtain ⟨c0, hK⟩ := hSw; have b1 : ww.cell? ⟨kb, 1, none⟩ = some (.int .i64 p.k.1) := (by rw [cell_of_row ww kb 1 _ _ _ hK]; rfl); have b2 : ww.cell? ⟨kb, 2, none⟩ = some (.int .i64 p.k.2) := (by rw [cell_of_row ww kb 2 _ _ _ hK]; rfl); go_simp; try with_reducible rfl)
      refine tkW 4 (some 31) (v := ?_) ?_ hHeld ?_
      rotate_left
      · (intro ww _; go_simp; try with_reducible rfl)
      refine tkW 5 (some 32) (v := ?_) ?_ hHeld ?_
      rotate_left
      · (intro ww hSw; (try dsimp only at hSw); obtain ⟨c0, hK⟩ := hSw; have b1 : ww.cell? ⟨kb, 1, none⟩ = some (.int .i64 p.k.1) := (by rw [cell_of_row ww kb 1 _ _ _ hK]; rfl); have b2 : ww.cell? ⟨kb, 2, none⟩ = some (.int .i64 p.k.2) := (by rw [cell_of_row ww kb 2 _ _ _ hK]; rfl); go_simp; try with_reducible rfl)
      refine tkW 6 (some 33) (v := ?_) ?_ hHeld ?_
      rotate_left
      · (intro ww _; go_simp; try with_reducible rfl)
      refine wpAnyH_ready (rs := [7]) (by kernel_rfl) (by simp) ?_
      refine AllReadyH.cons (o := ⟨none, _, _, _, _, _⟩) rfl (fun K hK => ?_) AllReadyH.nil
      obtain ⟨Um64u1, hst, hg, hz, hM⟩ := store_st 52 49 uNodes HP.out.mp (p.k, nb)
      have hst2 : (Instr.mapUpdate 52 (.map (some bm)) (.agg #[.int .i64 p.k.1, .int .i64 p.k.2]) (.pointer (some ⟨nb, 0, none⟩))).run Try.prog Um64u0 = .ok () Um64u1 := hst
      have hM2 : MapIs Prod.fst (fun e => ptr (some e.2)) Um64u1 bm (D ++ [(p.k, nb)]) := (by rcases hM with ⟨_, h1⟩ | ⟨x, j, h1, _⟩; exact h1; dsimp only at h1; rw [HE.out] at h1; cases h1)
      have HP2 : Hid (PwM B wb bm bh (some top) (fun b => X b ∨ b = nb) (addG g nb (⟨p.k, p.nm, ⟨#[]⟩, []⟩ : Nf) (.slice none 0 0)) (D ++ [(p.k, nb)]) Um64u1) := HP.out.addNode (f := (⟨p.k, p.nm, ⟨#[]⟩, []⟩ : Nf)) (a := .slice none 0 0) (by rw [HN.out]; simp [gRow, addG, updF_same, ptr]) HNx.out.1 HNx.out.2 (OwnE.nil0 _ _) (fun b k _ _ e => by cases e) (fun k e => by cases e) hg hM2
      have HB2 : Hid (BelT B w Um64u1) := HB.out.trans (HP.out.mapT hg)
      have hS1 : (fun W' => W'.cell? ⟨wb, 0, none⟩ = some (.map (some bm)) ∧ W'.heap[kb]? = some (.cells #[.int .i64 p.kd, .int .i64 p.k.1, .int .i64 p.k.2, .int .i64 p.pa.1, .int .i64 p.pa.2, .int .i64 p.af.1, .int .i64 p.af.2, .string p.nm, .string p.vl] 42)) Um64u1 := ⟨HP2.out.c0, (hg.block _ (row_lt HK.out) (fun e => HP.out.mapN HK.out (by cases e; rfl))).trans HK.out⟩
      have HK2 : Hid (Um64u1.heap[kb]? = some (.cells #[.int .i64 p.kd, .int .i64 p.k.1, .int .i64 p.k.2, .int .i64 p.pa.1, .int .i64 p.pa.2, .int .i64 p.af.1, .int .i64 p.af.2, .string p.nm, .string p.vl] 42)) := hS1.2
      clear hst hM hM2
      go_simp
      refine hK.out _ _ (hS1) (fun hHeld2 => ?_)
      clear hK K hHeld
      have hHeld := hHeld2
      clear hHeld2
      (try simp only [Act.put, List.setIfInBounds_toArray, List.set_cons_zero, List.set_cons_succ])
      clear hst2 hg hz hS1 HP HB HK HN
      refine wpAnyH_done (by kernel_rfl) ?_ _
      clear hHeld
      have HP := HP2
      have HB := HB2
      have HK := HK2
      clear HP2 HB2 HK2
      have c2 : Um64u1.cell? ⟨wb, 2, none⟩ = some (.pointer (some ⟨bh, 0, none⟩)) := HP.out.c2
      have HLn := hide9 (HPp.out.lk.add HNx.out.1 (⟨p.k, p.nm, ⟨#[]⟩, []⟩ : Nf) (.slice none 0 0))
      go_wp2_with (go_at_call 49; refine (link_s (a := none) HP.out HLn.out (.inr rfl) (addG_no HPp.out.lk HNx.out.1 _ _) (.inl HPp.out.xh) (fun x e => by cases e)).mono ?_; rintro e w6 ⟨⟨v, rfl⟩, hg, ht⟩)
      replace HB : Hid (BelT B w w6) := HB.out.trans (HP.out.touchT ht)
      have HP6 : Hid (PwM B wb bm bh (some top) (fun b => X b ∨ b = nb) (lnk (addG g nb (⟨p.k, p.nm, ⟨#[]⟩, []⟩ : Nf) (.slice none 0 0)) nb bh none) (D ++ [(p.k, nb)]) w6) := hg
      clear hg ht
      (try go_wp2)
      (try rw [Exit.noGoto_ret])
      go_ret
      refine ⟨?_, HB.out⟩
      rw [HSt.out]
      refine StpP.ok ⟨HP6.out, ?_⟩
      have hkm := HKm.out
      rw [List.mem_append] at hkm
      exact PwP.hold (lb := [top]) (Lo := [T]) (HPp.out.add HNx.out.1 (⟨p.k, p.nm, ⟨#[]⟩, []⟩ : Nf) (.slice none 0 0) (by simpa [keysL] using fun e => hkm (.inl e)) (fun e => hkm (.inr e))) rfl

end Go.Proofs.Ytccpljllgpabnab
