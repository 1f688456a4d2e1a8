/- RgaKeeps: a slot that is added leaves the order of the others as it was. -/
import Derived.Test.YtmclnlpbogmbnaaRdQ
namespace Go.Proofs.Ytmclnlpbogmbnaa
open Go.RowKit
set_option linter.unusedVariables false
set_option linter.unusedSimpArgs false

theorem keeps_split {L : List Sl} (h : GoodL L) {s : Sl} (ho : okS s = true) (hn : hasL L s.ts = false) (hb : ∀ t ∈ L, t.af ≠ s.ts) (ha : s.af = z0 ∨ hasL L s.af = true) {n : Int} (hp : PlR (ordL (L ++ [s])) s.ts n) : ∃ N : Nat, n = (N : Int) ∧ N < (ordL (L ++ [s])).length ∧ (ordL (L ++ [s])).take N ++ (ordL (L ++ [s])).drop (N + 1) = ordL L := by
  have hg := h.snoc ho hn
  have hnd := ord_nodup hg
  have hk := ord_keeps h ho hn hb ha
  rcases hp with ⟨p, q, e, hp, rfl⟩ | ⟨hp, _⟩
  · refine ⟨p.length, rfl, by rw [e]; simp, ?_⟩
    have hq : s.ts ∉ q := fun hm => by
      rw [e, List.nodup_append] at hnd
      exact (List.nodup_cons.1 hnd.2.1).1 hm
    have hf : ∀ l : List St, s.ts ∉ l → l.filter (fun x => decide (x ≠ s.ts)) = l := fun l hl => List.filter_eq_self.2 fun x hx => by simpa using fun e : x = s.ts => hl (e ▸ hx)
    rw [e, List.filter_append, List.filter_cons, hf p hp, hf q hq] at hk
    simp at hk
    rw [e, List.take_left' rfl]
    have : (p ++ s.ts :: q).drop (p.length + 1) = q := by rw [← List.drop_drop, List.drop_left' rfl]; rfl
    rw [this]
    exact hk
  · exact absurd ((mem_ord hg).2 (hasL_iff.2 ⟨s, by simp, rfl⟩)) hp

set_option maxRecDepth 100000 in
set_option maxHeartbeats 16000000 in
theorem rgaKeeps_walk (v : Value) (l : List Sl) (s : Sl) (w : World) (h : IsSl w v l) :
    Calls Try.prog 7 #[v, .agg (slCells s).toArray] w fun e w' => e = .returned (.bool true) ∧ Below w.heap.size w w' := by
  obtain ⟨ist, hist, hz0st, hz1st, hz2st⟩ := info_parts infoStamp
  obtain ⟨W0, eW⟩ : ∃ X, X = w.alloc (.cells (slCells s).toArray 32) := ⟨_, rfl⟩
  have hb01 : Below w.heap.size w W0 := by rw [eW]; exact (Below.refl _ _).alloc (Nat.le_refl _) _
  have HX0 : Hid (BxC w.heap.size (slCells s) 32 W0) := by rw [eW]; exact BxC.new w _ _
  have HLs : Hid (IsSl W0 v l) := h.below hb01
  have hs0 : W0.heap.size = w.heap.size + 1 := by rw [eW]; simp
  obtain ⟨a1, c1, e1⟩ := h.form
  subst e1
  clear h
  go_enter Try.func7, Try.ntmps7
  go_wp2_with fail
  have eW2 := eW
  rw [← eW2]
  clear eW2 eW
  refine (laid_any _ l _ HLs.out).mono ?_
  rintro e w1 ⟨rb, F, b, o, c, rfl, hM⟩
  have HG : Hid (GoodL (laidL l)) := hM.row.good
  have HLn0 : Hid ((laidL l).length ≤ 120) := laidL_len l
  obtain ⟨L, eL⟩ : ∃ L, L = laidL l := ⟨_, rfl⟩
  rw [← eL] at hM HG HLn0
  rw [← eL]
  clear eL HLs
  have HLn : Hid ((ordL L).length ≤ 120) := by (show _ ≤ _; rw [ord_length HG.out]; exact HLn0.out)
  have HM : Hid (LdS W0 rb F (.slice (some ⟨b, o, none⟩) L.length c) L L w1) := hM
  have HX : Hid (BxC w.heap.size (slCells s) 32 w1) := HX0.out.below hM.bel
  have HFx : Hid (¬ F w.heap.size) := fun h => by have h1 := hM.hi _ h; omega
  have hFl := hM.row.lt
  clear hM HX0 hs0
  go_wp2_with fail
  refine (order_any F _ L _ HM.out.rv).mono ?_
  rintro e w2 ⟨u, rfl, ho, hb⟩
  replace HM : Hid (LdS W0 rb F (.slice (some ⟨b, o, none⟩) L.length c) L L w2) := HM.out.below hb
  replace HX : Hid (BxC w.heap.size (slCells s) 32 w2) := HX.out.below hb
  obtain ⟨oa, oc, eo⟩ := ho.form
  subst eo
  obtain ⟨ob, eob⟩ : ∃ x, x = w1.heap.size := ⟨_, rfl⟩
  rw [← eob] at ho hFl
  have HFl : Hid (∀ k, F k → k < ob) := hFl
  have HO : Hid (OwnSt ob w2 (.slice oa (ordL L).length oc) (ordL L)) := ho
  clear ho hb eob hFl
  have hlL : L.length ≤ 120 := HLn0.out
  go_wp2
  go_loopw [8] (fun iv wr => ∃ i : Nat, i ≤ L.length ∧ iv = .int .i64 (i : Int) ∧ Hid (∀ t ∈ L.take i, t.af ≠ s.ts) ∧ Hid (LdS W0 rb F (.slice (some ⟨b, o, none⟩) L.length c) L L wr) ∧ Hid (BxC w.heap.size (slCells s) 32 wr) ∧ Hid (OwnSt ob wr (.slice oa (ordL L).length oc) (ordL L))) (fun iv _ => L.length - (intOf iv).toNat)
  case atStart => exact ⟨0, Nat.zero_le _, rfl, (fun t ht => by simp at ht), HM, HX, HO⟩
  case round =>
    clear HM HX HO
    obtain ⟨i, hi0, rfl, HNt, HM, HX, HO⟩ := hrel
    by_cases hil : i < L.length
    · obtain ⟨t, et⟩ : ∃ t, t = L[i] := ⟨_, rfl⟩
      have k1 : (i : Int) < (L.length : Int) := by omega
      have k0 : (0 : Int) ≤ (i : Int) := by omega
      have hr := HM.out.doc.ls.at4 (Below.refl _ _) hil et
      have d2 : wr.cell? ⟨b, o + i * 4 + 2, none⟩ = some (.int .i64 t.af.1) := hr 2 _ rfl
      have d3 : wr.cell? ⟨b, o + i * 4 + 3, none⟩ = some (.int .i64 t.af.2) := hr 3 _ rfl
      clear hr
      have x0 : wr.cell? ⟨w.heap.size, 0, none⟩ = some (.int .i64 s.ts.1) := HX.out.cell 0 _ rfl
      have x1 : wr.cell? ⟨w.heap.size, 1, none⟩ = some (.int .i64 s.ts.2) := HX.out.cell 1 _ rfl
      have x2 : wr.cell? ⟨w.heap.size, 2, none⟩ = some (.int .i64 s.af.1) := HX.out.cell 2 _ rfl
      have x3 : wr.cell? ⟨w.heap.size, 3, none⟩ = some (.int .i64 s.af.2) := HX.out.cell 3 _ rfl
      by_cases hx : t.af = s.ts
      · rw [hx] at d2 d3
        clear hx
        go_wp2
        go_quiet (fail)
        clear d2 d3 x0 x1 x2 x3
        generalize eWd : wr.drewN _ = Wd
        have hb : Below wr.heap.size wr Wd := by rw [← eWd]; exact below_drewN (Below.refl _ _) _
        replace HM : Hid (LdS W0 rb F (.slice (some ⟨b, o, none⟩) L.length c) L L Wd) := HM.out.below hb
        replace HX : Hid (BxC w.heap.size (slCells s) 32 Wd) := HX.out.below hb
        replace HO : Hid (OwnSt ob Wd (.slice oa (ordL L).length oc) (ordL L)) := HO.out.below hb
        clear hb eWd
        go_wp2_with fail
        refine (awake_any _).mono ?_
        rintro e w9 ⟨rfl, hb⟩
        replace HM : Hid (LdS W0 rb F (.slice (some ⟨b, o, none⟩) L.length c) L L w9) := HM.out.below hb
        replace HX : Hid (BxC w.heap.size (slCells s) 32 w9) := HX.out.below hb
        replace HO : Hid (OwnSt ob w9 (.slice oa (ordL L).length oc) (ordL L)) := HO.out.below hb
        clear hb
        go_wp2
        go_ret
        exact ⟨rfl, hb01.trans (HM.out.bel.mono hb01.size)⟩
      · have HNx : Hid (∀ t ∈ L.take (i + 1), t.af ≠ s.ts) := by
          intro y hy
          rw [List.take_succ_eq_append_getElem hil, List.mem_append] at hy
          rcases hy with hy | hy
          · exact HNt.out y hy
          · simp at hy; rw [hy, ← et]; exact hx
        have hq : ((t.af.1 == s.ts.1) && (t.af.2 == s.ts.2)) = false := by
          by_cases e1 : t.af.1 = s.ts.1
          · by_cases e2 : t.af.2 = s.ts.2
            · exact absurd (Prod.ext e1 e2) hx
            · simp [e2]
          · simp [e1]
        clear et
        by_cases hf : t.af.1 = s.ts.1
        · have q2 : (t.af.2 == s.ts.2) = false := by
            rw [beq_eq_false_iff_ne]; intro e; exact hx (Prod.ext hf e)
          rw [hf] at d2
          clear hf hx hq
          go_wp2
          go_quiet (fail)
          go_wp2
          go_roundw
          case rel => exact ⟨i + 1, by omega, by go_num, HNx, HM.out.below (below_drewN (Below.refl _ _) _), HX.out.below (below_drewN (Below.refl _ _) _), HO.out.below (below_drewN (Below.refl _ _) _)⟩
          case measure => simp [intOf]; omega
        · have q2 : (t.af.1 == s.ts.1) = false := by rw [beq_eq_false_iff_ne]; exact hf
          clear hf hx hq
          go_wp2
          go_quiet (fail)
          go_wp2
          go_roundw
          case rel => exact ⟨i + 1, by omega, by go_num, HNx, HM.out.below (below_drewN (Below.refl _ _) _), HX.out.below (below_drewN (Below.refl _ _) _), HO.out.below (below_drewN (Below.refl _ _) _)⟩
          case measure => simp [intOf]; omega
    · have HNb : Hid (∀ t ∈ L, t.af ≠ s.ts) := by (have h9 := HNt.out; rw [List.take_of_length_le (by omega)] at h9; exact h9)
      obtain rfl : i = L.length := by omega
      clear HNt
      by_cases hz : s.af = z0
      · have HAf : Hid (s.af = z0 ∨ hasL L s.af = true) := .inl hz
        have zz1 : s.af.1 = 0 := by rw [hz]
        have zz2 : s.af.2 = 0 := by rw [hz]
        clear hz
        have x0 : wr.cell? ⟨w.heap.size, 0, none⟩ = some (.int .i64 s.ts.1) := HX.out.cell 0 _ rfl
        have x1 : wr.cell? ⟨w.heap.size, 1, none⟩ = some (.int .i64 s.ts.2) := HX.out.cell 1 _ rfl
        have x2 : wr.cell? ⟨w.heap.size, 2, none⟩ = some (.int .i64 s.af.1) := HX.out.cell 2 _ rfl
        have x3 : wr.cell? ⟨w.heap.size, 3, none⟩ = some (.int .i64 s.af.2) := HX.out.cell 3 _ rfl
        go_wp2_with fail
        clear x0 x1 x2 x3
        have hcall := add_any F rb L s wr HM.out.row (by have := HLn0.out; omega)
        rw [zz1, zz2] at hcall
        clear zz1 zz2
        refine hcall.mono ?_
        clear hcall
        rintro e waa hd
        obtain ⟨he, hd1⟩ := id hd
        subst he
        obtain ⟨F2, hM2⟩ := HM.out.did hd
        replace HM : Hid (LdS W0 rb F2 (.slice (some ⟨b, o, none⟩) L.length c) (addL L s) L waa) := hM2
        obtain ⟨_, _, _, _, hto⟩ := hd1
        replace HX : Hid (BxC w.heap.size (slCells s) 32 waa) := HX.out.touch hto HFx.out
        replace HO : Hid (OwnSt ob waa (.slice oa (ordL L).length oc) (ordL L)) := HO.out.touch hto HFl.out
        clear hd hM2 hto
        cases hO : okS s with
        | false =>
          have hC : addC L s = 2 := by unfold addC; simp [hO]
          have hL : addL L s = L := by unfold addL; simp [hO]
          rw [hC]
          rw [hL] at HM
          clear hC hL
          go_wp2_with fail
          refine (order_any F2 _ L _ HM.out.rv).mono ?_
          rintro e wab ⟨u, rfl, ho2, hb⟩
          replace HM : Hid (LdS W0 rb F2 (.slice (some ⟨b, o, none⟩) L.length c) L L wab) := HM.out.below hb
          replace HX : Hid (BxC w.heap.size (slCells s) 32 wab) := HX.out.below hb
          replace HO : Hid (OwnSt ob wab (.slice oa (ordL L).length oc) (ordL L)) := HO.out.below hb
          clear hb
          obtain ⟨a2, c2, e2⟩ := ho2.form
          subst e2
          have HO2 : Hid (OwnSt waa.heap.size wab (.slice a2 (ordL L).length c2) (ordL L)) := ho2
          clear ho2
          go_wp2_with fail
          refine (S.same_any _ _ (ordL L) (ordL L) _ (isS_of (HO2.out.lsE (G := fun _ => True) stCells_len (by have := HLn.out; omega) (fun _ _ => trivial))) (isS_of (HO.out.lsE (G := fun _ => True) stCells_len (by have := HLn.out; omega) (fun _ _ => trivial)))).mono ?_
          rintro e wac ⟨rfl, hb⟩
          replace HM : Hid (LdS W0 rb F2 (.slice (some ⟨b, o, none⟩) L.length c) L L wac) := HM.out.below hb
          replace HX : Hid (BxC w.heap.size (slCells s) 32 wac) := HX.out.below hb
          replace HO : Hid (OwnSt ob wac (.slice oa (ordL L).length oc) (ordL L)) := HO.out.below hb
          clear hb
          rw [decide_eq_true (rfl : ordL L = ordL L)]
          go_wp2_with fail
          refine (awake_any _).mono ?_
          rintro e wad ⟨rfl, hb⟩
          replace HM : Hid (LdS W0 rb F2 (.slice (some ⟨b, o, none⟩) L.length c) L L wad) := HM.out.below hb
          replace HX : Hid (BxC w.heap.size (slCells s) 32 wad) := HX.out.below hb
          replace HO : Hid (OwnSt ob wad (.slice oa (ordL L).length oc) (ordL L)) := HO.out.below hb
          clear hb
          go_wp2
          go_ret
          exact ⟨rfl, hb01.trans (HM.out.bel.mono hb01.size)⟩
        | true =>
          cases hH : hasL L s.ts with
          | true =>
            have hC : addC L s = 5 := by unfold addC; simp [hO, hH]
            have hL : addL L s = L := by unfold addL; simp [hO, hH]
            rw [hC]
            rw [hL] at HM
            clear hC hL
            go_wp2_with fail
            refine (order_any F2 _ L _ HM.out.rv).mono ?_
            rintro e wab ⟨u, rfl, ho2, hb⟩
            replace HM : Hid (LdS W0 rb F2 (.slice (some ⟨b, o, none⟩) L.length c) L L wab) := HM.out.below hb
            replace HX : Hid (BxC w.heap.size (slCells s) 32 wab) := HX.out.below hb
            replace HO : Hid (OwnSt ob wab (.slice oa (ordL L).length oc) (ordL L)) := HO.out.below hb
            clear hb
            obtain ⟨a2, c2, e2⟩ := ho2.form
            subst e2
            have HO2 : Hid (OwnSt waa.heap.size wab (.slice a2 (ordL L).length c2) (ordL L)) := ho2
            clear ho2
            go_wp2_with fail
            refine (S.same_any _ _ (ordL L) (ordL L) _ (isS_of (HO2.out.lsE (G := fun _ => True) stCells_len (by have := HLn.out; omega) (fun _ _ => trivial))) (isS_of (HO.out.lsE (G := fun _ => True) stCells_len (by have := HLn.out; omega) (fun _ _ => trivial)))).mono ?_
            rintro e wac ⟨rfl, hb⟩
            replace HM : Hid (LdS W0 rb F2 (.slice (some ⟨b, o, none⟩) L.length c) L L wac) := HM.out.below hb
            replace HX : Hid (BxC w.heap.size (slCells s) 32 wac) := HX.out.below hb
            replace HO : Hid (OwnSt ob wac (.slice oa (ordL L).length oc) (ordL L)) := HO.out.below hb
            clear hb
            rw [decide_eq_true (rfl : ordL L = ordL L)]
            go_wp2_with fail
            refine (awake_any _).mono ?_
            rintro e wad ⟨rfl, hb⟩
            replace HM : Hid (LdS W0 rb F2 (.slice (some ⟨b, o, none⟩) L.length c) L L wad) := HM.out.below hb
            replace HX : Hid (BxC w.heap.size (slCells s) 32 wad) := HX.out.below hb
            replace HO : Hid (OwnSt ob wad (.slice oa (ordL L).length oc) (ordL L)) := HO.out.below hb
            clear hb
            go_wp2
            go_ret
            exact ⟨rfl, hb01.trans (HM.out.bel.mono hb01.size)⟩
          | false =>
            have hC : addC L s = 0 := by unfold addC; simp [hO, hH]
            have hL : addL L s = L ++ [s] := by unfold addL; simp [hO, hH]
            have HOk : Hid (okS s = true) := hO
            have HHk : Hid (hasL L s.ts = false) := hH
            rw [hC]
            rw [hL] at HM
            clear hC hL hO hH
            go_wp2_with fail
            refine (order_any F2 _ (L ++ [s]) _ HM.out.rv).mono ?_
            rintro e wab ⟨u, rfl, ho2, hb⟩
            replace HM : Hid (LdS W0 rb F2 (.slice (some ⟨b, o, none⟩) L.length c) (L ++ [s]) L wab) := HM.out.below hb
            replace HX : Hid (BxC w.heap.size (slCells s) 32 wab) := HX.out.below hb
            replace HO : Hid (OwnSt ob wab (.slice oa (ordL L).length oc) (ordL L)) := HO.out.below hb
            clear hb
            have HIl : Hid ((ordL (L ++ [s])).length = (ordL L).length + 1) := by (show _ = _; rw [ord_length (HG.out.snoc HOk.out HHk.out), ord_length HG.out]; simp)
            obtain ⟨ig, ic, e2, hic, _, _⟩ := ho2.cells stCells_len (i := 0) (by have := HIl.out; omega)
            subst e2
            obtain ⟨ib, eib⟩ : ∃ x, x = waa.heap.size := ⟨_, rfl⟩
            rw [← eib] at ho2
            have HI : Hid (OwnSt ib wab (.slice (some ⟨ig, 0, none⟩) (ordL (L ++ [s])).length ic) (ordL (L ++ [s]))) := ho2
            clear ho2 eib
            have x0 : wab.cell? ⟨w.heap.size, 0, none⟩ = some (.int .i64 s.ts.1) := HX.out.cell 0 _ rfl
            have x1 : wab.cell? ⟨w.heap.size, 1, none⟩ = some (.int .i64 s.ts.2) := HX.out.cell 1 _ rfl
            have x2 : wab.cell? ⟨w.heap.size, 2, none⟩ = some (.int .i64 s.af.1) := HX.out.cell 2 _ rfl
            have x3 : wab.cell? ⟨w.heap.size, 3, none⟩ = some (.int .i64 s.af.2) := HX.out.cell 3 _ rfl
            go_wp2_with fail
            clear x0 x1 x2 x3
            refine (refPlace_any (fun _ => True) _ (ordL (L ++ [s])) s.ts _ (HI.out.lsE stCells_len (by have := HIl.out; have := HLn.out; omega) fun _ _ => trivial)).mono ?_
            rintro e wac ⟨n, rfl, hp, hb⟩
            replace HM : Hid (LdS W0 rb F2 (.slice (some ⟨b, o, none⟩) L.length c) (L ++ [s]) L wac) := HM.out.below hb
            replace HX : Hid (BxC w.heap.size (slCells s) 32 wac) := HX.out.below hb
            replace HO : Hid (OwnSt ob wac (.slice oa (ordL L).length oc) (ordL L)) := HO.out.below hb
            replace HI : Hid (OwnSt ib wac (.slice (some ⟨ig, 0, none⟩) (ordL (L ++ [s])).length ic) (ordL (L ++ [s]))) := HI.out.below hb
            clear hb
            obtain ⟨N, rfl, hN, hsp⟩ := keeps_split HG.out HOk.out HHk.out HNb.out HAf.out hp
            have HSp : Hid (((ordL (L ++ [s])).take N) ++ ((ordL (L ++ [s])).drop (N + 1)) = ordL L) := hsp
            clear hsp hp
            obtain ⟨Wq, eWq⟩ : ∃ X, X = wac := ⟨_, rfl⟩
            rw [← eWq] at HM HX HO HI ⊢
            clear eWq
            obtain ⟨hig, hpl⟩ : ig < Wq.heap.size ∧ ∀ j u, (flatE stCells (ordL (L ++ [s])))[j]? = some u → Wq.cell? ⟨ig, 0 + j, none⟩ = some u := by
              obtain ⟨a7, c7, e7, _, _, h7⟩ := HI.out.lsE (G := fun _ => True) stCells_len (by have := HIl.out; have := HLn.out; omega) (fun _ _ => trivial)
              injection e7 with e71 e72 e73
              subst e71
              obtain ⟨b7, o7, e8, _, hlt7, hr7⟩ := h7.resolve_left (by intro e; rw [e] at hN; simp at hN)
              cases e8
              exact ⟨hlt7, rows_flat stCells_len _ 0 hr7⟩
            have hbe : Below Wq.heap.size Wq (Wq.alloc (.cells #[] 30)) := (Below.refl _ _).alloc (Nat.le_refl _) _
            have HBu : Hid (BuR stCells 2 30 Wq (.slice (some ⟨Wq.heap.size, 0, none⟩) 0 0) [] (Wq.alloc (.cells #[] 30))) := BuR.newS Wq
            have HC1 : Hid (∀ j u, (flatE stCells ((ordL (L ++ [s])).take N))[j]? = some u → (Wq.alloc (.cells #[] 30)).cell? ((⟨ig, 0, none⟩ : Addr).add j) = some u) := fun j u hj => (by rw [Addr.add_lit]; exact (hbe.cell (p := ⟨ig, 0 + j, none⟩) hig).trans (hpl j u (flat_pre stCells_len hj)))
            have HC2 : Hid (∀ j u, (flatE stCells ((ordL (L ++ [s])).drop (N + 1)))[j]? = some u → Wq.cell? ⟨ig, 0 + (N + 1) * 2 + j, none⟩ = some u) := fun j u hj => (by rw [Nat.add_assoc]; exact hpl _ u (flat_suf stCells_len (by omega) hj))
            have HT1 : Hid (((ordL (L ++ [s])).take N).length = N) := by (show _ = _; rw [List.length_take]; omega)
            have HT2 : Hid (((ordL (L ++ [s])).drop (N + 1)).length = (ordL (L ++ [s])).length - (N + 1)) := by (show _ = _; rw [List.length_drop])
            have hsz1 : Wq.heap.size ≤ (Wq.alloc (.cells #[] 30)).heap.size := hbe.size
            obtain ⟨P, eP⟩ : ∃ P, P = ((ordL (L ++ [s])).take N) := ⟨_, rfl⟩
            obtain ⟨Q, eQ⟩ : ∃ Q, Q = ((ordL (L ++ [s])).drop (N + 1)) := ⟨_, rfl⟩
            rw [← eP] at HC1 HT1 HSp
            rw [← eQ] at HC2 HT2 HSp
            clear eP eQ
            obtain ⟨Ad, hAd, HA2⟩ : ∃ A : Addr, (if ic = N + 1 then some (⟨ig, 0, none⟩ : Addr) else some ⟨ig, 0 + (N + 1) * 2, none⟩) = some A ∧ Hid (∀ V : World, Below Wq.heap.size Wq V → ∀ j u, (flatE stCells Q)[j]? = some u → V.cell? (A.add j) = some u) := src2 stCells_len HC2.out hig hic HT2.out
            rw [Nat.zero_add] at hAd
            have n0 : ¬ ((N : Int) < 0) := by omega
            have nI : ((ordL (L ++ [s])).length : Int) = ((ordL L).length : Int) + 1 := by (have := HIl.out; omega)
            have hIl := HIl.out
            have hll := HLn.out
            have n5 : ((N : Int) + 1).toNat = N + 1 := by omega
            have n12 : IntKind.i64.wrap ((N : Int) + 1) = (N : Int) + 1 := by rw [IntKind.wrap_i64]; omega
            have y1 : (0 : Int) ≤ (N : Int) + 1 := by omega
            have y2 : (N : Int) + 1 ≤ ((ordL (L ++ [s])).length : Int) := by omega
            have y3 : N ≤ ic := by omega
            have y4 : N + 1 ≤ ic := by omega
            have y5 : (0 : Int) ≤ (N : Int) := by omega
            have n13 : IntKind.i64.wrap (((ordL L).length : Int) + 1) = ((ordL L).length : Int) + 1 := by rw [IntKind.wrap_i64]; omega
            clear hbe hpl hig HC2
            go_wp2_with (first
              | (at_builtin; refine wpList_append_own_at _ rfl _ _ 36 rfl Wq.heap.size 30 ist (.agg #[.int .i64 0, .int .i64 0]) 2 16 Try.underlying36 hist hz0st hz1st hz2st rfl (by decide) _ _ _ rfl HBu.out.own ⟨ig, 0, none⟩ _ _ (flatE stCells P) rfl (by have h8 := flatE_length stCells_len P; have h9 := HT1.out; rw [h8, h9]; try (first | rfl | (congr 1; omega))) HC1.out (flat_st _) (by (try simp only [List.length_nil]); have := HT1.out; have := HLn.out; unfold maxLen; omega) (by (try simp only [List.length_nil]); have := HT1.out; have := HLn.out; omega) hsz1 ?_; intro v1 W8 hown3 hgrow3 hnil3 hat3; have h0 := HBu.out.pushes (E := P) hown3 (by have := HT1.out; omega) hgrow3 hnil3; rw [List.nil_append] at h0; obtain ⟨g1, c1, e3⟩ := h0.sm; subst e3; have HBv : Hid (BuR stCells 2 30 Wq (.slice (some ⟨g1, 0, none⟩) P.length c1) P W8) := h0; clear h0 hown3 hgrow3 hnil3 hat3; have HC3 : Hid (∀ j u, (flatE stCells Q)[j]? = some u → W8.cell? (Ad.add j) = some u) := HA2.out W8 HBv.out.bel; have hsz2 : Wq.heap.size ≤ W8.heap.size := HBv.out.bel.size; clear HBu HC1 hsz1)
              | (at_builtin; refine wpList_append_own_at _ rfl _ _ 36 rfl Wq.heap.size 30 ist (.agg #[.int .i64 0, .int .i64 0]) 2 16 Try.underlying36 hist hz0st hz1st hz2st rfl (by decide) _ _ _ rfl HBv.out.own Ad _ _ (flatE stCells Q) rfl (by have h8 := flatE_length stCells_len Q; have h9 := HT2.out; rw [h8, h9]; try (first | rfl | (congr 1; omega))) HC3.out (flat_st _) (by (try simp only [List.length_nil]); have := HT1.out; have := HLn.out; unfold maxLen; omega) (by (try simp only [List.length_nil]); have := HT1.out; have := HLn.out; omega) hsz2 ?_; intro v2 W9 hown3 hgrow3 hnil3 hat3; have h0 := HBv.out.pushes (E := Q) hown3 (by have := HT2.out; omega) hgrow3 hnil3; rw [HSp.out] at h0; obtain ⟨g2, c2, e3⟩ := h0.sm; subst e3; have HBw : Hid (BuR stCells 2 30 Wq (.slice (some ⟨g2, 0, none⟩) (ordL L).length c2) (ordL L) W9) := h0; clear h0 hown3 hgrow3 hnil3 hat3; clear HBv HC3 hsz2)
              | fail)
            replace HM : Hid (LdS W0 rb F2 (.slice (some ⟨b, o, none⟩) L.length c) (L ++ [s]) L W9) := HM.out.below HBw.out.bel
            replace HX : Hid (BxC w.heap.size (slCells s) 32 W9) := HX.out.below HBw.out.bel
            replace HO : Hid (OwnSt ob W9 (.slice oa (ordL L).length oc) (ordL L)) := HO.out.below HBw.out.bel
            have HLf : Hid (OwnSt Wq.heap.size W9 (.slice (some ⟨g2, 0, none⟩) (ordL L).length c2) (ordL L)) := HBw.out.own
            clear HBw
            refine (S.same_any _ _ (ordL L) (ordL L) _ (isS_of (HLf.out.lsE (G := fun _ => True) stCells_len (by have := HLn.out; omega) (fun _ _ => trivial))) (isS_of (HO.out.lsE (G := fun _ => True) stCells_len (by have := HLn.out; omega) (fun _ _ => trivial)))).mono ?_
            rintro e wae ⟨rfl, hb⟩
            replace HM : Hid (LdS W0 rb F2 (.slice (some ⟨b, o, none⟩) L.length c) (L ++ [s]) L wae) := HM.out.below hb
            replace HX : Hid (BxC w.heap.size (slCells s) 32 wae) := HX.out.below hb
            replace HO : Hid (OwnSt ob wae (.slice oa (ordL L).length oc) (ordL L)) := HO.out.below hb
            clear hb
            rw [decide_eq_true (rfl : ordL L = ordL L)]
            go_wp2_with fail
            refine (awake_any _).mono ?_
            rintro e waf ⟨rfl, hb⟩
            replace HM : Hid (LdS W0 rb F2 (.slice (some ⟨b, o, none⟩) L.length c) (L ++ [s]) L waf) := HM.out.below hb
            replace HX : Hid (BxC w.heap.size (slCells s) 32 waf) := HX.out.below hb
            replace HO : Hid (OwnSt ob waf (.slice oa (ordL L).length oc) (ordL L)) := HO.out.below hb
            clear hb
            go_wp2
            go_ret
            exact ⟨rfl, hb01.trans (HM.out.bel.mono hb01.size)⟩
      · have zz : ¬ (s.af.1 = 0 ∧ s.af.2 = 0) := fun h => hz (Prod.ext h.1 h.2)
        have x0 : wr.cell? ⟨w.heap.size, 0, none⟩ = some (.int .i64 s.ts.1) := HX.out.cell 0 _ rfl
        have x1 : wr.cell? ⟨w.heap.size, 1, none⟩ = some (.int .i64 s.ts.2) := HX.out.cell 1 _ rfl
        have x2 : wr.cell? ⟨w.heap.size, 2, none⟩ = some (.int .i64 s.af.1) := HX.out.cell 2 _ rfl
        have x3 : wr.cell? ⟨w.heap.size, 3, none⟩ = some (.int .i64 s.af.2) := HX.out.cell 3 _ rfl
        by_cases zf : s.af.1 = 0
        · have zq : (s.af.2 == 0) = false := by (rw [beq_eq_false_iff_ne]; exact fun e => zz ⟨zf, e⟩)
          rw [zf] at x2
          clear zz
          go_wp2_with fail
          clear x0 x1 x2 x3
          have hcall := hasOk_any F rb L s.af wr HM.out.row
          rw [zf] at hcall
          refine (hcall).mono ?_
          rintro e w5 ⟨rfl, hb⟩
          replace HM : Hid (LdS W0 rb F (.slice (some ⟨b, o, none⟩) L.length c) L L w5) := HM.out.below hb
          replace HX : Hid (BxC w.heap.size (slCells s) 32 w5) := HX.out.below hb
          replace HO : Hid (OwnSt ob w5 (.slice oa (ordL L).length oc) (ordL L)) := HO.out.below hb
          clear hb
          clear zf zq
          cases hA : hasL L s.af with
          | false =>
            go_wp2_with fail
            refine (awake_any _).mono ?_
            rintro e w6 ⟨rfl, hb⟩
            replace HM : Hid (LdS W0 rb F (.slice (some ⟨b, o, none⟩) L.length c) L L w6) := HM.out.below hb
            replace HX : Hid (BxC w.heap.size (slCells s) 32 w6) := HX.out.below hb
            replace HO : Hid (OwnSt ob w6 (.slice oa (ordL L).length oc) (ordL L)) := HO.out.below hb
            clear hb
            go_wp2
            go_ret
            exact ⟨rfl, hb01.trans (HM.out.bel.mono hb01.size)⟩
          | true =>
            have HAf : Hid (s.af = z0 ∨ hasL L s.af = true) := .inr hA
            clear hA hcall
            have x0 : w5.cell? ⟨w.heap.size, 0, none⟩ = some (.int .i64 s.ts.1) := HX.out.cell 0 _ rfl
            have x1 : w5.cell? ⟨w.heap.size, 1, none⟩ = some (.int .i64 s.ts.2) := HX.out.cell 1 _ rfl
            have x2 : w5.cell? ⟨w.heap.size, 2, none⟩ = some (.int .i64 s.af.1) := HX.out.cell 2 _ rfl
            have x3 : w5.cell? ⟨w.heap.size, 3, none⟩ = some (.int .i64 s.af.2) := HX.out.cell 3 _ rfl
            go_wp2_with fail
            clear x0 x1 x2 x3
            have hcall := add_any F rb L s w5 HM.out.row (by have := HLn0.out; omega)
            refine hcall.mono ?_
            clear hcall
            rintro e wba hd
            obtain ⟨he, hd1⟩ := id hd
            subst he
            obtain ⟨F2, hM2⟩ := HM.out.did hd
            replace HM : Hid (LdS W0 rb F2 (.slice (some ⟨b, o, none⟩) L.length c) (addL L s) L wba) := hM2
            obtain ⟨_, _, _, _, hto⟩ := hd1
            replace HX : Hid (BxC w.heap.size (slCells s) 32 wba) := HX.out.touch hto HFx.out
            replace HO : Hid (OwnSt ob wba (.slice oa (ordL L).length oc) (ordL L)) := HO.out.touch hto HFl.out
            clear hd hM2 hto
            cases hO : okS s with
            | false =>
              have hC : addC L s = 2 := by unfold addC; simp [hO]
              have hL : addL L s = L := by unfold addL; simp [hO]
              rw [hC]
              rw [hL] at HM
              clear hC hL
              go_wp2_with fail
              refine (order_any F2 _ L _ HM.out.rv).mono ?_
              rintro e wbb ⟨u, rfl, ho2, hb⟩
              replace HM : Hid (LdS W0 rb F2 (.slice (some ⟨b, o, none⟩) L.length c) L L wbb) := HM.out.below hb
              replace HX : Hid (BxC w.heap.size (slCells s) 32 wbb) := HX.out.below hb
              replace HO : Hid (OwnSt ob wbb (.slice oa (ordL L).length oc) (ordL L)) := HO.out.below hb
              clear hb
              obtain ⟨a2, c2, e2⟩ := ho2.form
              subst e2
              have HO2 : Hid (OwnSt wba.heap.size wbb (.slice a2 (ordL L).length c2) (ordL L)) := ho2
              clear ho2
              go_wp2_with fail
              refine (S.same_any _ _ (ordL L) (ordL L) _ (isS_of (HO2.out.lsE (G := fun _ => True) stCells_len (by have := HLn.out; omega) (fun _ _ => trivial))) (isS_of (HO.out.lsE (G := fun _ => True) stCells_len (by have := HLn.out; omega) (fun _ _ => trivial)))).mono ?_
              rintro e wbc ⟨rfl, hb⟩
              replace HM : Hid (LdS W0 rb F2 (.slice (some ⟨b, o, none⟩) L.length c) L L wbc) := HM.out.below hb
              replace HX : Hid (BxC w.heap.size (slCells s) 32 wbc) := HX.out.below hb
              replace HO : Hid (OwnSt ob wbc (.slice oa (ordL L).length oc) (ordL L)) := HO.out.below hb
              clear hb
              rw [decide_eq_true (rfl : ordL L = ordL L)]
              go_wp2_with fail
              refine (awake_any _).mono ?_
              rintro e wbd ⟨rfl, hb⟩
              replace HM : Hid (LdS W0 rb F2 (.slice (some ⟨b, o, none⟩) L.length c) L L wbd) := HM.out.below hb
              replace HX : Hid (BxC w.heap.size (slCells s) 32 wbd) := HX.out.below hb
              replace HO : Hid (OwnSt ob wbd (.slice oa (ordL L).length oc) (ordL L)) := HO.out.below hb
              clear hb
              go_wp2
              go_ret
              exact ⟨rfl, hb01.trans (HM.out.bel.mono hb01.size)⟩
            | true =>
              cases hH : hasL L s.ts with
              | true =>
                have hC : addC L s = 5 := by unfold addC; simp [hO, hH]
                have hL : addL L s = L := by unfold addL; simp [hO, hH]
                rw [hC]
                rw [hL] at HM
                clear hC hL
                go_wp2_with fail
                refine (order_any F2 _ L _ HM.out.rv).mono ?_
                rintro e wbb ⟨u, rfl, ho2, hb⟩
                replace HM : Hid (LdS W0 rb F2 (.slice (some ⟨b, o, none⟩) L.length c) L L wbb) := HM.out.below hb
                replace HX : Hid (BxC w.heap.size (slCells s) 32 wbb) := HX.out.below hb
                replace HO : Hid (OwnSt ob wbb (.slice oa (ordL L).length oc) (ordL L)) := HO.out.below hb
                clear hb
                obtain ⟨a2, c2, e2⟩ := ho2.form
                subst e2
                have HO2 : Hid (OwnSt wba.heap.size wbb (.slice a2 (ordL L).length c2) (ordL L)) := ho2
                clear ho2
                go_wp2_with fail
                refine (S.same_any _ _ (ordL L) (ordL L) _ (isS_of (HO2.out.lsE (G := fun _ => True) stCells_len (by have := HLn.out; omega) (fun _ _ => trivial))) (isS_of (HO.out.lsE (G := fun _ => True) stCells_len (by have := HLn.out; omega) (fun _ _ => trivial)))).mono ?_
                rintro e wbc ⟨rfl, hb⟩
                replace HM : Hid (LdS W0 rb F2 (.slice (some ⟨b, o, none⟩) L.length c) L L wbc) := HM.out.below hb
                replace HX : Hid (BxC w.heap.size (slCells s) 32 wbc) := HX.out.below hb
                replace HO : Hid (OwnSt ob wbc (.slice oa (ordL L).length oc) (ordL L)) := HO.out.below hb
                clear hb
                rw [decide_eq_true (rfl : ordL L = ordL L)]
                go_wp2_with fail
                refine (awake_any _).mono ?_
                rintro e wbd ⟨rfl, hb⟩
                replace HM : Hid (LdS W0 rb F2 (.slice (some ⟨b, o, none⟩) L.length c) L L wbd) := HM.out.below hb
                replace HX : Hid (BxC w.heap.size (slCells s) 32 wbd) := HX.out.below hb
                replace HO : Hid (OwnSt ob wbd (.slice oa (ordL L).length oc) (ordL L)) := HO.out.below hb
                clear hb
                go_wp2
                go_ret
                exact ⟨rfl, hb01.trans (HM.out.bel.mono hb01.size)⟩
              | false =>
                have hC : addC L s = 0 := by unfold addC; simp [hO, hH]
                have hL : addL L s = L ++ [s] := by unfold addL; simp [hO, hH]
                have HOk : Hid (okS s = true) := hO
                have HHk : Hid (hasL L s.ts = false) := hH
                rw [hC]
                rw [hL] at HM
                clear hC hL hO hH
                go_wp2_with fail
                refine (order_any F2 _ (L ++ [s]) _ HM.out.rv).mono ?_
                rintro e wbb ⟨u, rfl, ho2, hb⟩
                replace HM : Hid (LdS W0 rb F2 (.slice (some ⟨b, o, none⟩) L.length c) (L ++ [s]) L wbb) := HM.out.below hb
                replace HX : Hid (BxC w.heap.size (slCells s) 32 wbb) := HX.out.below hb
                replace HO : Hid (OwnSt ob wbb (.slice oa (ordL L).length oc) (ordL L)) := HO.out.below hb
                clear hb
                have HIl : Hid ((ordL (L ++ [s])).length = (ordL L).length + 1) := by (show _ = _; rw [ord_length (HG.out.snoc HOk.out HHk.out), ord_length HG.out]; simp)
                obtain ⟨ig, ic, e2, hic, _, _⟩ := ho2.cells stCells_len (i := 0) (by have := HIl.out; omega)
                subst e2
                obtain ⟨ib, eib⟩ : ∃ x, x = wba.heap.size := ⟨_, rfl⟩
                rw [← eib] at ho2
                have HI : Hid (OwnSt ib wbb (.slice (some ⟨ig, 0, none⟩) (ordL (L ++ [s])).length ic) (ordL (L ++ [s]))) := ho2
                clear ho2 eib
                have x0 : wbb.cell? ⟨w.heap.size, 0, none⟩ = some (.int .i64 s.ts.1) := HX.out.cell 0 _ rfl
                have x1 : wbb.cell? ⟨w.heap.size, 1, none⟩ = some (.int .i64 s.ts.2) := HX.out.cell 1 _ rfl
                have x2 : wbb.cell? ⟨w.heap.size, 2, none⟩ = some (.int .i64 s.af.1) := HX.out.cell 2 _ rfl
                have x3 : wbb.cell? ⟨w.heap.size, 3, none⟩ = some (.int .i64 s.af.2) := HX.out.cell 3 _ rfl
                go_wp2_with fail
                clear x0 x1 x2 x3
                refine (refPlace_any (fun _ => True) _ (ordL (L ++ [s])) s.ts _ (HI.out.lsE stCells_len (by have := HIl.out; have := HLn.out; omega) fun _ _ => trivial)).mono ?_
                rintro e wbc ⟨n, rfl, hp, hb⟩
                replace HM : Hid (LdS W0 rb F2 (.slice (some ⟨b, o, none⟩) L.length c) (L ++ [s]) L wbc) := HM.out.below hb
                replace HX : Hid (BxC w.heap.size (slCells s) 32 wbc) := HX.out.below hb
                replace HO : Hid (OwnSt ob wbc (.slice oa (ordL L).length oc) (ordL L)) := HO.out.below hb
                replace HI : Hid (OwnSt ib wbc (.slice (some ⟨ig, 0, none⟩) (ordL (L ++ [s])).length ic) (ordL (L ++ [s]))) := HI.out.below hb
                clear hb
                obtain ⟨N, rfl, hN, hsp⟩ := keeps_split HG.out HOk.out HHk.out HNb.out HAf.out hp
                have HSp : Hid (((ordL (L ++ [s])).take N) ++ ((ordL (L ++ [s])).drop (N + 1)) = ordL L) := hsp
                clear hsp hp
                obtain ⟨Wq, eWq⟩ : ∃ X, X = wbc := ⟨_, rfl⟩
                rw [← eWq] at HM HX HO HI ⊢
                clear eWq
                obtain ⟨hig, hpl⟩ : ig < Wq.heap.size ∧ ∀ j u, (flatE stCells (ordL (L ++ [s])))[j]? = some u → Wq.cell? ⟨ig, 0 + j, none⟩ = some u := by
                  obtain ⟨a7, c7, e7, _, _, h7⟩ := HI.out.lsE (G := fun _ => True) stCells_len (by have := HIl.out; have := HLn.out; omega) (fun _ _ => trivial)
                  injection e7 with e71 e72 e73
                  subst e71
                  obtain ⟨b7, o7, e8, _, hlt7, hr7⟩ := h7.resolve_left (by intro e; rw [e] at hN; simp at hN)
                  cases e8
                  exact ⟨hlt7, rows_flat stCells_len _ 0 hr7⟩
                have hbe : Below Wq.heap.size Wq (Wq.alloc (.cells #[] 30)) := (Below.refl _ _).alloc (Nat.le_refl _) _
                have HBu : Hid (BuR stCells 2 30 Wq (.slice (some ⟨Wq.heap.size, 0, none⟩) 0 0) [] (Wq.alloc (.cells #[] 30))) := BuR.newS Wq
                have HC1 : Hid (∀ j u, (flatE stCells ((ordL (L ++ [s])).take N))[j]? = some u → (Wq.alloc (.cells #[] 30)).cell? ((⟨ig, 0, none⟩ : Addr).add j) = some u) := fun j u hj => (by rw [Addr.add_lit]; exact (hbe.cell (p := ⟨ig, 0 + j, none⟩) hig).trans (hpl j u (flat_pre stCells_len hj)))
                have HC2 : Hid (∀ j u, (flatE stCells ((ordL (L ++ [s])).drop (N + 1)))[j]? = some u → Wq.cell? ⟨ig, 0 + (N + 1) * 2 + j, none⟩ = some u) := fun j u hj => (by rw [Nat.add_assoc]; exact hpl _ u (flat_suf stCells_len (by omega) hj))
                have HT1 : Hid (((ordL (L ++ [s])).take N).length = N) := by (show _ = _; rw [List.length_take]; omega)
                have HT2 : Hid (((ordL (L ++ [s])).drop (N + 1)).length = (ordL (L ++ [s])).length - (N + 1)) := by (show _ = _; rw [List.length_drop])
                have hsz1 : Wq.heap.size ≤ (Wq.alloc (.cells #[] 30)).heap.size := hbe.size
                obtain ⟨P, eP⟩ : ∃ P, P = ((ordL (L ++ [s])).take N) := ⟨_, rfl⟩
                obtain ⟨Q, eQ⟩ : ∃ Q, Q = ((ordL (L ++ [s])).drop (N + 1)) := ⟨_, rfl⟩
                rw [← eP] at HC1 HT1 HSp
                rw [← eQ] at HC2 HT2 HSp
                clear eP eQ
                obtain ⟨Ad, hAd, HA2⟩ : ∃ A : Addr, (if ic = N + 1 then some (⟨ig, 0, none⟩ : Addr) else some ⟨ig, 0 + (N + 1) * 2, none⟩) = some A ∧ Hid (∀ V : World, Below Wq.heap.size Wq V → ∀ j u, (flatE stCells Q)[j]? = some u → V.cell? (A.add j) = some u) := src2 stCells_len HC2.out hig hic HT2.out
                rw [Nat.zero_add] at hAd
                have n0 : ¬ ((N : Int) < 0) := by omega
                have nI : ((ordL (L ++ [s])).length : Int) = ((ordL L).length : Int) + 1 := by (have := HIl.out; omega)
                have hIl := HIl.out
                have hll := HLn.out
                have n5 : ((N : Int) + 1).toNat = N + 1 := by omega
                have n12 : IntKind.i64.wrap ((N : Int) + 1) = (N : Int) + 1 := by rw [IntKind.wrap_i64]; omega
                have y1 : (0 : Int) ≤ (N : Int) + 1 := by omega
                have y2 : (N : Int) + 1 ≤ ((ordL (L ++ [s])).length : Int) := by omega
                have y3 : N ≤ ic := by omega
                have y4 : N + 1 ≤ ic := by omega
                have y5 : (0 : Int) ≤ (N : Int) := by omega
                have n13 : IntKind.i64.wrap (((ordL L).length : Int) + 1) = ((ordL L).length : Int) + 1 := by rw [IntKind.wrap_i64]; omega
                clear hbe hpl hig HC2
                go_wp2_with (first
                  | (at_builtin; refine wpList_append_own_at _ rfl _ _ 36 rfl Wq.heap.size 30 ist (.agg #[.int .i64 0, .int .i64 0]) 2 16 Try.underlying36 hist hz0st hz1st hz2st rfl (by decide) _ _ _ rfl HBu.out.own ⟨ig, 0, none⟩ _ _ (flatE stCells P) rfl (by have h8 := flatE_length stCells_len P; have h9 := HT1.out; rw [h8, h9]; try (first | rfl | (congr 1; omega))) HC1.out (flat_st _) (by (try simp only [List.length_nil]); have := HT1.out; have := HLn.out; unfold maxLen; omega) (by (try simp only [List.length_nil]); have := HT1.out; have := HLn.out; omega) hsz1 ?_; intro v1 W8 hown3 hgrow3 hnil3 hat3; have h0 := HBu.out.pushes (E := P) hown3 (by have := HT1.out; omega) hgrow3 hnil3; rw [List.nil_append] at h0; obtain ⟨g1, c1, e3⟩ := h0.sm; subst e3; have HBv : Hid (BuR stCells 2 30 Wq (.slice (some ⟨g1, 0, none⟩) P.length c1) P W8) := h0; clear h0 hown3 hgrow3 hnil3 hat3; have HC3 : Hid (∀ j u, (flatE stCells Q)[j]? = some u → W8.cell? (Ad.add j) = some u) := HA2.out W8 HBv.out.bel; have hsz2 : Wq.heap.size ≤ W8.heap.size := HBv.out.bel.size; clear HBu HC1 hsz1)
                  | (at_builtin; refine wpList_append_own_at _ rfl _ _ 36 rfl Wq.heap.size 30 ist (.agg #[.int .i64 0, .int .i64 0]) 2 16 Try.underlying36 hist hz0st hz1st hz2st rfl (by decide) _ _ _ rfl HBv.out.own Ad _ _ (flatE stCells Q) rfl (by have h8 := flatE_length stCells_len Q; have h9 := HT2.out; rw [h8, h9]; try (first | rfl | (congr 1; omega))) HC3.out (flat_st _) (by (try simp only [List.length_nil]); have := HT1.out; have := HLn.out; unfold maxLen; omega) (by (try simp only [List.length_nil]); have := HT1.out; have := HLn.out; omega) hsz2 ?_; intro v2 W9 hown3 hgrow3 hnil3 hat3; have h0 := HBv.out.pushes (E := Q) hown3 (by have := HT2.out; omega) hgrow3 hnil3; rw [HSp.out] at h0; obtain ⟨g2, c2, e3⟩ := h0.sm; subst e3; have HBw : Hid (BuR stCells 2 30 Wq (.slice (some ⟨g2, 0, none⟩) (ordL L).length c2) (ordL L) W9) := h0; clear h0 hown3 hgrow3 hnil3 hat3; clear HBv HC3 hsz2)
                  | fail)
                replace HM : Hid (LdS W0 rb F2 (.slice (some ⟨b, o, none⟩) L.length c) (L ++ [s]) L W9) := HM.out.below HBw.out.bel
                replace HX : Hid (BxC w.heap.size (slCells s) 32 W9) := HX.out.below HBw.out.bel
                replace HO : Hid (OwnSt ob W9 (.slice oa (ordL L).length oc) (ordL L)) := HO.out.below HBw.out.bel
                have HLf : Hid (OwnSt Wq.heap.size W9 (.slice (some ⟨g2, 0, none⟩) (ordL L).length c2) (ordL L)) := HBw.out.own
                clear HBw
                refine (S.same_any _ _ (ordL L) (ordL L) _ (isS_of (HLf.out.lsE (G := fun _ => True) stCells_len (by have := HLn.out; omega) (fun _ _ => trivial))) (isS_of (HO.out.lsE (G := fun _ => True) stCells_len (by have := HLn.out; omega) (fun _ _ => trivial)))).mono ?_
                rintro e wbe ⟨rfl, hb⟩
                replace HM : Hid (LdS W0 rb F2 (.slice (some ⟨b, o, none⟩) L.length c) (L ++ [s]) L wbe) := HM.out.below hb
                replace HX : Hid (BxC w.heap.size (slCells s) 32 wbe) := HX.out.below hb
                replace HO : Hid (OwnSt ob wbe (.slice oa (ordL L).length oc) (ordL L)) := HO.out.below hb
                clear hb
                rw [decide_eq_true (rfl : ordL L = ordL L)]
                go_wp2_with fail
                refine (awake_any _).mono ?_
                rintro e wbf ⟨rfl, hb⟩
                replace HM : Hid (LdS W0 rb F2 (.slice (some ⟨b, o, none⟩) L.length c) (L ++ [s]) L wbf) := HM.out.below hb
                replace HX : Hid (BxC w.heap.size (slCells s) 32 wbf) := HX.out.below hb
                replace HO : Hid (OwnSt ob wbf (.slice oa (ordL L).length oc) (ordL L)) := HO.out.below hb
                clear hb
                go_wp2
                go_ret
                exact ⟨rfl, hb01.trans (HM.out.bel.mono hb01.size)⟩
        · have zq : (s.af.1 == 0) = false := by (rw [beq_eq_false_iff_ne]; exact zf)
          clear zz
          go_wp2_with fail
          clear x0 x1 x2 x3
          refine (hasOk_any F rb L s.af _ HM.out.row).mono ?_
          rintro e w5 ⟨rfl, hb⟩
          replace HM : Hid (LdS W0 rb F (.slice (some ⟨b, o, none⟩) L.length c) L L w5) := HM.out.below hb
          replace HX : Hid (BxC w.heap.size (slCells s) 32 w5) := HX.out.below hb
          replace HO : Hid (OwnSt ob w5 (.slice oa (ordL L).length oc) (ordL L)) := HO.out.below hb
          clear hb
          clear zf zq
          cases hA : hasL L s.af with
          | false =>
            go_wp2_with fail
            refine (awake_any _).mono ?_
            rintro e w6 ⟨rfl, hb⟩
            replace HM : Hid (LdS W0 rb F (.slice (some ⟨b, o, none⟩) L.length c) L L w6) := HM.out.below hb
            replace HX : Hid (BxC w.heap.size (slCells s) 32 w6) := HX.out.below hb
            replace HO : Hid (OwnSt ob w6 (.slice oa (ordL L).length oc) (ordL L)) := HO.out.below hb
            clear hb
            go_wp2
            go_ret
            exact ⟨rfl, hb01.trans (HM.out.bel.mono hb01.size)⟩
          | true =>
            have HAf : Hid (s.af = z0 ∨ hasL L s.af = true) := .inr hA
            clear hA
            have x0 : w5.cell? ⟨w.heap.size, 0, none⟩ = some (.int .i64 s.ts.1) := HX.out.cell 0 _ rfl
            have x1 : w5.cell? ⟨w.heap.size, 1, none⟩ = some (.int .i64 s.ts.2) := HX.out.cell 1 _ rfl
            have x2 : w5.cell? ⟨w.heap.size, 2, none⟩ = some (.int .i64 s.af.1) := HX.out.cell 2 _ rfl
            have x3 : w5.cell? ⟨w.heap.size, 3, none⟩ = some (.int .i64 s.af.2) := HX.out.cell 3 _ rfl
            go_wp2_with fail
            clear x0 x1 x2 x3
            have hcall := add_any F rb L s w5 HM.out.row (by have := HLn0.out; omega)
            refine hcall.mono ?_
            clear hcall
            rintro e wca hd
            obtain ⟨he, hd1⟩ := id hd
            subst he
            obtain ⟨F2, hM2⟩ := HM.out.did hd
            replace HM : Hid (LdS W0 rb F2 (.slice (some ⟨b, o, none⟩) L.length c) (addL L s) L wca) := hM2
            obtain ⟨_, _, _, _, hto⟩ := hd1
            replace HX : Hid (BxC w.heap.size (slCells s) 32 wca) := HX.out.touch hto HFx.out
            replace HO : Hid (OwnSt ob wca (.slice oa (ordL L).length oc) (ordL L)) := HO.out.touch hto HFl.out
            clear hd hM2 hto
            cases hO : okS s with
            | false =>
              have hC : addC L s = 2 := by unfold addC; simp [hO]
              have hL : addL L s = L := by unfold addL; simp [hO]
              rw [hC]
              rw [hL] at HM
              clear hC hL
              go_wp2_with fail
              refine (order_any F2 _ L _ HM.out.rv).mono ?_
              rintro e wcb ⟨u, rfl, ho2, hb⟩
              replace HM : Hid (LdS W0 rb F2 (.slice (some ⟨b, o, none⟩) L.length c) L L wcb) := HM.out.below hb
              replace HX : Hid (BxC w.heap.size (slCells s) 32 wcb) := HX.out.below hb
              replace HO : Hid (OwnSt ob wcb (.slice oa (ordL L).length oc) (ordL L)) := HO.out.below hb
              clear hb
              obtain ⟨a2, c2, e2⟩ := ho2.form
              subst e2
              have HO2 : Hid (OwnSt wca.heap.size wcb (.slice a2 (ordL L).length c2) (ordL L)) := ho2
              clear ho2
              go_wp2_with fail
              refine (S.same_any _ _ (ordL L) (ordL L) _ (isS_of (HO2.out.lsE (G := fun _ => True) stCells_len (by have := HLn.out; omega) (fun _ _ => trivial))) (isS_of (HO.out.lsE (G := fun _ => True) stCells_len (by have := HLn.out; omega) (fun _ _ => trivial)))).mono ?_
              rintro e wcc ⟨rfl, hb⟩
              replace HM : Hid (LdS W0 rb F2 (.slice (some ⟨b, o, none⟩) L.length c) L L wcc) := HM.out.below hb
              replace HX : Hid (BxC w.heap.size (slCells s) 32 wcc) := HX.out.below hb
              replace HO : Hid (OwnSt ob wcc (.slice oa (ordL L).length oc) (ordL L)) := HO.out.below hb
              clear hb
              rw [decide_eq_true (rfl : ordL L = ordL L)]
              go_wp2_with fail
              refine (awake_any _).mono ?_
              rintro e wcd ⟨rfl, hb⟩
              replace HM : Hid (LdS W0 rb F2 (.slice (some ⟨b, o, none⟩) L.length c) L L wcd) := HM.out.below hb
              replace HX : Hid (BxC w.heap.size (slCells s) 32 wcd) := HX.out.below hb
              replace HO : Hid (OwnSt ob wcd (.slice oa (ordL L).length oc) (ordL L)) := HO.out.below hb
              clear hb
              go_wp2
              go_ret
              exact ⟨rfl, hb01.trans (HM.out.bel.mono hb01.size)⟩
            | true =>
              cases hH : hasL L s.ts with
              | true =>
                have hC : addC L s = 5 := by unfold addC; simp [hO, hH]
                have hL : addL L s = L := by unfold addL; simp [hO, hH]
                rw [hC]
                rw [hL] at HM
                clear hC hL
                go_wp2_with fail
                refine (order_any F2 _ L _ HM.out.rv).mono ?_
                rintro e wcb ⟨u, rfl, ho2, hb⟩
                replace HM : Hid (LdS W0 rb F2 (.slice (some ⟨b, o, none⟩) L.length c) L L wcb) := HM.out.below hb
                replace HX : Hid (BxC w.heap.size (slCells s) 32 wcb) := HX.out.below hb
                replace HO : Hid (OwnSt ob wcb (.slice oa (ordL L).length oc) (ordL L)) := HO.out.below hb
                clear hb
                obtain ⟨a2, c2, e2⟩ := ho2.form
                subst e2
                have HO2 : Hid (OwnSt wca.heap.size wcb (.slice a2 (ordL L).length c2) (ordL L)) := ho2
                clear ho2
                go_wp2_with fail
                refine (S.same_any _ _ (ordL L) (ordL L) _ (isS_of (HO2.out.lsE (G := fun _ => True) stCells_len (by have := HLn.out; omega) (fun _ _ => trivial))) (isS_of (HO.out.lsE (G := fun _ => True) stCells_len (by have := HLn.out; omega) (fun _ _ => trivial)))).mono ?_
                rintro e wcc ⟨rfl, hb⟩
                replace HM : Hid (LdS W0 rb F2 (.slice (some ⟨b, o, none⟩) L.length c) L L wcc) := HM.out.below hb
                replace HX : Hid (BxC w.heap.size (slCells s) 32 wcc) := HX.out.below hb
                replace HO : Hid (OwnSt ob wcc (.slice oa (ordL L).length oc) (ordL L)) := HO.out.below hb
                clear hb
                rw [decide_eq_true (rfl : ordL L = ordL L)]
                go_wp2_with fail
                refine (awake_any _).mono ?_
                rintro e wcd ⟨rfl, hb⟩
                replace HM : Hid (LdS W0 rb F2 (.slice (some ⟨b, o, none⟩) L.length c) L L wcd) := HM.out.below hb
                replace HX : Hid (BxC w.heap.size (slCells s) 32 wcd) := HX.out.below hb
                replace HO : Hid (OwnSt ob wcd (.slice oa (ordL L).length oc) (ordL L)) := HO.out.below hb
                clear hb
                go_wp2
                go_ret
                exact ⟨rfl, hb01.trans (HM.out.bel.mono hb01.size)⟩
              | false =>
                have hC : addC L s = 0 := by unfold addC; simp [hO, hH]
                have hL : addL L s = L ++ [s] := by unfold addL; simp [hO, hH]
                have HOk : Hid (okS s = true) := hO
                have HHk : Hid (hasL L s.ts = false) := hH
                rw [hC]
                rw [hL] at HM
                clear hC hL hO hH
                go_wp2_with fail
                refine (order_any F2 _ (L ++ [s]) _ HM.out.rv).mono ?_
                rintro e wcb ⟨u, rfl, ho2, hb⟩
                replace HM : Hid (LdS W0 rb F2 (.slice (some ⟨b, o, none⟩) L.length c) (L ++ [s]) L wcb) := HM.out.below hb
                replace HX : Hid (BxC w.heap.size (slCells s) 32 wcb) := HX.out.below hb
                replace HO : Hid (OwnSt ob wcb (.slice oa (ordL L).length oc) (ordL L)) := HO.out.below hb
                clear hb
                have HIl : Hid ((ordL (L ++ [s])).length = (ordL L).length + 1) := by (show _ = _; rw [ord_length (HG.out.snoc HOk.out HHk.out), ord_length HG.out]; simp)
                obtain ⟨ig, ic, e2, hic, _, _⟩ := ho2.cells stCells_len (i := 0) (by have := HIl.out; omega)
                subst e2
                obtain ⟨ib, eib⟩ : ∃ x, x = wca.heap.size := ⟨_, rfl⟩
                rw [← eib] at ho2
                have HI : Hid (OwnSt ib wcb (.slice (some ⟨ig, 0, none⟩) (ordL (L ++ [s])).length ic) (ordL (L ++ [s]))) := ho2
                clear ho2 eib
                have x0 : wcb.cell? ⟨w.heap.size, 0, none⟩ = some (.int .i64 s.ts.1) := HX.out.cell 0 _ rfl
                have x1 : wcb.cell? ⟨w.heap.size, 1, none⟩ = some (.int .i64 s.ts.2) := HX.out.cell 1 _ rfl
                have x2 : wcb.cell? ⟨w.heap.size, 2, none⟩ = some (.int .i64 s.af.1) := HX.out.cell 2 _ rfl
                have x3 : wcb.cell? ⟨w.heap.size, 3, none⟩ = some (.int .i64 s.af.2) := HX.out.cell 3 _ rfl
                go_wp2_with fail
                clear x0 x1 x2 x3
                refine (refPlace_any (fun _ => True) _ (ordL (L ++ [s])) s.ts _ (HI.out.lsE stCells_len (by have := HIl.out; have := HLn.out; omega) fun _ _ => trivial)).mono ?_
                rintro e wcc ⟨n, rfl, hp, hb⟩
                replace HM : Hid (LdS W0 rb F2 (.slice (some ⟨b, o, none⟩) L.length c) (L ++ [s]) L wcc) := HM.out.below hb
                replace HX : Hid (BxC w.heap.size (slCells s) 32 wcc) := HX.out.below hb
                replace HO : Hid (OwnSt ob wcc (.slice oa (ordL L).length oc) (ordL L)) := HO.out.below hb
                replace HI : Hid (OwnSt ib wcc (.slice (some ⟨ig, 0, none⟩) (ordL (L ++ [s])).length ic) (ordL (L ++ [s]))) := HI.out.below hb
                clear hb
                obtain ⟨N, rfl, hN, hsp⟩ := keeps_split HG.out HOk.out HHk.out HNb.out HAf.out hp
                have HSp : Hid (((ordL (L ++ [s])).take N) ++ ((ordL (L ++ [s])).drop (N + 1)) = ordL L) := hsp
                clear hsp hp
                obtain ⟨Wq, eWq⟩ : ∃ X, X = wcc := ⟨_, rfl⟩
                rw [← eWq] at HM HX HO HI ⊢
                clear eWq
                obtain ⟨hig, hpl⟩ : ig < Wq.heap.size ∧ ∀ j u, (flatE stCells (ordL (L ++ [s])))[j]? = some u → Wq.cell? ⟨ig, 0 + j, none⟩ = some u := by
                  obtain ⟨a7, c7, e7, _, _, h7⟩ := HI.out.lsE (G := fun _ => True) stCells_len (by have := HIl.out; have := HLn.out; omega) (fun _ _ => trivial)
                  injection e7 with e71 e72 e73
                  subst e71
                  obtain ⟨b7, o7, e8, _, hlt7, hr7⟩ := h7.resolve_left (by intro e; rw [e] at hN; simp at hN)
                  cases e8
                  exact ⟨hlt7, rows_flat stCells_len _ 0 hr7⟩
                have hbe : Below Wq.heap.size Wq (Wq.alloc (.cells #[] 30)) := (Below.refl _ _).alloc (Nat.le_refl _) _
                have HBu : Hid (BuR stCells 2 30 Wq (.slice (some ⟨Wq.heap.size, 0, none⟩) 0 0) [] (Wq.alloc (.cells #[] 30))) := BuR.newS Wq
                have HC1 : Hid (∀ j u, (flatE stCells ((ordL (L ++ [s])).take N))[j]? = some u → (Wq.alloc (.cells #[] 30)).cell? ((⟨ig, 0, none⟩ : Addr).add j) = some u) := fun j u hj => (by rw [Addr.add_lit]; exact (hbe.cell (p := ⟨ig, 0 + j, none⟩) hig).trans (hpl j u (flat_pre stCells_len hj)))
                have HC2 : Hid (∀ j u, (flatE stCells ((ordL (L ++ [s])).drop (N + 1)))[j]? = some u → Wq.cell? ⟨ig, 0 + (N + 1) * 2 + j, none⟩ = some u) := fun j u hj => (by rw [Nat.add_assoc]; exact hpl _ u (flat_suf stCells_len (by omega) hj))
                have HT1 : Hid (((ordL (L ++ [s])).take N).length = N) := by (show _ = _; rw [List.length_take]; omega)
                have HT2 : Hid (((ordL (L ++ [s])).drop (N + 1)).length = (ordL (L ++ [s])).length - (N + 1)) := by (show _ = _; rw [List.length_drop])
                have hsz1 : Wq.heap.size ≤ (Wq.alloc (.cells #[] 30)).heap.size := hbe.size
                obtain ⟨P, eP⟩ : ∃ P, P = ((ordL (L ++ [s])).take N) := ⟨_, rfl⟩
                obtain ⟨Q, eQ⟩ : ∃ Q, Q = ((ordL (L ++ [s])).drop (N + 1)) := ⟨_, rfl⟩
                rw [← eP] at HC1 HT1 HSp
                rw [← eQ] at HC2 HT2 HSp
                clear eP eQ
                obtain ⟨Ad, hAd, HA2⟩ : ∃ A : Addr, (if ic = N + 1 then some (⟨ig, 0, none⟩ : Addr) else some ⟨ig, 0 + (N + 1) * 2, none⟩) = some A ∧ Hid (∀ V : World, Below Wq.heap.size Wq V → ∀ j u, (flatE stCells Q)[j]? = some u → V.cell? (A.add j) = some u) := src2 stCells_len HC2.out hig hic HT2.out
                rw [Nat.zero_add] at hAd
                have n0 : ¬ ((N : Int) < 0) := by omega
                have nI : ((ordL (L ++ [s])).length : Int) = ((ordL L).length : Int) + 1 := by (have := HIl.out; omega)
                have hIl := HIl.out
                have hll := HLn.out
                have n5 : ((N : Int) + 1).toNat = N + 1 := by omega
                have n12 : IntKind.i64.wrap ((N : Int) + 1) = (N : Int) + 1 := by rw [IntKind.wrap_i64]; omega
                have y1 : (0 : Int) ≤ (N : Int) + 1 := by omega
                have y2 : (N : Int) + 1 ≤ ((ordL (L ++ [s])).length : Int) := by omega
                have y3 : N ≤ ic := by omega
                have y4 : N + 1 ≤ ic := by omega
                have y5 : (0 : Int) ≤ (N : Int) := by omega
                have n13 : IntKind.i64.wrap (((ordL L).length : Int) + 1) = ((ordL L).length : Int) + 1 := by rw [IntKind.wrap_i64]; omega
                clear hbe hpl hig HC2
                go_wp2_with (first
                  | (at_builtin; refine wpList_append_own_at _ rfl _ _ 36 rfl Wq.heap.size 30 ist (.agg #[.int .i64 0, .int .i64 0]) 2 16 Try.underlying36 hist hz0st hz1st hz2st rfl (by decide) _ _ _ rfl HBu.out.own ⟨ig, 0, none⟩ _ _ (flatE stCells P) rfl (by have h8 := flatE_length stCells_len P; have h9 := HT1.out; rw [h8, h9]; try (first | rfl | (congr 1; omega))) HC1.out (flat_st _) (by (try simp only [List.length_nil]); have := HT1.out; have := HLn.out; unfold maxLen; omega) (by (try simp only [List.length_nil]); have := HT1.out; have := HLn.out; omega) hsz1 ?_; intro v1 W8 hown3 hgrow3 hnil3 hat3; have h0 := HBu.out.pushes (E := P) hown3 (by have := HT1.out; omega) hgrow3 hnil3; rw [List.nil_append] at h0; obtain ⟨g1, c1, e3⟩ := h0.sm; subst e3; have HBv : Hid (BuR stCells 2 30 Wq (.slice (some ⟨g1, 0, none⟩) P.length c1) P W8) := h0; clear h0 hown3 hgrow3 hnil3 hat3; have HC3 : Hid (∀ j u, (flatE stCells Q)[j]? = some u → W8.cell? (Ad.add j) = some u) := HA2.out W8 HBv.out.bel; have hsz2 : Wq.heap.size ≤ W8.heap.size := HBv.out.bel.size; clear HBu HC1 hsz1)
                  | (at_builtin; refine wpList_append_own_at _ rfl _ _ 36 rfl Wq.heap.size 30 ist (.agg #[.int .i64 0, .int .i64 0]) 2 16 Try.underlying36 hist hz0st hz1st hz2st rfl (by decide) _ _ _ rfl HBv.out.own Ad _ _ (flatE stCells Q) rfl (by have h8 := flatE_length stCells_len Q; have h9 := HT2.out; rw [h8, h9]; try (first | rfl | (congr 1; omega))) HC3.out (flat_st _) (by (try simp only [List.length_nil]); have := HT1.out; have := HLn.out; unfold maxLen; omega) (by (try simp only [List.length_nil]); have := HT1.out; have := HLn.out; omega) hsz2 ?_; intro v2 W9 hown3 hgrow3 hnil3 hat3; have h0 := HBv.out.pushes (E := Q) hown3 (by have := HT2.out; omega) hgrow3 hnil3; rw [HSp.out] at h0; obtain ⟨g2, c2, e3⟩ := h0.sm; subst e3; have HBw : Hid (BuR stCells 2 30 Wq (.slice (some ⟨g2, 0, none⟩) (ordL L).length c2) (ordL L) W9) := h0; clear h0 hown3 hgrow3 hnil3 hat3; clear HBv HC3 hsz2)
                  | fail)
                replace HM : Hid (LdS W0 rb F2 (.slice (some ⟨b, o, none⟩) L.length c) (L ++ [s]) L W9) := HM.out.below HBw.out.bel
                replace HX : Hid (BxC w.heap.size (slCells s) 32 W9) := HX.out.below HBw.out.bel
                replace HO : Hid (OwnSt ob W9 (.slice oa (ordL L).length oc) (ordL L)) := HO.out.below HBw.out.bel
                have HLf : Hid (OwnSt Wq.heap.size W9 (.slice (some ⟨g2, 0, none⟩) (ordL L).length c2) (ordL L)) := HBw.out.own
                clear HBw
                refine (S.same_any _ _ (ordL L) (ordL L) _ (isS_of (HLf.out.lsE (G := fun _ => True) stCells_len (by have := HLn.out; omega) (fun _ _ => trivial))) (isS_of (HO.out.lsE (G := fun _ => True) stCells_len (by have := HLn.out; omega) (fun _ _ => trivial)))).mono ?_
                rintro e wce ⟨rfl, hb⟩
                replace HM : Hid (LdS W0 rb F2 (.slice (some ⟨b, o, none⟩) L.length c) (L ++ [s]) L wce) := HM.out.below hb
                replace HX : Hid (BxC w.heap.size (slCells s) 32 wce) := HX.out.below hb
                replace HO : Hid (OwnSt ob wce (.slice oa (ordL L).length oc) (ordL L)) := HO.out.below hb
                clear hb
                rw [decide_eq_true (rfl : ordL L = ordL L)]
                go_wp2_with fail
                refine (awake_any _).mono ?_
                rintro e wcf ⟨rfl, hb⟩
                replace HM : Hid (LdS W0 rb F2 (.slice (some ⟨b, o, none⟩) L.length c) (L ++ [s]) L wcf) := HM.out.below hb
                replace HX : Hid (BxC w.heap.size (slCells s) 32 wcf) := HX.out.below hb
                replace HO : Hid (OwnSt ob wcf (.slice oa (ordL L).length oc) (ordL L)) := HO.out.below hb
                clear hb
                go_wp2
                go_ret
                exact ⟨rfl, hb01.trans (HM.out.bel.mono hb01.size)⟩

end Go.Proofs.Ytmclnlpbogmbnaa
