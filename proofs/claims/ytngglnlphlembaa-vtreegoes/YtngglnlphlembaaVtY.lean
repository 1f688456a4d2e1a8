/- The program's Copy. -/
import Derived.Test.YtngglnlphlembaaVtX
import Derived.Deep.Cut
namespace Go.Proofs.Ytngglnlphlembaa
open Go.RowKit
set_option linter.unusedVariables false
set_option linter.unusedSimpArgs false

set_option maxRecDepth 100000 in
set_option maxHeartbeats 4000000 in
theorem copy_n (m : Nat) : ∀ (G : Nat → Prop) (t : VT) (v : Value) (w : World), t.sz ≤ m → VIs G w v t → Calls Try.prog 16 #[v] w fun e w' => ∃ v' F, e = .returned v' ∧ VIs F w' v' t ∧ (∀ k, F k → w.heap.size ≤ k ∧ k < w'.heap.size) ∧ Below w.heap.size w w' ∧ ∃ av kv, v' = .agg #[.int .i64 t.k.1, .int .i64 t.k.2, .string t.tg, .string t.tx, av, kv] ∧ SepF m w' F av kv t := by
  induction m with
  | zero => intro _ t _ _ h; have := t.sz_pos; omega
  | succ m ih =>
    intro G t v w hm hv
    obtain ⟨aa, ca, ak, ck, e1, fd0⟩ := hv.form
    subst e1
    have fd : FdIs (fun k => k < w.heap.size) w (.slice aa t.at_.length ca) (.slice ak t.ks.length ck) t.at_ t.ks := fd0.turn (Nat.le_refl _) fun k _ q => ⟨q, rfl⟩
    clear fd0 hv
    obtain ⟨E, es, le, e3⟩ := fd.ks.rows
    have hEl : E.length = t.ks.length := (by rw [← es, List.length_map])
    obtain ⟨Wa, eW⟩ : ∃ X, X = (w.alloc (.cells #[.int .i64 t.k.1, .int .i64 t.k.2, .string t.tg, .string t.tx, .slice aa t.at_.length ca, .slice ak t.ks.length ck] 27)).alloc (.cells #[.int .i64 0, .int .i64 0, .string ⟨#[]⟩, .string ⟨#[]⟩, .slice none 0 0, .slice none 0 0] 27) := ⟨_, rfl⟩
    have ha : Wa.heap[w.heap.size]? = some (.cells #[.int .i64 t.k.1, .int .i64 t.k.2, .string t.tg, .string t.tx, .slice aa t.at_.length ca, .slice ak t.ks.length ck] 27) := (by rw [eW]; exact (Below.heap_alloc _ _ _ (by simp)).trans (heap_alloc_new w _))
    have hr : Wa.heap[w.heap.size + 1]? = some (.cells #[.int .i64 0, .int .i64 0, .string ⟨#[]⟩, .string ⟨#[]⟩, .slice none 0 0, .slice none 0 0] 27) := (by rw [eW]; have h2 := heap_alloc_new (w.alloc (.cells #[.int .i64 t.k.1, .int .i64 t.k.2, .string t.tg, .string t.tx, .slice aa t.at_.length ca, .slice ak t.ks.length ck] 27)) (.cells #[.int .i64 0, .int .i64 0, .string ⟨#[]⟩, .string ⟨#[]⟩, .slice none 0 0, .slice none 0 0] 27); rw [show (w.alloc (.cells #[.int .i64 t.k.1, .int .i64 t.k.2, .string t.tg, .string t.tx, .slice aa t.at_.length ca, .slice ak t.ks.length ck] 27)).heap.size = w.heap.size + 1 by simp] at h2; exact h2)
    have hba : Below w.heap.size w Wa := (by rw [eW]; exact ((Below.refl _ _).alloc (Nat.le_refl _) _).alloc (by simp) _)
    have hsa : Wa.heap.size = w.heap.size + 2 := (by rw [eW]; simp)
    have HA := hide9 (And.intro ha (And.intro hr (And.intro hba hsa)))
    have HEs := hide9 (And.intro es (And.intro le e3))
    have Hal := hide9 fd.al
    have Hat := hide9 (fd.at_.below hba)
    have hlk := fd.ks.len
    have HE0 := hide9 eW
    obtain ⟨_, _, _, _, p4, _⟩ := row6 ha
    have Hp4 := hide9 p4
    clear es le e3 ha hr hba hsa fd eW p4
    go_enter Try.func16, Try.ntmps16
    go_upto_region 1 with fail
    rw [← HE0.out]
    clear HE0
    have p4 := Hp4.out
    go_wp2_with fail
    clear p4 Hp4
    refine (cloneAts _ _ t.at_ _ Hat.out Hal.out (flat_at _)).mono ?_
    rintro e W1 ⟨v1, rfl, o1, b1⟩
    obtain ⟨a1, c1, e1⟩ := OwnE.form o1
    subst e1
    have r1 := (b1.block _ (by have := HA.out.2.2.2; omega)).trans HA.out.1
    have p4 := (row6 r1).2.2.2.2.1
    have z4 := row6f r1 4
    have r2 : (W1.setCell ⟨w.heap.size, 4, none⟩ (.slice a1 t.at_.length c1)).heap[w.heap.size]? = some (.cells #[.int .i64 t.k.1, .int .i64 t.k.2, .string t.tg, .string t.tx, (.slice a1 t.at_.length c1), (.slice ak t.ks.length ck)] 27) := (by rw [heap_setCell_same W1 w.heap.size 4 _ _ _ r1]; rfl)
    have p5 := (row6 r2).2.2.2.2.2
    have Hr2 := hide9 r2
    have HB2 : Hid (Below w.heap.size w (W1.setCell ⟨w.heap.size, 4, none⟩ (.slice a1 t.at_.length c1))) := ((HA.out.2.2.1.trans (b1.mono HA.out.2.2.1.size)).setCell (p := ⟨w.heap.size, 4, none⟩) (Nat.le_refl _) _)
    have H1 := hide9 (And.intro o1 b1)
    clear o1 b1 r1 r2
    go_wp2_with fail
    clear p4 p5 z4
    refine (cloneNds (fun k => k < w.heap.size) _ E _ (HEs.out.2.1.below HB2.out) (by omega) (flat_vn HEs.out.2.2)).mono ?_
    rintro e W3 ⟨v3, rfl, o3, b3⟩
    obtain ⟨a3, c3, e3⟩ := OwnE.form o3
    obtain ⟨n, en⟩ : ∃ n, n = E.length := ⟨_, rfl⟩
    rw [← en] at e3
    subst e3
    have r3 := (b3.block _ (row_lt Hr2.out)).trans Hr2.out
    have p5 := (row6 r3).2.2.2.2.2
    have z5 := row6f r3 5
    have HS : Hid (PcS m w t (fun k => Value.ownBlock (.slice a1 t.at_.length c1) = some k) (.slice a1 t.at_.length c1) (.slice a3 n c3) E 0 (W3.setCell ⟨w.heap.size, 5, none⟩ (.slice a3 n c3))) := PcS.start HA.out.1 HA.out.2.1 HA.out.2.2.1 HA.out.2.2.2 H1.out.1 H1.out.2 Hal.out o3 b3 HEs.out.1 HEs.out.2.2
    have q5 := (row6 HS.out.tb).2.2.2.2.2
    have Hn0 : Hid (n = t.ks.length) := en.trans hEl
    clear r3 o3 b3 HA H1 HEs Hat HB2 Hr2 en hEl
    go_wp2
    clear p5 z5 q5
    go_loopw [16] (fun iv wr => ∃ (i : Nat) (H : Nat → Prop) (E2 : List (VT × Value × Value)), iv = .int .i64 (i : Int) ∧ i ≤ n ∧ Hid (PcS m w t H (.slice a1 t.at_.length c1) (.slice a3 n c3) E2 i wr)) (fun iv _ => n - (intOf iv).toNat)
    case atStart => exact ⟨0, _, E, rfl, Nat.zero_le _, HS⟩
    case round =>
      clear HS
      obtain ⟨i, H, E2, rfl, hin, HS⟩ := hrel
      have hE2 : E2.length = n := HS.out.len.trans Hn0.out.symm
      have hnb : n ≤ 1466015503701 := (by have := Hn0.out; omega)
      by_cases hlt : i < n
      · have hiE : i < E2.length := by omega
        obtain ⟨g, cap, eg, _, hcs, _⟩ := OwnE.cells vnC_len HS.out.row hiE
        injection eg with e1 e2 e3
        subst e1
        clear e2 e3
        have fx := HS.out.eo i hiE (Nat.le_refl _)
        have hgl := (OwnE.lt HS.out.row g rfl).2
        have p0 := hcs 0 _ rfl
        have p1 := hcs 1 _ rfl
        have p2 := hcs 2 _ rfl
        have p3 := hcs 3 _ rfl
        have p4 := hcs 4 _ rfl
        have p5 := hcs 5 _ rfl
        have hsx : E2[i].1.sz ≤ m := (by have h9 : E2[i].1 = t.ks[i]'(by have := Hn0.out; omega) := (by simp only [← HS.out.es, List.getElem_map]); rw [h9]; have := VT.kid (t := t) (i := i) (by have := Hn0.out; omega); omega)
        obtain ⟨y, ey⟩ : ∃ y, y = E2[i] := ⟨_, rfl⟩
        rw [← ey] at fx p0 p1 p2 p3 p4 p5 hsx
        have Hey := hide9 ey
        obtain ⟨x, xv, kv⟩ := y
        obtain ⟨xa, cx, e1⟩ := fx.at_.form
        obtain ⟨xk, dx, e2⟩ := fx.ks.form
        dsimp only at e1 e2
        subst e1 e2
        replace p0 : wr.cell? ⟨g, i * 6, none⟩ = some (.int .i64 x.k.1) := p0
        replace p1 : wr.cell? ⟨g, i * 6 + 1, none⟩ = some (.int .i64 x.k.2) := p1
        replace p2 : wr.cell? ⟨g, i * 6 + 2, none⟩ = some (.string x.tg) := p2
        replace p3 : wr.cell? ⟨g, i * 6 + 3, none⟩ = some (.string x.tx) := p3
        replace p4 : wr.cell? ⟨g, i * 6 + 4, none⟩ = some (.slice xa x.at_.length cx) := p4
        replace p5 : wr.cell? ⟨g, i * 6 + 5, none⟩ = some (.slice xk x.ks.length dx) := p5
        have Hsz : Hid (x.sz ≤ m) := hsx
        have HiE := hide9 hiE
        have Hn : Hid (n = E2.length) := (by show _ = _; omega)
        have hz : (wr.alloc (.cells #[.int .i64 0, .int .i64 0, .string ⟨#[]⟩, .string ⟨#[]⟩, .slice none 0 0, .slice none 0 0] 27)).heap[wr.heap.size]? = some (.cells #[.int .i64 0, .int .i64 0, .string ⟨#[]⟩, .string ⟨#[]⟩, .slice none 0 0, .slice none 0 0] 27) := heap_alloc_new _ _
        obtain ⟨W5, eW5⟩ : ∃ X, X = (wr.alloc (.cells #[.int .i64 0, .int .i64 0, .string ⟨#[]⟩, .string ⟨#[]⟩, .slice none 0 0, .slice none 0 0] 27)).setRow wr.heap.size #[.int .i64 x.k.1, .int .i64 x.k.2, .string x.tg, .string x.tx, .slice xa x.at_.length cx, .slice xk x.ks.length dx] := ⟨_, rfl⟩
        have hb5 : Below wr.heap.size wr W5 := (by rw [eW5]; exact ((Below.refl _ _).alloc (Nat.le_refl _) _).grown (grown_setRow _ _ _) (by simp) (fun k e => by cases e; exact Nat.le_refl _))
        obtain ⟨kb, ekb⟩ : ∃ n, n = wr.heap.size := ⟨_, rfl⟩
        have HK : Hid (W5.heap[kb]? = some (.cells #[.int .i64 x.k.1, .int .i64 x.k.2, .string x.tg, .string x.tx, .slice xa x.at_.length cx, .slice xk x.ks.length dx] 27)) := (by rw [eW5, ekb]; exact setRow_same hz)
        have HP : Hid (PcS m w t H (.slice a1 t.at_.length c1) (.slice (some ⟨g, 0, none⟩) n c3) E2 i W5) := HS.out.below hb5
        have HFx : Hid (FdIs (fun k => k < w.heap.size) W5 (.slice xa x.at_.length cx) (.slice xk x.ks.length dx) x.at_ x.ks) := fx.below hb5
        have Hgk : Hid (g ≠ kb) := (by show _ ≠ _; omega)
        have HE5 := hide9 (And.intro eW5 ekb)
        have Hz := hide9 hz
        have k1 : (i : Int) < (n : Int) := by omega
        have k0 : (0 : Int) ≤ (i : Int) := by omega
        clear ey fx hsx hcs hgl hz hb5 eW5 ekb HS hE2
        go_wp2_with (refine wpList_store_row rfl 27 (.tmp 4) (.tmp 20) rfl wr.heap.size 27 #[.int .i64 0, .int .i64 0, .string ⟨#[]⟩, .string ⟨#[]⟩, .slice none 0 0, .slice none 0 0] #[.int .i64 x.k.1, .int .i64 x.k.2, .string x.tg, .string x.tx, .slice xa x.at_.length cx, .slice xk x.ks.length dx] rfl rfl Hz.out sizeVN rfl (by simp [Value.oneCell']) ?_)
        rw [← HE5.out.1, ← HE5.out.2]
        clear HE5 Hz p0 p1 p2 p3 p4 p5
        refine wp_region_held_drew (S := fun W' => (W'.heap[w.heap.size]? = some (.cells #[.int .i64 t.k.1, .int .i64 t.k.2, .string t.tg, .string t.tx, (.slice a1 t.at_.length c1), (.slice (some ⟨g, 0, none⟩) n c3)] 27) ∧ W'.heap[kb]? = some (.cells #[.int .i64 x.k.1, .int .i64 x.k.2, .string x.tg, .string x.tx, .slice xa x.at_.length cx, .slice xk x.ks.length dx] 27))) (by kernel_rfl) ⟨HP.out.tb, HK.out⟩ (fun hHeld => ?_)
        obtain ⟨Uy1u0, eW⟩ : ∃ X, X = W5.drew := ⟨_, rfl⟩
        have hb : Below W5.heap.size W5 Uy1u0 := by rw [eW]; exact (Below.refl _ _).drew
        replace HP : Hid (PcS m w t H (.slice a1 t.at_.length c1) (.slice (some ⟨g, 0, none⟩) n c3) E2 i Uy1u0) := HP.out.below hb
        replace HFx : Hid (FdIs (fun k => k < w.heap.size) Uy1u0 (.slice xa x.at_.length cx) (.slice xk x.ks.length dx) x.at_ x.ks) := HFx.out.below hb
        rw [← eW] at hHeld ⊢
        clear eW hb
        refine tkW 0 (some 21) (v := ?_) ?_ hHeld ?_
        rotate_left
        · (intro ww _; go_simp; try with_reducible rfl)
        refine tkW 1 (some 22) (v := ?_) ?_ hHeld ?_
        rotate_left
        · (intro ww hSw; (try dsimp only at hSw); have a0 := (row6 hSw.1).1; have a1 := (row6 hSw.1).2.1; have a2 := (row6 hSw.1).2.2.1; have a3 := (row6 hSw.1).2.2.2.1; have a4 := (row6 hSw.1).2.2.2.2.1; have a5 := (row6 hSw.1).2.2.2.2.2; go_simp; try with_reducible rfl)
        refine tkW 2 (some 23) (v := ?_) ?_ hHeld ?_
        rotate_left
        · (intro ww _; go_simp; try with_reducible rfl)
        refine tkW 3 (some 24) (v := ?_) ?_ hHeld ?_
        rotate_left
        · (intro ww hSw; (try dsimp only at hSw); have a0 := (row6 hSw.2).1; have a1 := (row6 hSw.2).2.1; have a2 := (row6 hSw.2).2.2.1; have a3 := (row6 hSw.2).2.2.2.1; have a4 := (row6 hSw.2).2.2.2.2.1; have a5 := (row6 hSw.2).2.2.2.2.2; go_simp; try with_reducible rfl)
        refine wpAnyH_ready (rs := [4]) (by kernel_rfl) (by simp) ?_
        refine AllReadyH.cons (o := ⟨some 25, _, _, _, _, _⟩) rfl (fun K hK => ?_) AllReadyH.nil
        go_simp
        refine (ih (fun k => k < w.heap.size) x _ _ Hsz.out (VIs.of HFx.out)).mono ?_
        rintro e Uy1u1 ⟨v7, F7, rfl, hv7, hF7, hb, av7, kv7, e8, hs7⟩
        obtain ⟨ya, cy, yk, dy, e7, fy⟩ := hv7.form
        subst e7
        have e9 : (.slice ya x.at_.length cy = av7) ∧ (.slice yk x.ks.length dy = kv7) := (by simpa using e8)
        obtain ⟨e9, e10⟩ := e9
        subst e9 e10
        have HS7 : Hid (∃ Wk, PcS m w t H (.slice a1 t.at_.length c1) (.slice (some ⟨g, 0, none⟩) n c3) E2 i Wk ∧ Below Wk.heap.size Wk Uy1u1 ∧ (∀ k, F7 k → Wk.heap.size ≤ k ∧ k < Uy1u1.heap.size) ∧ FdIs F7 Uy1u1 (.slice ya x.at_.length cy) (.slice yk x.ks.length dy) x.at_ x.ks ∧ SepF m Uy1u1 F7 (.slice ya x.at_.length cy) (.slice yk x.ks.length dy) x) := ⟨_, HP.out, hb, hF7, fy, hs7⟩
        have HP7 : Hid (PcS m w t H (.slice a1 t.at_.length c1) (.slice (some ⟨g, 0, none⟩) n c3) E2 i Uy1u1) := HP.out.below hb
        have hS7 : (Uy1u1.heap[w.heap.size]? = some (.cells #[.int .i64 t.k.1, .int .i64 t.k.2, .string t.tg, .string t.tx, (.slice a1 t.at_.length c1), (.slice (some ⟨g, 0, none⟩) n c3)] 27) ∧ Uy1u1.heap[kb]? = some (.cells #[.int .i64 x.k.1, .int .i64 x.k.2, .string x.tg, .string x.tx, .slice xa x.at_.length cx, .slice xk x.ks.length dx] 27)) := ⟨HP7.out.tb, (hb.block _ (row_lt hHeld.2)).trans hHeld.2⟩
        clear hv7 hF7 fy HP HFx hs7 e8
        (try go_wp2_with fail)
        refine hK.out _ _ (hS7) (fun hHeld2 => ?_)
        clear hK K hHeld
        have hHeld := hHeld2
        clear hHeld2
        (try simp only [Act.put, List.setIfInBounds_toArray, List.set_cons_zero, List.set_cons_succ])
        clear hS7 hb
        refine tkW 5 (some 26) (v := ?_) ?_ hHeld ?_
        rotate_left
        · (intro ww hSw; (try dsimp only at hSw); go_simp; try with_reducible rfl)
        refine wpAnyH_ready (rs := [6]) (by kernel_rfl) (by simp) ?_
        refine AllReadyH.cons (o := ⟨none, _, _, _, _, _⟩) rfl (fun K hK => ?_) AllReadyH.nil
        refine step_store_mid rfl 27 (.tmp 26) (.tmp 25) rfl g (i * 6) #[.int .i64 x.k.1, .int .i64 x.k.2, .string x.tg, .string x.tx, .slice ya x.at_.length cy, .slice yk x.ks.length dy] rfl rfl (HP7.out.there HiE.out) sizeVN (by simp [Value.oneCell']) ?_
        have HPn : Hid (∃ H2 E3, PcS m w t H2 (.slice a1 t.at_.length c1) (.slice (some ⟨g, 0, none⟩) n c3) E3 (i + 1) (Uy1u1.setCells g (i * 6) (#[.int .i64 x.k.1, .int .i64 x.k.2, .string x.tg, .string x.tx, .slice ya x.at_.length cy, .slice yk x.ks.length dy]).toList)) := (by obtain ⟨Wk, h1, h2, h3, h4, h5⟩ := HS7.out; exact ⟨_, _, h1.over Hn.out HiE.out (by rw [← Hey.out]) h2 h3 h4 h5⟩)
        refine hK.out _ _ ((by obtain ⟨_, _, h9⟩ := HPn.out; exact ⟨h9.tb, ((owns_setCells (n := n) (cap := c3) (base := w.heap.size + 2) (e := 27) (size := 6) _ _ (flatE vnC E2) _ (by have h8 : OwnE vnC 6 27 (w.heap.size + 2) _ _ E2 := HP7.out.row; unfold OwnE at h8; rw [← Hn.out] at h8; exact h8)).2.block _ (row_lt hHeld.2) (fun e => Hgk.out (by cases e; rfl))).trans hHeld.2⟩)) (fun hHeld2 => ?_)
        clear hK K hHeld
        have hHeld := hHeld2
        clear hHeld2
        (try simp only [Act.put, List.setIfInBounds_toArray, List.set_cons_zero, List.set_cons_succ])
        obtain ⟨Uy1u2, eWn⟩ : ∃ X, X = Uy1u1.setCells g (i * 6) (#[.int .i64 x.k.1, .int .i64 x.k.2, .string x.tg, .string x.tx, .slice ya x.at_.length cy, .slice yk x.ks.length dy]).toList := ⟨_, rfl⟩
        rw [← eWn] at HPn hHeld ⊢
        clear eWn HS7 HP7
        refine wpAnyH_done (by kernel_rfl) ?_ _
        clear hHeld
        obtain ⟨H2, E3, hpn⟩ := HPn.out
        have HP9 := hide9 hpn
        clear hpn HPn
        have nw1 : IntKind.i64.wrap ((i : Int) + 1) = (i : Int) + 1 := by rw [IntKind.wrap_i64]; omega
        go_wp2
        go_roundw
        case rel => exact ⟨i + 1, H2, E3, by go_num, by omega, HP9⟩
        case measure => simp [intOf]; omega
      · have ei : i = n := by omega
        subst ei
        have hn := Hn0.out
        clear Hn0 hE2
        subst hn
        have hdn := HS.out.done hlk Hal.out
        have hse := HS.out.sep hlk Hal.out
        obtain ⟨n0, n1, n2, n3, n4, n5⟩ := row6 HS.out.tb
        have Hrb := hide9 HS.out.rb
        have r9 : (wr.setRow (w.heap.size + 1) #[.int .i64 t.k.1, .int .i64 t.k.2, .string t.tg, .string t.tx, (.slice a1 t.at_.length c1), (.slice a3 t.ks.length c3)]).heap[w.heap.size + 1]? = some (.cells #[.int .i64 t.k.1, .int .i64 t.k.2, .string t.tg, .string t.tx, (.slice a1 t.at_.length c1), (.slice a3 t.ks.length c3)] 27) := setRow_same HS.out.rb
        have HE9 := hide9 r9
        have HQ : Hid (FdIs (fun k => H k ∨ Value.ownBlock (.slice a3 t.ks.length c3) = some k) (wr.setRow (w.heap.size + 1) #[.int .i64 t.k.1, .int .i64 t.k.2, .string t.tg, .string t.tx, (.slice a1 t.at_.length c1), (.slice a3 t.ks.length c3)]) (.slice a1 t.at_.length c1) (.slice a3 t.ks.length c3) t.at_ t.ks ∧ (∀ k, (H k ∨ Value.ownBlock (.slice a3 t.ks.length c3) = some k) → w.heap.size ≤ k ∧ k < (wr.setRow (w.heap.size + 1) #[.int .i64 t.k.1, .int .i64 t.k.2, .string t.tg, .string t.tx, (.slice a1 t.at_.length c1), (.slice a3 t.ks.length c3)]).heap.size) ∧ Below w.heap.size w (wr.setRow (w.heap.size + 1) #[.int .i64 t.k.1, .int .i64 t.k.2, .string t.tg, .string t.tx, (.slice a1 t.at_.length c1), (.slice a3 t.ks.length c3)]) ∧ SepF (m + 1) (wr.setRow (w.heap.size + 1) #[.int .i64 t.k.1, .int .i64 t.k.2, .string t.tg, .string t.tx, (.slice a1 t.at_.length c1), (.slice a3 t.ks.length c3)]) (fun k => H k ∨ Value.ownBlock (.slice a3 t.ks.length c3) = some k) (.slice a1 t.at_.length c1) (.slice a3 t.ks.length c3) t) := ⟨hdn.turn (by simp) (fun k q _ => ⟨q, setRow_other _ _ _ _ (by rcases q with q | q; have := (HS.out.hH k q).1; omega; have := (OwnE.lt HS.out.row k q).1; omega)⟩), fun k q => (by have h9 : (wr.setRow (w.heap.size + 1) #[.int .i64 t.k.1, .int .i64 t.k.2, .string t.tg, .string t.tx, (.slice a1 t.at_.length c1), (.slice a3 t.ks.length c3)]).heap.size = wr.heap.size := (by simp); rw [h9]; rcases q with q | q; have := HS.out.hH k q; omega; have := OwnE.lt HS.out.row k q; omega), HS.out.bel.grown (grown_setRow _ _ _) HS.out.bel.size (fun k e => by cases e; omega), hse.turn _ (fun k q => setRow_other _ _ _ _ (by rcases q with q | q; have := (HS.out.hH k q).1; omega; have := (OwnE.lt HS.out.row k q).1; omega))⟩
        have k1 : ¬ (t.ks.length : Int) < (t.ks.length : Int) := by omega
        clear hdn hse r9 HS
        go_wp2_with (refine wpList_store_row rfl 27 (.tmp 2) (.tmp 28) rfl (w.heap.size + 1) 27 #[.int .i64 0, .int .i64 0, .string ⟨#[]⟩, .string ⟨#[]⟩, .slice none 0 0, .slice none 0 0] #[.int .i64 t.k.1, .int .i64 t.k.2, .string t.tg, .string t.tx, (.slice a1 t.at_.length c1), (.slice a3 t.ks.length c3)] rfl rfl Hrb.out sizeVN rfl (by simp [Value.oneCell']) ?_)
        refine bodyPost_ret (results_cell_row rfl _ _ (w.heap.size + 1) _ _ _ _ rfl HE9.out Try.underlying27 rfl sizeVN) rfl ?_
        exact ⟨_, rfl, _, VIs.of HQ.out.1, HQ.out.2.1, HQ.out.2.2.1, _, _, rfl, HQ.out.2.2.2⟩

theorem copy_sep (G : Nat → Prop) (t : VT) (v : Value) (w : World) (hv : VIs G w v t) : Calls Try.prog 16 #[v] w fun e w' => ∃ v' F, e = .returned v' ∧ VIs F w' v' t ∧ (∀ k, F k → w.heap.size ≤ k ∧ k < w'.heap.size) ∧ Below w.heap.size w w' ∧ ∃ av kv, v' = .agg #[.int .i64 t.k.1, .int .i64 t.k.2, .string t.tg, .string t.tx, av, kv] ∧ SepF t.sz w' F av kv t := copy_n t.sz G t v w (Nat.le_refl _) hv
theorem copy_any (G : Nat → Prop) (t : VT) (v : Value) (w : World) (hv : VIs G w v t) : Calls Try.prog 16 #[v] w fun e w' => ∃ v' F, e = .returned v' ∧ VIs F w' v' t ∧ (∀ k, F k → w.heap.size ≤ k ∧ k < w'.heap.size) ∧ Below w.heap.size w w' := (copy_sep G t v w hv).mono fun e w' ⟨v', F, h1, h2, h3, h4, _⟩ => ⟨v', F, h1, h2, h3, h4⟩

end Go.Proofs.Ytngglnlphlembaa
