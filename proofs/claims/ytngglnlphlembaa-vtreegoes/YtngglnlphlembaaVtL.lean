/- The document's Copy. -/
import Derived.Test.YtngglnlphlembaaVtK
import Derived.Deep.AppendLies
import Derived.Deep.Cut
namespace Go.Proofs.Ytngglnlphlembaa
open Go.RowKit
set_option linter.unusedVariables false
set_option linter.unusedSimpArgs false

set_option maxRecDepth 100000 in
set_option maxHeartbeats 16000000 in
theorem refCopy_n (m : Nat) : ∀ (G : Nat → Prop) (t : VT) (v : Value) (w : World), t.sz ≤ m → VIs G w v t → Calls Try.prog 6 #[v] w fun e w' => ∃ v' F, e = .returned v' ∧ VIs F w' v' t ∧ (∀ k, F k → w.heap.size ≤ k ∧ k < w'.heap.size) ∧ Below w.heap.size w w' ∧ ∃ av kv, v' = .agg #[.int .i64 t.k.1, .int .i64 t.k.2, .string t.tg, .string t.tx, av, kv] ∧ SepF m w' F av kv t := by
  induction m with
  | zero => intro _ t _ _ h; have := t.sz_pos; omega
  | succ m ih =>
    intro G t v w hm hv
    obtain ⟨aa, ca, ak, ck, e1, fd⟩ := hv.form
    subst e1
    have Hfd := hide9 fd
    obtain ⟨i0, hin, hz0, hz1, hz2⟩ := info_parts infoVn
    obtain ⟨W0, eW⟩ : ∃ X, X = (w.alloc (.cells #[.int .i64 t.k.1, .int .i64 t.k.2, .string t.tg, .string t.tx, .slice aa t.at_.length ca, .slice ak t.ks.length ck] 27)).alloc (.cells #[.int .i64 0, .int .i64 0, .string ⟨#[]⟩, .string ⟨#[]⟩, .slice none 0 0, .slice none 0 0] 27) := ⟨_, rfl⟩
    have HC : Hid (Cp0 w t aa ca ak ck W0) := (by rw [eW]; have h2 := heap_alloc_new (w.alloc (.cells #[.int .i64 t.k.1, .int .i64 t.k.2, .string t.tg, .string t.tx, .slice aa t.at_.length ca, .slice ak t.ks.length ck] 27)) (.cells #[.int .i64 0, .int .i64 0, .string ⟨#[]⟩, .string ⟨#[]⟩, .slice none 0 0, .slice none 0 0] 27); rw [show (w.alloc (.cells #[.int .i64 t.k.1, .int .i64 t.k.2, .string t.tg, .string t.tx, .slice aa t.at_.length ca, .slice ak t.ks.length ck] 27)).heap.size = w.heap.size + 1 by simp] at h2; exact ⟨(Below.heap_alloc _ _ _ (by simp)).trans (heap_alloc_new w _), h2, ((Below.refl _ _).alloc (Nat.le_refl _) _).alloc (by simp) _⟩)
    have HE0 := hide9 eW
    have hlk := fd.ks.len
    clear hv fd eW
    go_enter Try.func6, Try.ntmps6
    go_wp2
    rw [← HE0.out]
    clear HE0
    rename_i KK hKK
    have REST : ∀ (ob eb : Nat) (a9 : Option Addr) (c9 : Nat) (W1 : World), Hid (CpS m w t aa ca ak ck (fun k => (Value.slice a9 t.at_.length c9).ownBlock = some k) ob (.slice a9 t.at_.length c9) (.slice none 0 0) [] 0 W1) → KK { tmps := #[.agg #[.int .i64 t.k.1, .int .i64 t.k.2, .string t.tg, .string t.tx, .slice aa t.at_.length ca, .slice ak t.ks.length ck], .pointer (some ⟨w.heap.size, 0, none⟩), .pointer (some ⟨w.heap.size + 1, 0, none⟩), .pointer (some ⟨ob, 0, none⟩), undef, .pointer (some ⟨w.heap.size, 0, none⟩), .agg #[.int .i64 t.k.1, .int .i64 t.k.2], .pointer (some ⟨w.heap.size, 2, none⟩), .string t.tg, .pointer (some ⟨w.heap.size, 3, none⟩), .string t.tx, .slice (some ⟨eb, 0, none⟩) 0 0, .pointer (some ⟨w.heap.size, 4, none⟩), .slice aa t.at_.length ca, .slice a9 t.at_.length c9, .agg #[.int .i64 t.k.1, .int .i64 t.k.2, .string t.tg, .string t.tx, (.slice a9 t.at_.length c9), .slice none 0 0], undef, undef, undef, undef, undef, undef, undef, undef, undef, undef, undef, undef, undef, undef, undef, undef, undef, undef, undef], defers := [] } W1 := by
      clear HC
      intro ob eb a9 c9 W1 HP
      refine hKK _ _ ?_
      clear hKK
      have z5 := (row6 HP.out.c0.tb).2.2.2.2.2
      go_wp2
      go_loopw [4] (fun iv wr => ∃ (i : Nat) (kv : Value) (E : List (VT × Value × Value)) (H : Nat → Prop), iv = .int .i64 (i : Int) ∧ i ≤ t.ks.length ∧ Hid (CpS m w t aa ca ak ck H ob (.slice a9 t.at_.length c9) kv E i wr)) (fun iv _ => t.ks.length - (intOf iv).toNat)
      case atStart => exact ⟨0, _, _, _, rfl, Nat.zero_le _, HP⟩
      case round =>
        clear HP z5
        obtain ⟨i, kv, E, H, rfl, hi, HP⟩ := hrel
        have z5 := (row6 HP.out.c0.tb).2.2.2.2.2
        by_cases hlt : i < t.ks.length
        · obtain ⟨b1, o1, rfl, _, hl1, hv1⟩ := Hfd.out.ks.kid hlt
          have hszx : t.ks[i].sz ≤ m := (by have := VT.kid (t := t) hlt; omega)
          obtain ⟨x, ex⟩ : ∃ x, x = t.ks[i] := ⟨_, rfl⟩
          rw [← ex] at hv1 hszx
          have Hx : Hid (x = t.ks[i]) := ex
          obtain ⟨xa, cx, xk, dx, p0, p1, p2, p3, p4, p5, fx⟩ := hv1.cells
          have HKc := hide9 (And.intro hl1 (And.intro p0 (And.intro p1 (And.intro p2 (And.intro p3 (And.intro p4 p5))))))
          have HFx : Hid (FdIs (fun k => k < w.heap.size) wr (.slice xa x.at_.length cx) (.slice xk x.ks.length dx) x.at_ x.ks) := fx.turn HP.out.c0.bel.size (fun k _ q => ⟨q, HP.out.c0.bel.block k q⟩)
          have Hsz : Hid (x.sz ≤ m) := hszx
          have k1 : (i : Int) < (t.ks.length : Int) := by omega
          have k0 : (0 : Int) ≤ (i : Int) := by omega
          have HQ1 : Hid (w.heap.size < wr.heap.size ∧ wr.cell? ⟨w.heap.size, 5, none⟩ = some (.slice (some ⟨b1, o1, none⟩) t.ks.length ck)) := ⟨row_lt HP.out.c0.tb, z5⟩
          obtain ⟨ka, kc, ekv⟩ := OwnE.form HP.out.row
          subst ekv
          have HQ2 : Hid (ob < wr.heap.size ∧ wr.cell? ⟨ob, 5, none⟩ = some (.slice ka E.length kc)) := ⟨row_lt HP.out.obx, (row6 HP.out.obx).2.2.2.2.2⟩
          have HEl : Hid (E.length = i) := (by have h9 := congrArg List.length HP.out.es; rw [List.length_map, List.length_take] at h9; show _ = _; omega)
          clear hl1 hv1 hszx ex fx p0 p1 p2 p3 p4 p5
          go_upto_region 5 with fail
          clear z5
          refine wp_region_held_drew (S := fun W' => Cp0 w t aa ca (some ⟨b1, o1, none⟩) ck W') (by kernel_rfl) (HP.out.c0.below (Below.refl _ _).drew) (fun hHeld => ?_)
          obtain ⟨Uq1u0, eW⟩ : ∃ X, X = wr.drew := ⟨_, rfl⟩
          have hb : Below wr.heap.size wr Uq1u0 := by rw [eW]; exact (Below.refl _ _).drew
          replace HP : Hid (CpS m w t aa ca (some ⟨b1, o1, none⟩) ck H ob (.slice a9 t.at_.length c9) (.slice ka E.length kc) E i Uq1u0) := HP.out.below hb
          replace HFx : Hid (FdIs (fun k => k < w.heap.size) Uq1u0 (.slice xa x.at_.length cx) (.slice xk x.ks.length dx) x.at_ x.ks) := HFx.out.below hb
          rw [← eW] at hHeld ⊢
          clear eW hb
          refine tkW 0 (some 23) (v := ?_) ?_ hHeld ?_
          rotate_left
          · (intro ww _; go_simp; try with_reducible rfl)
          refine tkW 2 (some 25) (v := ?_) ?_ hHeld ?_
          rotate_left
          · (intro ww _; go_simp; try with_reducible rfl)
          refine tkW 3 (some 26) (v := ?_) ?_ hHeld ?_
          rotate_left
          · (intro ww hSw; (try dsimp only at hSw); have q5 : ww.cell? ⟨w.heap.size, 5, none⟩ = some (.slice (some ⟨b1, o1, none⟩) t.ks.length ck) := (row6 hSw.tb).2.2.2.2.2; go_simp; try with_reducible rfl)
          refine tkW 4 (some 27) (v := ?_) ?_ hHeld ?_
          rotate_left
          · (intro ww _; go_simp; try with_reducible rfl)
          refine tkW 5 (some 28) (v := ?_) ?_ hHeld ?_
          rotate_left
          · (intro ww hSw; (try dsimp only at hSw); go_simp; try with_reducible rfl)
          refine tkW 6 (some 29) (v := ?_) ?_ hHeld ?_
          rotate_left
          · (intro ww hSw; (try dsimp only at hSw); obtain ⟨p0, p1, p2, p3, p4, p5⟩ := HKc.out.2; replace p0 := (hSw.bel.cell (p := ⟨b1, o1 + i * 6, none⟩) HKc.out.1).trans p0; replace p1 := (hSw.bel.cell (p := ⟨b1, o1 + i * 6 + 1, none⟩) HKc.out.1).trans p1; replace p2 := (hSw.bel.cell (p := ⟨b1, o1 + i * 6 + 2, none⟩) HKc.out.1).trans p2; replace p3 := (hSw.bel.cell (p := ⟨b1, o1 + i * 6 + 3, none⟩) HKc.out.1).trans p3; replace p4 := (hSw.bel.cell (p := ⟨b1, o1 + i * 6 + 4, none⟩) HKc.out.1).trans p4; replace p5 := (hSw.bel.cell (p := ⟨b1, o1 + i * 6 + 5, none⟩) HKc.out.1).trans p5; go_simp; try with_reducible rfl)
          refine wpAnyH_ready (rs := [1, 7]) (by kernel_rfl) (by simp) ?_
          refine AllReadyH.cons (o := ⟨some 24, _, _, _, _, _⟩) rfl (fun K hK => ?_) (AllReadyH.cons (o := ⟨some 30, _, _, _, _, _⟩) rfl (fun K hK => ?_) AllReadyH.nil)
          · have q5 := (row6 HP.out.obx).2.2.2.2.2
            go_simp
            refine hK.out _ _ (hHeld) (fun hHeld2 => ?_)
            clear hK K hHeld
            have hHeld := hHeld2
            clear hHeld2
            (try simp only [Act.put, List.setIfInBounds_toArray, List.set_cons_zero, List.set_cons_succ])
            clear q5
            refine wpAnyH_ready (rs := [7]) (by kernel_rfl) (by simp) ?_
            refine AllReadyH.cons (o := ⟨some 30, _, _, _, _, _⟩) rfl (fun K hK => ?_) AllReadyH.nil
            go_simp
            refine (ih (fun k => k < w.heap.size) x _ _ Hsz.out (VIs.of HFx.out)).mono ?_
            rintro e Uq1u2 ⟨v7, F7, rfl, hv7, hF7, hb, av7, kv7, e8, hs7⟩
            obtain ⟨ya, cy, yk, dy, e7, fy⟩ := hv7.form
            subst e7
            have e9 : (.slice ya x.at_.length cy = av7) ∧ (.slice yk x.ks.length dy = kv7) := (by simpa using e8)
            obtain ⟨e9, e10⟩ := e9
            subst e9 e10
            have HS7 : Hid (∃ Wk, CpS m w t aa ca (some ⟨b1, o1, none⟩) ck H ob (.slice a9 t.at_.length c9) (.slice ka E.length kc) E i Wk ∧ Below Wk.heap.size Wk Uq1u2 ∧ (∀ k, F7 k → Wk.heap.size ≤ k ∧ k < Uq1u2.heap.size) ∧ FdIs F7 Uq1u2 (.slice ya x.at_.length cy) (.slice yk x.ks.length dy) x.at_ x.ks ∧ SepF m Uq1u2 F7 (.slice ya x.at_.length cy) (.slice yk x.ks.length dy) x) := ⟨_, HP.out, hb, hF7, fy, hs7⟩
            have HP7 : Hid (CpS m w t aa ca (some ⟨b1, o1, none⟩) ck H ob (.slice a9 t.at_.length c9) (.slice ka E.length kc) E i Uq1u2) := HP.out.below hb
            clear hv7 hF7 fy HP HFx hs7 e8
            (try go_wp2_with fail)
            refine hK.out _ _ (HP7.out.c0) (fun hHeld2 => ?_)
            clear hK K hHeld
            have hHeld := hHeld2
            clear hHeld2
            (try simp only [Act.put, List.setIfInBounds_toArray, List.set_cons_zero, List.set_cons_succ])
            clear hb
            refine wpAnyH_ready (rs := [8]) (by kernel_rfl) (by simp) ?_
            refine AllReadyH.cons (o := ⟨some 31, _, _, _, _, _⟩) rfl (fun K hK => ?_) AllReadyH.nil
            have hbx : Below Uq1u2.heap.size Uq1u2 (Uq1u2.alloc (.cells #[.int .i64 x.k.1, .int .i64 x.k.2, .string x.tg, .string x.tx, .slice ya x.at_.length cy, .slice yk x.ks.length dy] 27)) := (Below.refl _ _).alloc (Nat.le_refl _) _
            go_simp
            refine hK.out _ _ (hHeld.below hbx) (fun hHeld2 => ?_)
            clear hK K hHeld
            have hHeld := hHeld2
            clear hHeld2
            (try simp only [Act.put, List.setIfInBounds_toArray, List.set_cons_zero, List.set_cons_succ])
            obtain ⟨Uq1u3, eW⟩ : ∃ X, X = Uq1u2.alloc (.cells #[.int .i64 x.k.1, .int .i64 x.k.2, .string x.tg, .string x.tx, .slice ya x.at_.length cy, .slice yk x.ks.length dy] 27) := ⟨_, rfl⟩
            have hb : Below Uq1u2.heap.size Uq1u2 Uq1u3 := by rw [eW]; exact (Below.refl _ _).alloc (Nat.le_refl _) _
            have HT : Hid (Uq1u3.heap[Uq1u2.heap.size]? = some (.cells #[.int .i64 x.k.1, .int .i64 x.k.2, .string x.tg, .string x.tx, .slice ya x.at_.length cy, .slice yk x.ks.length dy] 27)) := (by rw [eW]; exact heap_alloc_new _ _)
            replace HS7 : Hid (∃ Wk, CpS m w t aa ca (some ⟨b1, o1, none⟩) ck H ob (.slice a9 t.at_.length c9) (.slice ka E.length kc) E i Wk ∧ Below Wk.heap.size Wk Uq1u3 ∧ (∀ k, F7 k → Wk.heap.size ≤ k ∧ k < Uq1u3.heap.size) ∧ FdIs F7 Uq1u3 (.slice ya x.at_.length cy) (.slice yk x.ks.length dy) x.at_ x.ks ∧ SepF m Uq1u3 F7 (.slice ya x.at_.length cy) (.slice yk x.ks.length dy) x) := (by obtain ⟨Wk, h1, h2, h3, h4, h5⟩ := HS7.out; exact ⟨Wk, h1, h2.trans (hb.mono h2.size), fun k q => ⟨(h3 k q).1, Nat.lt_of_lt_of_le (h3 k q).2 hb.size⟩, h4.below hb, h5.turn m fun k q => hb.block k (h3 k q).2⟩)
            replace HP7 : Hid (CpS m w t aa ca (some ⟨b1, o1, none⟩) ck H ob (.slice a9 t.at_.length c9) (.slice ka E.length kc) E i Uq1u3) := HP7.out.below hb
            rw [← eW] at hHeld ⊢
            clear eW
            clear hbx
            obtain ⟨tb9, etb⟩ : ∃ b, b = Uq1u2.heap.size := ⟨_, rfl⟩
            rw [← etb] at HT ⊢
            clear etb
            clear hb
            refine wpAnyH_ready (rs := [9]) (by kernel_rfl) (by simp) ?_
            refine AllReadyH.cons (o := ⟨some 32, _, _, _, _, _⟩) rfl (fun K hK => ?_) AllReadyH.nil
            refine step_append_lies _ rfl _ _ 25 rfl (w.heap.size + 2) 27 i0 (.agg #[.int .i64 0, .int .i64 0, .string ⟨#[]⟩, .string ⟨#[]⟩, .slice none 0 0, .slice none 0 0]) 6 96 Try.underlying25 hin hz0 hz1 hz2 rfl (by decide) (.slice ka E.length kc) E.length (flatE vnC E) rfl HP7.out.row ⟨tb9, 0, none⟩ 1 1 (vnC (x, .slice ya x.at_.length cy, .slice yk x.ks.length dy)) rfl rfl (fun j u hj => by rw [Addr.add_lit, Nat.zero_add, cell_of_row _ tb9 _ _ _ _ HT.out]; simpa [vnC, ndC] using hj) (fun y hy => by simp [vnC, ndC] at hy; rcases hy with rfl | rfl | rfl | rfl | rfl | rfl <;> rfl) (by decide) (by have := HEl.out; have := Hfd.out.ks.len; unfold maxLen; omega) (by have := HEl.out; have := Hfd.out.ks.len; omega) (by have := row_lt HP7.out.c0.rb; omega) Uq1u3.heap.size rfl ?_
            intro g3 c3 Uq1u4 hown3 hgr3 hat3 hlt3
            have hown4 : OwnVn (w.heap.size + 2) Uq1u4 (.slice (some ⟨g3, 0, none⟩) (E.length + 1) c3) (E ++ [(x, .slice ya x.at_.length cy, .slice yk x.ks.length dy)]) := OwnE.snoc rfl hown3
            have HW3 : Hid (Uq1u3.heap.size ≤ Uq1u4.heap.size ∧ Uq1u4.heap[ob]? = some (.cells #[.int .i64 t.k.1, .int .i64 t.k.2, .string t.tg, .string t.tx, (.slice a9 t.at_.length c9), (.slice ka E.length kc)] 27)) := ⟨hgr3.size, (hgr3.block _ (row_lt HP7.out.obx) (fun e => HP7.out.ho.2 e.symm)).trans HP7.out.obx⟩
            have HPn : Hid (∃ H2, CpS m w t aa ca (some ⟨b1, o1, none⟩) ck H2 ob (.slice a9 t.at_.length c9) (.slice (some ⟨g3, 0, none⟩) (E.length + 1) c3) (E ++ [(x, .slice ya x.at_.length cy, .slice yk x.ks.length dy)]) (i + 1) (Uq1u4.setCell ⟨ob, 5, none⟩ (.slice (some ⟨g3, 0, none⟩) (E.length + 1) c3))) := (by obtain ⟨Wk, h1, h2, h3, h4, h5⟩ := HS7.out; exact ⟨_, h1.push hlt Hx.out h2 h3 h4 h5 hown4 hgr3 (hat3.elim (fun e => .inl e.symm) (fun e => .inr (by rw [e]; rfl)))⟩)
            have hC3 : Cp0 w t aa ca (some ⟨b1, o1, none⟩) ck Uq1u4 := HP7.out.c0.grown hgr3 (fun k e => (OwnE.lt HP7.out.row k e).1)
            clear hown3 hown4 hgr3 hat3 hlt3 HS7 HP7 HT
            refine hK.out _ _ (hC3) (fun hHeld2 => ?_)
            clear hK K hHeld
            have hHeld := hHeld2
            clear hHeld2
            (try simp only [Act.put, List.setIfInBounds_toArray, List.set_cons_zero, List.set_cons_succ])
            clear hC3
            refine tkW 10 (some 33) (v := ?_) ?_ hHeld ?_
            rotate_left
            · (intro ww _; go_simp; try with_reducible rfl)
            refine wpAnyH_ready (rs := [11]) (by kernel_rfl) (by simp) ?_
            refine AllReadyH.cons (o := ⟨none, _, _, _, _, _⟩) rfl (fun K hK => ?_) AllReadyH.nil
            have o5 := (row6 HW3.out.2).2.2.2.2.2
            have o6 := row6f HW3.out.2 5
            go_simp
            refine hK.out _ _ ((by obtain ⟨_, h9⟩ := HPn.out; exact h9.c0)) (fun hHeld2 => ?_)
            clear hK K hHeld
            have hHeld := hHeld2
            clear hHeld2
            (try simp only [Act.put, List.setIfInBounds_toArray, List.set_cons_zero, List.set_cons_succ])
            obtain ⟨Uq1u5, eWn⟩ : ∃ X, X = Uq1u4.setCell ⟨ob, 5, none⟩ (.slice (some ⟨g3, 0, none⟩) (E.length + 1) c3) := ⟨_, rfl⟩
            rw [← eWn] at HPn hHeld ⊢
            clear eWn o5 o6 HW3
            refine wpAnyH_done (by kernel_rfl) ?_ _
            clear hHeld
            obtain ⟨H2, hpn⟩ := HPn.out
            have HP9 := hide9 hpn
            clear hpn HPn
            have n1 : IntKind.i64.wrap ((i : Int) + 1) = (i : Int) + 1 := by rw [IntKind.wrap_i64]; omega
            go_wp2
            go_roundw
            case rel => exact ⟨i + 1, _, _, H2, by go_num, by omega, HP9⟩
            case measure => simp [intOf]; omega
          · go_simp
            refine (ih (fun k => k < w.heap.size) x _ _ Hsz.out (VIs.of HFx.out)).mono ?_
            rintro e Uq1u6 ⟨v7, F7, rfl, hv7, hF7, hb, av7, kv7, e8, hs7⟩
            obtain ⟨ya, cy, yk, dy, e7, fy⟩ := hv7.form
            subst e7
            have e9 : (.slice ya x.at_.length cy = av7) ∧ (.slice yk x.ks.length dy = kv7) := (by simpa using e8)
            obtain ⟨e9, e10⟩ := e9
            subst e9 e10
            have HS7 : Hid (∃ Wk, CpS m w t aa ca (some ⟨b1, o1, none⟩) ck H ob (.slice a9 t.at_.length c9) (.slice ka E.length kc) E i Wk ∧ Below Wk.heap.size Wk Uq1u6 ∧ (∀ k, F7 k → Wk.heap.size ≤ k ∧ k < Uq1u6.heap.size) ∧ FdIs F7 Uq1u6 (.slice ya x.at_.length cy) (.slice yk x.ks.length dy) x.at_ x.ks ∧ SepF m Uq1u6 F7 (.slice ya x.at_.length cy) (.slice yk x.ks.length dy) x) := ⟨_, HP.out, hb, hF7, fy, hs7⟩
            have HP7 : Hid (CpS m w t aa ca (some ⟨b1, o1, none⟩) ck H ob (.slice a9 t.at_.length c9) (.slice ka E.length kc) E i Uq1u6) := HP.out.below hb
            clear hv7 hF7 fy HP HFx hs7 e8
            (try go_wp2_with fail)
            refine hK.out _ _ (HP7.out.c0) (fun hHeld2 => ?_)
            clear hK K hHeld
            have hHeld := hHeld2
            clear hHeld2
            (try simp only [Act.put, List.setIfInBounds_toArray, List.set_cons_zero, List.set_cons_succ])
            clear hb
            refine wpAnyH_ready (rs := [1, 8]) (by kernel_rfl) (by simp) ?_
            refine AllReadyH.cons (o := ⟨some 24, _, _, _, _, _⟩) rfl (fun K hK => ?_) (AllReadyH.cons (o := ⟨some 31, _, _, _, _, _⟩) rfl (fun K hK => ?_) AllReadyH.nil)
            · have q5 := (row6 HP7.out.obx).2.2.2.2.2
              go_simp
              refine hK.out _ _ (hHeld) (fun hHeld2 => ?_)
              clear hK K hHeld
              have hHeld := hHeld2
              clear hHeld2
              (try simp only [Act.put, List.setIfInBounds_toArray, List.set_cons_zero, List.set_cons_succ])
              clear q5
              refine wpAnyH_ready (rs := [8]) (by kernel_rfl) (by simp) ?_
              refine AllReadyH.cons (o := ⟨some 31, _, _, _, _, _⟩) rfl (fun K hK => ?_) AllReadyH.nil
              have hbx : Below Uq1u6.heap.size Uq1u6 (Uq1u6.alloc (.cells #[.int .i64 x.k.1, .int .i64 x.k.2, .string x.tg, .string x.tx, .slice ya x.at_.length cy, .slice yk x.ks.length dy] 27)) := (Below.refl _ _).alloc (Nat.le_refl _) _
              go_simp
              refine hK.out _ _ (hHeld.below hbx) (fun hHeld2 => ?_)
              clear hK K hHeld
              have hHeld := hHeld2
              clear hHeld2
              (try simp only [Act.put, List.setIfInBounds_toArray, List.set_cons_zero, List.set_cons_succ])
              obtain ⟨Uq1u8, eW⟩ : ∃ X, X = Uq1u6.alloc (.cells #[.int .i64 x.k.1, .int .i64 x.k.2, .string x.tg, .string x.tx, .slice ya x.at_.length cy, .slice yk x.ks.length dy] 27) := ⟨_, rfl⟩
              have hb : Below Uq1u6.heap.size Uq1u6 Uq1u8 := by rw [eW]; exact (Below.refl _ _).alloc (Nat.le_refl _) _
              have HT : Hid (Uq1u8.heap[Uq1u6.heap.size]? = some (.cells #[.int .i64 x.k.1, .int .i64 x.k.2, .string x.tg, .string x.tx, .slice ya x.at_.length cy, .slice yk x.ks.length dy] 27)) := (by rw [eW]; exact heap_alloc_new _ _)
              replace HS7 : Hid (∃ Wk, CpS m w t aa ca (some ⟨b1, o1, none⟩) ck H ob (.slice a9 t.at_.length c9) (.slice ka E.length kc) E i Wk ∧ Below Wk.heap.size Wk Uq1u8 ∧ (∀ k, F7 k → Wk.heap.size ≤ k ∧ k < Uq1u8.heap.size) ∧ FdIs F7 Uq1u8 (.slice ya x.at_.length cy) (.slice yk x.ks.length dy) x.at_ x.ks ∧ SepF m Uq1u8 F7 (.slice ya x.at_.length cy) (.slice yk x.ks.length dy) x) := (by obtain ⟨Wk, h1, h2, h3, h4, h5⟩ := HS7.out; exact ⟨Wk, h1, h2.trans (hb.mono h2.size), fun k q => ⟨(h3 k q).1, Nat.lt_of_lt_of_le (h3 k q).2 hb.size⟩, h4.below hb, h5.turn m fun k q => hb.block k (h3 k q).2⟩)
              replace HP7 : Hid (CpS m w t aa ca (some ⟨b1, o1, none⟩) ck H ob (.slice a9 t.at_.length c9) (.slice ka E.length kc) E i Uq1u8) := HP7.out.below hb
              rw [← eW] at hHeld ⊢
              clear eW
              clear hbx
              obtain ⟨tb9, etb⟩ : ∃ b, b = Uq1u6.heap.size := ⟨_, rfl⟩
              rw [← etb] at HT ⊢
              clear etb
              clear hb
              refine wpAnyH_ready (rs := [9]) (by kernel_rfl) (by simp) ?_
              refine AllReadyH.cons (o := ⟨some 32, _, _, _, _, _⟩) rfl (fun K hK => ?_) AllReadyH.nil
              refine step_append_lies _ rfl _ _ 25 rfl (w.heap.size + 2) 27 i0 (.agg #[.int .i64 0, .int .i64 0, .string ⟨#[]⟩, .string ⟨#[]⟩, .slice none 0 0, .slice none 0 0]) 6 96 Try.underlying25 hin hz0 hz1 hz2 rfl (by decide) (.slice ka E.length kc) E.length (flatE vnC E) rfl HP7.out.row ⟨tb9, 0, none⟩ 1 1 (vnC (x, .slice ya x.at_.length cy, .slice yk x.ks.length dy)) rfl rfl (fun j u hj => by rw [Addr.add_lit, Nat.zero_add, cell_of_row _ tb9 _ _ _ _ HT.out]; simpa [vnC, ndC] using hj) (fun y hy => by simp [vnC, ndC] at hy; rcases hy with rfl | rfl | rfl | rfl | rfl | rfl <;> rfl) (by decide) (by have := HEl.out; have := Hfd.out.ks.len; unfold maxLen; omega) (by have := HEl.out; have := Hfd.out.ks.len; omega) (by have := row_lt HP7.out.c0.rb; omega) Uq1u8.heap.size rfl ?_
              intro g3 c3 Uq1u9 hown3 hgr3 hat3 hlt3
              have hown4 : OwnVn (w.heap.size + 2) Uq1u9 (.slice (some ⟨g3, 0, none⟩) (E.length + 1) c3) (E ++ [(x, .slice ya x.at_.length cy, .slice yk x.ks.length dy)]) := OwnE.snoc rfl hown3
              have HW3 : Hid (Uq1u8.heap.size ≤ Uq1u9.heap.size ∧ Uq1u9.heap[ob]? = some (.cells #[.int .i64 t.k.1, .int .i64 t.k.2, .string t.tg, .string t.tx, (.slice a9 t.at_.length c9), (.slice ka E.length kc)] 27)) := ⟨hgr3.size, (hgr3.block _ (row_lt HP7.out.obx) (fun e => HP7.out.ho.2 e.symm)).trans HP7.out.obx⟩
              have HPn : Hid (∃ H2, CpS m w t aa ca (some ⟨b1, o1, none⟩) ck H2 ob (.slice a9 t.at_.length c9) (.slice (some ⟨g3, 0, none⟩) (E.length + 1) c3) (E ++ [(x, .slice ya x.at_.length cy, .slice yk x.ks.length dy)]) (i + 1) (Uq1u9.setCell ⟨ob, 5, none⟩ (.slice (some ⟨g3, 0, none⟩) (E.length + 1) c3))) := (by obtain ⟨Wk, h1, h2, h3, h4, h5⟩ := HS7.out; exact ⟨_, h1.push hlt Hx.out h2 h3 h4 h5 hown4 hgr3 (hat3.elim (fun e => .inl e.symm) (fun e => .inr (by rw [e]; rfl)))⟩)
              have hC3 : Cp0 w t aa ca (some ⟨b1, o1, none⟩) ck Uq1u9 := HP7.out.c0.grown hgr3 (fun k e => (OwnE.lt HP7.out.row k e).1)
              clear hown3 hown4 hgr3 hat3 hlt3 HS7 HP7 HT
              refine hK.out _ _ (hC3) (fun hHeld2 => ?_)
              clear hK K hHeld
              have hHeld := hHeld2
              clear hHeld2
              (try simp only [Act.put, List.setIfInBounds_toArray, List.set_cons_zero, List.set_cons_succ])
              clear hC3
              refine tkW 10 (some 33) (v := ?_) ?_ hHeld ?_
              rotate_left
              · (intro ww _; go_simp; try with_reducible rfl)
              refine wpAnyH_ready (rs := [11]) (by kernel_rfl) (by simp) ?_
              refine AllReadyH.cons (o := ⟨none, _, _, _, _, _⟩) rfl (fun K hK => ?_) AllReadyH.nil
              have o5 := (row6 HW3.out.2).2.2.2.2.2
              have o6 := row6f HW3.out.2 5
              go_simp
              refine hK.out _ _ ((by obtain ⟨_, h9⟩ := HPn.out; exact h9.c0)) (fun hHeld2 => ?_)
              clear hK K hHeld
              have hHeld := hHeld2
              clear hHeld2
              (try simp only [Act.put, List.setIfInBounds_toArray, List.set_cons_zero, List.set_cons_succ])
              obtain ⟨Uq1u10, eWn⟩ : ∃ X, X = Uq1u9.setCell ⟨ob, 5, none⟩ (.slice (some ⟨g3, 0, none⟩) (E.length + 1) c3) := ⟨_, rfl⟩
              rw [← eWn] at HPn hHeld ⊢
              clear eWn o5 o6 HW3
              refine wpAnyH_done (by kernel_rfl) ?_ _
              clear hHeld
              obtain ⟨H2, hpn⟩ := HPn.out
              have HP9 := hide9 hpn
              clear hpn HPn
              have n1 : IntKind.i64.wrap ((i : Int) + 1) = (i : Int) + 1 := by rw [IntKind.wrap_i64]; omega
              go_wp2
              go_roundw
              case rel => exact ⟨i + 1, _, _, H2, by go_num, by omega, HP9⟩
              case measure => simp [intOf]; omega
            · have hbx : Below Uq1u6.heap.size Uq1u6 (Uq1u6.alloc (.cells #[.int .i64 x.k.1, .int .i64 x.k.2, .string x.tg, .string x.tx, .slice ya x.at_.length cy, .slice yk x.ks.length dy] 27)) := (Below.refl _ _).alloc (Nat.le_refl _) _
              go_simp
              refine hK.out _ _ (hHeld.below hbx) (fun hHeld2 => ?_)
              clear hK K hHeld
              have hHeld := hHeld2
              clear hHeld2
              (try simp only [Act.put, List.setIfInBounds_toArray, List.set_cons_zero, List.set_cons_succ])
              obtain ⟨Uq1u11, eW⟩ : ∃ X, X = Uq1u6.alloc (.cells #[.int .i64 x.k.1, .int .i64 x.k.2, .string x.tg, .string x.tx, .slice ya x.at_.length cy, .slice yk x.ks.length dy] 27) := ⟨_, rfl⟩
              have hb : Below Uq1u6.heap.size Uq1u6 Uq1u11 := by rw [eW]; exact (Below.refl _ _).alloc (Nat.le_refl _) _
              have HT : Hid (Uq1u11.heap[Uq1u6.heap.size]? = some (.cells #[.int .i64 x.k.1, .int .i64 x.k.2, .string x.tg, .string x.tx, .slice ya x.at_.length cy, .slice yk x.ks.length dy] 27)) := (by rw [eW]; exact heap_alloc_new _ _)
              replace HS7 : Hid (∃ Wk, CpS m w t aa ca (some ⟨b1, o1, none⟩) ck H ob (.slice a9 t.at_.length c9) (.slice ka E.length kc) E i Wk ∧ Below Wk.heap.size Wk Uq1u11 ∧ (∀ k, F7 k → Wk.heap.size ≤ k ∧ k < Uq1u11.heap.size) ∧ FdIs F7 Uq1u11 (.slice ya x.at_.length cy) (.slice yk x.ks.length dy) x.at_ x.ks ∧ SepF m Uq1u11 F7 (.slice ya x.at_.length cy) (.slice yk x.ks.length dy) x) := (by obtain ⟨Wk, h1, h2, h3, h4, h5⟩ := HS7.out; exact ⟨Wk, h1, h2.trans (hb.mono h2.size), fun k q => ⟨(h3 k q).1, Nat.lt_of_lt_of_le (h3 k q).2 hb.size⟩, h4.below hb, h5.turn m fun k q => hb.block k (h3 k q).2⟩)
              replace HP7 : Hid (CpS m w t aa ca (some ⟨b1, o1, none⟩) ck H ob (.slice a9 t.at_.length c9) (.slice ka E.length kc) E i Uq1u11) := HP7.out.below hb
              rw [← eW] at hHeld ⊢
              clear eW
              clear hbx
              obtain ⟨tb9, etb⟩ : ∃ b, b = Uq1u6.heap.size := ⟨_, rfl⟩
              rw [← etb] at HT ⊢
              clear etb
              clear hb
              refine wpAnyH_ready (rs := [1]) (by kernel_rfl) (by simp) ?_
              refine AllReadyH.cons (o := ⟨some 24, _, _, _, _, _⟩) rfl (fun K hK => ?_) AllReadyH.nil
              have q5 := (row6 HP7.out.obx).2.2.2.2.2
              go_simp
              refine hK.out _ _ (hHeld) (fun hHeld2 => ?_)
              clear hK K hHeld
              have hHeld := hHeld2
              clear hHeld2
              (try simp only [Act.put, List.setIfInBounds_toArray, List.set_cons_zero, List.set_cons_succ])
              clear q5
              refine wpAnyH_ready (rs := [9]) (by kernel_rfl) (by simp) ?_
              refine AllReadyH.cons (o := ⟨some 32, _, _, _, _, _⟩) rfl (fun K hK => ?_) AllReadyH.nil
              refine step_append_lies _ rfl _ _ 25 rfl (w.heap.size + 2) 27 i0 (.agg #[.int .i64 0, .int .i64 0, .string ⟨#[]⟩, .string ⟨#[]⟩, .slice none 0 0, .slice none 0 0]) 6 96 Try.underlying25 hin hz0 hz1 hz2 rfl (by decide) (.slice ka E.length kc) E.length (flatE vnC E) rfl HP7.out.row ⟨tb9, 0, none⟩ 1 1 (vnC (x, .slice ya x.at_.length cy, .slice yk x.ks.length dy)) rfl rfl (fun j u hj => by rw [Addr.add_lit, Nat.zero_add, cell_of_row _ tb9 _ _ _ _ HT.out]; simpa [vnC, ndC] using hj) (fun y hy => by simp [vnC, ndC] at hy; rcases hy with rfl | rfl | rfl | rfl | rfl | rfl <;> rfl) (by decide) (by have := HEl.out; have := Hfd.out.ks.len; unfold maxLen; omega) (by have := HEl.out; have := Hfd.out.ks.len; omega) (by have := row_lt HP7.out.c0.rb; omega) Uq1u11.heap.size rfl ?_
              intro g3 c3 Uq1u13 hown3 hgr3 hat3 hlt3
              have hown4 : OwnVn (w.heap.size + 2) Uq1u13 (.slice (some ⟨g3, 0, none⟩) (E.length + 1) c3) (E ++ [(x, .slice ya x.at_.length cy, .slice yk x.ks.length dy)]) := OwnE.snoc rfl hown3
              have HW3 : Hid (Uq1u11.heap.size ≤ Uq1u13.heap.size ∧ Uq1u13.heap[ob]? = some (.cells #[.int .i64 t.k.1, .int .i64 t.k.2, .string t.tg, .string t.tx, (.slice a9 t.at_.length c9), (.slice ka E.length kc)] 27)) := ⟨hgr3.size, (hgr3.block _ (row_lt HP7.out.obx) (fun e => HP7.out.ho.2 e.symm)).trans HP7.out.obx⟩
              have HPn : Hid (∃ H2, CpS m w t aa ca (some ⟨b1, o1, none⟩) ck H2 ob (.slice a9 t.at_.length c9) (.slice (some ⟨g3, 0, none⟩) (E.length + 1) c3) (E ++ [(x, .slice ya x.at_.length cy, .slice yk x.ks.length dy)]) (i + 1) (Uq1u13.setCell ⟨ob, 5, none⟩ (.slice (some ⟨g3, 0, none⟩) (E.length + 1) c3))) := (by obtain ⟨Wk, h1, h2, h3, h4, h5⟩ := HS7.out; exact ⟨_, h1.push hlt Hx.out h2 h3 h4 h5 hown4 hgr3 (hat3.elim (fun e => .inl e.symm) (fun e => .inr (by rw [e]; rfl)))⟩)
              have hC3 : Cp0 w t aa ca (some ⟨b1, o1, none⟩) ck Uq1u13 := HP7.out.c0.grown hgr3 (fun k e => (OwnE.lt HP7.out.row k e).1)
              clear hown3 hown4 hgr3 hat3 hlt3 HS7 HP7 HT
              refine hK.out _ _ (hC3) (fun hHeld2 => ?_)
              clear hK K hHeld
              have hHeld := hHeld2
              clear hHeld2
              (try simp only [Act.put, List.setIfInBounds_toArray, List.set_cons_zero, List.set_cons_succ])
              clear hC3
              refine tkW 10 (some 33) (v := ?_) ?_ hHeld ?_
              rotate_left
              · (intro ww _; go_simp; try with_reducible rfl)
              refine wpAnyH_ready (rs := [11]) (by kernel_rfl) (by simp) ?_
              refine AllReadyH.cons (o := ⟨none, _, _, _, _, _⟩) rfl (fun K hK => ?_) AllReadyH.nil
              have o5 := (row6 HW3.out.2).2.2.2.2.2
              have o6 := row6f HW3.out.2 5
              go_simp
              refine hK.out _ _ ((by obtain ⟨_, h9⟩ := HPn.out; exact h9.c0)) (fun hHeld2 => ?_)
              clear hK K hHeld
              have hHeld := hHeld2
              clear hHeld2
              (try simp only [Act.put, List.setIfInBounds_toArray, List.set_cons_zero, List.set_cons_succ])
              obtain ⟨Uq1u14, eWn⟩ : ∃ X, X = Uq1u13.setCell ⟨ob, 5, none⟩ (.slice (some ⟨g3, 0, none⟩) (E.length + 1) c3) := ⟨_, rfl⟩
              rw [← eWn] at HPn hHeld ⊢
              clear eWn o5 o6 HW3
              refine wpAnyH_done (by kernel_rfl) ?_ _
              clear hHeld
              obtain ⟨H2, hpn⟩ := HPn.out
              have HP9 := hide9 hpn
              clear hpn HPn
              have n1 : IntKind.i64.wrap ((i : Int) + 1) = (i : Int) + 1 := by rw [IntKind.wrap_i64]; omega
              go_wp2
              go_roundw
              case rel => exact ⟨i + 1, _, _, H2, by go_num, by omega, HP9⟩
              case measure => simp [intOf]; omega
        · have ei : i = t.ks.length := by omega
          subst ei
          have hdn := HP.out.done Hfd.out.ks.len Hfd.out.al
          have hse := HP.out.sep Hfd.out.ks.len Hfd.out.al
          have HRr := hide9 HP.out.c0.rb
          obtain ⟨ka, kc, ekv⟩ := OwnE.form HP.out.row
          have HEl : Hid (E.length = t.ks.length) := (by have h9 := congrArg List.length HP.out.es; rw [List.length_map, List.length_take] at h9; show _ = _; omega)
          subst ekv
          have z6 := row6 HP.out.obx
          obtain ⟨n0, n1, n2, n3, n4, n5⟩ := z6
          have HE : Hid ((wr.setRow (w.heap.size + 1) #[.int .i64 t.k.1, .int .i64 t.k.2, .string t.tg, .string t.tx, (.slice a9 t.at_.length c9), (.slice ka E.length kc)]).heap[w.heap.size + 1]? = some (.cells #[.int .i64 t.k.1, .int .i64 t.k.2, .string t.tg, .string t.tx, (.slice a9 t.at_.length c9), (.slice ka E.length kc)] 27)) := setRow_same HRr.out
          have HB : Hid (Below w.heap.size w (wr.setRow (w.heap.size + 1) #[.int .i64 t.k.1, .int .i64 t.k.2, .string t.tg, .string t.tx, (.slice a9 t.at_.length c9), (.slice ka E.length kc)])) := HP.out.c0.bel.grown (grown_setRow _ _ _) HP.out.c0.bel.size (fun k e => by cases e; omega)
          have HFf : Hid (FdIs (fun k => H k ∨ (Value.slice ka E.length kc).ownBlock = some k) (wr.setRow (w.heap.size + 1) #[.int .i64 t.k.1, .int .i64 t.k.2, .string t.tg, .string t.tx, (.slice a9 t.at_.length c9), (.slice ka E.length kc)]) (.slice a9 t.at_.length c9) (.slice ka E.length kc) t.at_ t.ks ∧ SepF (m + 1) (wr.setRow (w.heap.size + 1) #[.int .i64 t.k.1, .int .i64 t.k.2, .string t.tg, .string t.tx, (.slice a9 t.at_.length c9), (.slice ka E.length kc)]) (fun k => H k ∨ (Value.slice ka E.length kc).ownBlock = some k) (.slice a9 t.at_.length c9) (.slice ka E.length kc) t ∧ ∀ k, (H k ∨ (Value.slice ka E.length kc).ownBlock = some k) → w.heap.size ≤ k ∧ k < wr.heap.size) := (by have hq : ∀ k, (H k ∨ (Value.slice ka E.length kc).ownBlock = some k) → w.heap.size + 2 ≤ k ∧ k < wr.heap.size := fun k q => q.elim (fun q => ⟨(HP.out.hH k q).1, (HP.out.hH k q).2.1⟩) (fun q => OwnE.lt HP.out.row k q); exact ⟨hdn.turn (by simp) (fun k q _ => ⟨q, setRow_other _ _ _ _ (by have := (hq k q).1; omega)⟩), hse.turn _ (fun k q => setRow_other _ _ _ _ (by have := (hq k q).1; omega)), fun k q => ⟨by have := (hq k q).1; omega, (hq k q).2⟩⟩)
          have k1 : ¬ (t.ks.length : Int) < (t.ks.length : Int) := by omega
          clear hdn hse HP
          go_wp2_with (refine wpList_store_row rfl 27 (.tmp 2) (.tmp 34) rfl (w.heap.size + 1) 27 #[.int .i64 0, .int .i64 0, .string ⟨#[]⟩, .string ⟨#[]⟩, .slice none 0 0, .slice none 0 0] #[.int .i64 t.k.1, .int .i64 t.k.2, .string t.tg, .string t.tx, (.slice a9 t.at_.length c9), (.slice ka E.length kc)] rfl rfl HRr.out sizeVN rfl (by simp [Value.oneCell']) ?_)
          refine bodyPost_ret (results_cell_row rfl _ _ (w.heap.size + 1) _ _ _ _ rfl HE.out Try.underlying27 rfl sizeVN) rfl ?_
          exact ⟨_, rfl, _, ⟨_, _, rfl, HFf.out.1⟩, fun k q => ⟨(HFf.out.2.2 k q).1, by simp; exact (HFf.out.2.2 k q).2⟩, HB.out, _, _, rfl, HFf.out.2.1⟩
    refine wp_region_held_drew (S := fun W' => Cp0 w t aa ca ak ck W') (by kernel_rfl) (HC.out.below (Below.refl _ _).drew) (fun hHeld => ?_)
    obtain ⟨Uc2u0, eW⟩ : ∃ X, X = W0.drew := ⟨_, rfl⟩
    have hb : Below W0.heap.size W0 Uc2u0 := by rw [eW]; exact (Below.refl _ _).drew
    replace HC : Hid (Cp0 w t aa ca ak ck Uc2u0) := HC.out.below hb
    rw [← eW] at hHeld ⊢
    clear eW hb
    refine tkW 0 (some 5) (v := ?_) ?_ hHeld ?_
    rotate_left
    · (intro ww _; go_simp; try with_reducible rfl)
    refine tkW 1 (some 6) (v := ?_) ?_ hHeld ?_
    rotate_left
    · (intro ww hSw; (try dsimp only at hSw); have t0 : ww.cell? ⟨w.heap.size, 0, none⟩ = some (.int .i64 t.k.1) := (by rw [cell_of_row _ _ _ _ _ _ hSw.tb]; rfl); have t1 : ww.cell? ⟨w.heap.size, 1, none⟩ = some (.int .i64 t.k.2) := (by rw [cell_of_row _ _ _ _ _ _ hSw.tb]; rfl); have t2 : ww.cell? ⟨w.heap.size, 2, none⟩ = some (.string t.tg) := (by rw [cell_of_row _ _ _ _ _ _ hSw.tb]; rfl); have t3 : ww.cell? ⟨w.heap.size, 3, none⟩ = some (.string t.tx) := (by rw [cell_of_row _ _ _ _ _ _ hSw.tb]; rfl); have t4 : ww.cell? ⟨w.heap.size, 4, none⟩ = some (.slice aa t.at_.length ca) := (by rw [cell_of_row _ _ _ _ _ _ hSw.tb]; rfl); have t5 : ww.cell? ⟨w.heap.size, 5, none⟩ = some (.slice ak t.ks.length ck) := (by rw [cell_of_row _ _ _ _ _ _ hSw.tb]; rfl); go_simp; try with_reducible rfl)
    refine tkW 2 (some 7) (v := ?_) ?_ hHeld ?_
    rotate_left
    · (intro ww _; go_simp; try with_reducible rfl)
    refine tkW 3 (some 8) (v := ?_) ?_ hHeld ?_
    rotate_left
    · (intro ww hSw; (try dsimp only at hSw); have t0 : ww.cell? ⟨w.heap.size, 0, none⟩ = some (.int .i64 t.k.1) := (by rw [cell_of_row _ _ _ _ _ _ hSw.tb]; rfl); have t1 : ww.cell? ⟨w.heap.size, 1, none⟩ = some (.int .i64 t.k.2) := (by rw [cell_of_row _ _ _ _ _ _ hSw.tb]; rfl); have t2 : ww.cell? ⟨w.heap.size, 2, none⟩ = some (.string t.tg) := (by rw [cell_of_row _ _ _ _ _ _ hSw.tb]; rfl); have t3 : ww.cell? ⟨w.heap.size, 3, none⟩ = some (.string t.tx) := (by rw [cell_of_row _ _ _ _ _ _ hSw.tb]; rfl); have t4 : ww.cell? ⟨w.heap.size, 4, none⟩ = some (.slice aa t.at_.length ca) := (by rw [cell_of_row _ _ _ _ _ _ hSw.tb]; rfl); have t5 : ww.cell? ⟨w.heap.size, 5, none⟩ = some (.slice ak t.ks.length ck) := (by rw [cell_of_row _ _ _ _ _ _ hSw.tb]; rfl); go_simp; try with_reducible rfl)
    refine tkW 4 (some 9) (v := ?_) ?_ hHeld ?_
    rotate_left
    · (intro ww _; go_simp; try with_reducible rfl)
    refine tkW 5 (some 10) (v := ?_) ?_ hHeld ?_
    rotate_left
    · (intro ww hSw; (try dsimp only at hSw); have t0 : ww.cell? ⟨w.heap.size, 0, none⟩ = some (.int .i64 t.k.1) := (by rw [cell_of_row _ _ _ _ _ _ hSw.tb]; rfl); have t1 : ww.cell? ⟨w.heap.size, 1, none⟩ = some (.int .i64 t.k.2) := (by rw [cell_of_row _ _ _ _ _ _ hSw.tb]; rfl); have t2 : ww.cell? ⟨w.heap.size, 2, none⟩ = some (.string t.tg) := (by rw [cell_of_row _ _ _ _ _ _ hSw.tb]; rfl); have t3 : ww.cell? ⟨w.heap.size, 3, none⟩ = some (.string t.tx) := (by rw [cell_of_row _ _ _ _ _ _ hSw.tb]; rfl); have t4 : ww.cell? ⟨w.heap.size, 4, none⟩ = some (.slice aa t.at_.length ca) := (by rw [cell_of_row _ _ _ _ _ _ hSw.tb]; rfl); have t5 : ww.cell? ⟨w.heap.size, 5, none⟩ = some (.slice ak t.ks.length ck) := (by rw [cell_of_row _ _ _ _ _ _ hSw.tb]; rfl); go_simp; try with_reducible rfl)
    refine tkW 7 (some 12) (v := ?_) ?_ hHeld ?_
    rotate_left
    · (intro ww _; go_simp; try with_reducible rfl)
    refine tkW 8 (some 13) (v := ?_) ?_ hHeld ?_
    rotate_left
    · (intro ww hSw; (try dsimp only at hSw); have t0 : ww.cell? ⟨w.heap.size, 0, none⟩ = some (.int .i64 t.k.1) := (by rw [cell_of_row _ _ _ _ _ _ hSw.tb]; rfl); have t1 : ww.cell? ⟨w.heap.size, 1, none⟩ = some (.int .i64 t.k.2) := (by rw [cell_of_row _ _ _ _ _ _ hSw.tb]; rfl); have t2 : ww.cell? ⟨w.heap.size, 2, none⟩ = some (.string t.tg) := (by rw [cell_of_row _ _ _ _ _ _ hSw.tb]; rfl); have t3 : ww.cell? ⟨w.heap.size, 3, none⟩ = some (.string t.tx) := (by rw [cell_of_row _ _ _ _ _ _ hSw.tb]; rfl); have t4 : ww.cell? ⟨w.heap.size, 4, none⟩ = some (.slice aa t.at_.length ca) := (by rw [cell_of_row _ _ _ _ _ _ hSw.tb]; rfl); have t5 : ww.cell? ⟨w.heap.size, 5, none⟩ = some (.slice ak t.ks.length ck) := (by rw [cell_of_row _ _ _ _ _ _ hSw.tb]; rfl); go_simp; try with_reducible rfl)
    refine wpAnyH_ready (rs := [6, 11]) (by kernel_rfl) (by simp) ?_
    refine AllReadyH.cons (o := ⟨some 11, _, _, _, _, _⟩) rfl (fun K hK => ?_) (AllReadyH.cons (o := ⟨some 3, _, _, _, _, _⟩) rfl (fun K hK => ?_) AllReadyH.nil)
    · have hbx : Below Uc2u0.heap.size Uc2u0 (Uc2u0.alloc (.cells #[] 57)) := (Below.refl _ _).alloc (Nat.le_refl _) _
      have HC0 := HC
      go_simp
      refine hK.out _ _ (hHeld.below hbx) (fun hHeld2 => ?_)
      clear hK K hHeld
      have hHeld := hHeld2
      clear hHeld2
      (try simp only [Act.put, List.setIfInBounds_toArray, List.set_cons_zero, List.set_cons_succ])
      obtain ⟨Uc2u1, eW⟩ : ∃ X, X = Uc2u0.alloc (.cells #[] 57) := ⟨_, rfl⟩
      have hb : Below Uc2u0.heap.size Uc2u0 Uc2u1 := by rw [eW]; exact (Below.refl _ _).alloc (Nat.le_refl _) _
      replace HC : Hid (Cp0 w t aa ca ak ck Uc2u1) := HC.out.below hb
      have HO : Hid (OwnAt (w.heap.size + 2) Uc2u1 (.slice (some ⟨Uc2u0.heap.size, 0, none⟩) 0 0) []) := (by rw [eW]; exact World.ownsRow_made Uc2u0 #[] 0 (by have := row_lt HC0.out.rb; omega) (by unfold maxLen; omega) (by simp))
      rw [← eW] at hHeld ⊢
      clear eW
      clear hbx
      obtain ⟨eb, eeb⟩ : ∃ b, b = Uc2u0.heap.size := ⟨_, rfl⟩
      have Heb : Hid (w.heap.size + 2 ≤ eb) := (by have h9 := row_lt HC0.out.rb; show _ ≤ _; omega)
      rw [← eeb] at HO ⊢
      clear eeb HC0
      clear hb
      refine wpAnyH_ready (rs := [9, 11]) (by kernel_rfl) (by simp) ?_
      refine AllReadyH.cons (o := ⟨some 14, _, _, _, _, _⟩) rfl (fun K hK => ?_) (AllReadyH.cons (o := ⟨some 3, _, _, _, _, _⟩) rfl (fun K hK => ?_) AllReadyH.nil)
      · refine step_appA rfl _ _ rfl (w.heap.size + 2) (.slice (some ⟨eb, 0, none⟩) 0 0) rfl HO.out (by have := row_lt HC.out.rb; omega) (fun k => k < w.heap.size) (.slice aa t.at_.length ca) t.at_ rfl (Hfd.out.at_.turn HC.out.bel.size fun k _ q => ⟨q, HC.out.bel.block k q⟩) Hfd.out.al ?_
        intro v9 Uc2u2 hown9 hgr9
        obtain ⟨a9, c9, e9⟩ := OwnE.form hown9
        subst e9
        have HC9 : Hid (Cp0 w t aa ca ak ck Uc2u2) := HC.out.grown hgr9 (fun k e => by cases e; exact Heb.out)
        have HV : Hid (OwnAt (w.heap.size + 2) Uc2u2 (.slice a9 t.at_.length c9) t.at_) := hown9
        clear HC HO
        have HC := HC9
        clear HC9 hown9 hgr9
        refine hK.out _ _ (HC.out) (fun hHeld2 => ?_)
        clear hK K hHeld
        have hHeld := hHeld2
        clear hHeld2
        (try simp only [Act.put, List.setIfInBounds_toArray, List.set_cons_zero, List.set_cons_succ])
        refine tkW 10 (some 15) (v := ?_) ?_ hHeld ?_
        rotate_left
        · (intro ww hSw; (try dsimp only at hSw); go_simp; try with_reducible rfl)
        refine wpAnyH_ready (rs := [11]) (by kernel_rfl) (by simp) ?_
        refine AllReadyH.cons (o := ⟨some 3, _, _, _, _, _⟩) rfl (fun K hK => ?_) AllReadyH.nil
        have HC1 := HC
        have HV1 := HV
        have hbx : Below Uc2u2.heap.size Uc2u2 (Uc2u2.alloc (.cells #[.int .i64 0, .int .i64 0, .string ⟨#[]⟩, .string ⟨#[]⟩, .slice none 0 0, .slice none 0 0] 27)) := (Below.refl _ _).alloc (Nat.le_refl _) _
        go_simp
        refine hK.out _ _ (hHeld.below hbx) (fun hHeld2 => ?_)
        clear hK K hHeld
        have hHeld := hHeld2
        clear hHeld2
        (try simp only [Act.put, List.setIfInBounds_toArray, List.set_cons_zero, List.set_cons_succ])
        obtain ⟨Uc2u3, eW⟩ : ∃ X, X = Uc2u2.alloc (.cells #[.int .i64 0, .int .i64 0, .string ⟨#[]⟩, .string ⟨#[]⟩, .slice none 0 0, .slice none 0 0] 27) := ⟨_, rfl⟩
        have hb : Below Uc2u2.heap.size Uc2u2 Uc2u3 := by rw [eW]; exact (Below.refl _ _).alloc (Nat.le_refl _) _
        replace HC : Hid (Cp0 w t aa ca ak ck Uc2u3) := HC.out.below hb
        replace HV : Hid (OwnAt (w.heap.size + 2) Uc2u3 (.slice a9 t.at_.length c9) t.at_) := HV.out.below hb
        have HZ : Hid (Uc2u3.heap[Uc2u2.heap.size]? = some (.cells #[.int .i64 0, .int .i64 0, .string ⟨#[]⟩, .string ⟨#[]⟩, .slice none 0 0, .slice none 0 0] 27)) := by rw [eW]; exact heap_alloc_new _ _
        rw [← eW] at hHeld ⊢
        clear eW
        clear hbx
        obtain ⟨ob, enb⟩ : ∃ b, b = Uc2u2.heap.size := ⟨_, rfl⟩
        have Hob : Hid (w.heap.size + 2 ≤ ob) := (by have h9 := row_lt HC1.out.rb; show _ ≤ _; omega)
        have Hvo : Hid ((Value.slice a9 t.at_.length c9).ownBlock ≠ some ob) := (fun e => by have h9 := (OwnE.lt HV1.out ob e).2; omega)
        rw [← enb] at HZ ⊢
        clear enb
        clear HC1
        clear HV1
        clear hb
        refine wpAnyH_ready (rs := [12]) (by kernel_rfl) (by simp) ?_
        refine AllReadyH.cons (o := ⟨none, _, _, _, _, _⟩) rfl (fun K hK => ?_) AllReadyH.nil
        refine step_store_row rfl 27 (.tmp 3) (.tmp 15) rfl ob 27 #[.int .i64 0, .int .i64 0, .string ⟨#[]⟩, .string ⟨#[]⟩, .slice none 0 0, .slice none 0 0] #[.int .i64 t.k.1, .int .i64 t.k.2, .string t.tg, .string t.tx, (.slice a9 t.at_.length c9), .slice none 0 0] rfl rfl HZ.out sizeVN rfl (by simp [Value.oneCell']) ?_
        refine hK.out _ _ (⟨(setRow_other _ _ _ _ (by have := Hob.out; omega)).trans hHeld.tb, (setRow_other _ _ _ _ (by have := Hob.out; omega)).trans hHeld.rb, hHeld.bel.grown (grown_setRow _ _ _) hHeld.bel.size (fun k e => by cases e; have := Hob.out; omega)⟩) (fun hHeld2 => ?_)
        clear hK K hHeld
        have hHeld := hHeld2
        clear hHeld2
        (try simp only [Act.put, List.setIfInBounds_toArray, List.set_cons_zero, List.set_cons_succ])
        obtain ⟨Uc2u4, eWn⟩ : ∃ X, X = Uc2u3.setRow ob #[.int .i64 t.k.1, .int .i64 t.k.2, .string t.tg, .string t.tx, (.slice a9 t.at_.length c9), .slice none 0 0] := ⟨_, rfl⟩
        have HVo : Hid ((Value.slice a9 t.at_.length c9).ownBlock ≠ some ob) := Hvo.out
        have HP : Hid (CpS m w t aa ca ak ck (fun k => (Value.slice a9 t.at_.length c9).ownBlock = some k) ob (.slice a9 t.at_.length c9) (.slice none 0 0) [] 0 Uc2u4) := (by rw [eWn]; exact ⟨⟨(setRow_other _ _ _ _ (by have := Hob.out; omega)).trans HC.out.tb, (setRow_other _ _ _ _ (by have := Hob.out; omega)).trans HC.out.rb, HC.out.bel.grown (grown_setRow _ _ _) HC.out.bel.size (fun k e => by cases e; have := Hob.out; omega)⟩, setRow_same HZ.out, (OwnE.lsE atCells_len HV.out (by have := Hfd.out.al; omega) (fun k e => e)).turn (by simp) (fun k q _ => ⟨q, setRow_other _ _ _ _ (fun e => HVo.out (by rw [q, e]))⟩), OwnE.nil0 _ _, by simp, fun x hx => absurd hx (by simp), fun k q => ⟨(OwnE.lt HV.out k q).1, (by simp; exact (OwnE.lt HV.out k q).2), fun e => HVo.out (by rw [q, e]), by simp [Value.ownBlock]⟩, ⟨Hob.out, by simp [Value.ownBlock]⟩, OwnE.low (OwnE.keep HV.out fun k e => setRow_other _ _ _ _ (fun e2 => HVo.out (by rw [e, e2]))) (Nat.zero_le _), fun k e => e, ⟨fun _ _ => False, fun j h => absurd h (by simp), fun _ _ q => q.elim, fun _ _ _ _ q => q.elim⟩⟩)
        rw [← eWn] at hHeld ⊢
        clear eWn HZ HV HC
        refine wpAnyH_done (by kernel_rfl) ?_ _
        clear hHeld
        exact REST _ _ _ _ _ HP
      · have HC1 := HC
        have HO1 := HO
        have hbx : Below Uc2u1.heap.size Uc2u1 (Uc2u1.alloc (.cells #[.int .i64 0, .int .i64 0, .string ⟨#[]⟩, .string ⟨#[]⟩, .slice none 0 0, .slice none 0 0] 27)) := (Below.refl _ _).alloc (Nat.le_refl _) _
        go_simp
        refine hK.out _ _ (hHeld.below hbx) (fun hHeld2 => ?_)
        clear hK K hHeld
        have hHeld := hHeld2
        clear hHeld2
        (try simp only [Act.put, List.setIfInBounds_toArray, List.set_cons_zero, List.set_cons_succ])
        obtain ⟨Uc2u5, eW⟩ : ∃ X, X = Uc2u1.alloc (.cells #[.int .i64 0, .int .i64 0, .string ⟨#[]⟩, .string ⟨#[]⟩, .slice none 0 0, .slice none 0 0] 27) := ⟨_, rfl⟩
        have hb : Below Uc2u1.heap.size Uc2u1 Uc2u5 := by rw [eW]; exact (Below.refl _ _).alloc (Nat.le_refl _) _
        replace HC : Hid (Cp0 w t aa ca ak ck Uc2u5) := HC.out.below hb
        replace HO : Hid (OwnAt (w.heap.size + 2) Uc2u5 (.slice (some ⟨eb, 0, none⟩) 0 0) []) := HO.out.below hb
        have HZ : Hid (Uc2u5.heap[Uc2u1.heap.size]? = some (.cells #[.int .i64 0, .int .i64 0, .string ⟨#[]⟩, .string ⟨#[]⟩, .slice none 0 0, .slice none 0 0] 27)) := by rw [eW]; exact heap_alloc_new _ _
        rw [← eW] at hHeld ⊢
        clear eW
        clear hbx
        obtain ⟨ob, enb⟩ : ∃ b, b = Uc2u1.heap.size := ⟨_, rfl⟩
        have Hob : Hid (w.heap.size + 2 ≤ ob) := (by have h9 := row_lt HC1.out.rb; show _ ≤ _; omega)
        have Heo : Hid (eb ≠ ob) := (by have h9 := (OwnE.lt HO1.out eb rfl).2; show _ ≠ _; omega)
        rw [← enb] at HZ ⊢
        clear enb
        clear HC1
        clear HO1
        clear hb
        refine wpAnyH_ready (rs := [9]) (by kernel_rfl) (by simp) ?_
        refine AllReadyH.cons (o := ⟨some 14, _, _, _, _, _⟩) rfl (fun K hK => ?_) AllReadyH.nil
        refine step_appA rfl _ _ rfl (w.heap.size + 2) (.slice (some ⟨eb, 0, none⟩) 0 0) rfl HO.out (by have := row_lt HC.out.rb; omega) (fun k => k < w.heap.size) (.slice aa t.at_.length ca) t.at_ rfl (Hfd.out.at_.turn HC.out.bel.size fun k _ q => ⟨q, HC.out.bel.block k q⟩) Hfd.out.al ?_
        intro v9 Uc2u6 hown9 hgr9
        obtain ⟨a9, c9, e9⟩ := OwnE.form hown9
        subst e9
        have HC9 : Hid (Cp0 w t aa ca ak ck Uc2u6) := HC.out.grown hgr9 (fun k e => by cases e; exact Heb.out)
        have HV : Hid (OwnAt (w.heap.size + 2) Uc2u6 (.slice a9 t.at_.length c9) t.at_) := hown9
        replace HZ : Hid (Uc2u6.heap[ob]? = some (.cells #[.int .i64 0, .int .i64 0, .string ⟨#[]⟩, .string ⟨#[]⟩, .slice none 0 0, .slice none 0 0] 27)) := (hgr9.block _ (row_lt HZ.out) (fun e => by injection e with e; exact Heo.out e.symm)).trans HZ.out
        clear HC HO
        have HC := HC9
        clear HC9 hown9 hgr9
        refine hK.out _ _ (HC.out) (fun hHeld2 => ?_)
        clear hK K hHeld
        have hHeld := hHeld2
        clear hHeld2
        (try simp only [Act.put, List.setIfInBounds_toArray, List.set_cons_zero, List.set_cons_succ])
        refine tkW 10 (some 15) (v := ?_) ?_ hHeld ?_
        rotate_left
        · (intro ww hSw; (try dsimp only at hSw); go_simp; try with_reducible rfl)
        refine wpAnyH_ready (rs := [12]) (by kernel_rfl) (by simp) ?_
        refine AllReadyH.cons (o := ⟨none, _, _, _, _, _⟩) rfl (fun K hK => ?_) AllReadyH.nil
        refine step_store_row rfl 27 (.tmp 3) (.tmp 15) rfl ob 27 #[.int .i64 0, .int .i64 0, .string ⟨#[]⟩, .string ⟨#[]⟩, .slice none 0 0, .slice none 0 0] #[.int .i64 t.k.1, .int .i64 t.k.2, .string t.tg, .string t.tx, (.slice a9 t.at_.length c9), .slice none 0 0] rfl rfl HZ.out sizeVN rfl (by simp [Value.oneCell']) ?_
        refine hK.out _ _ (⟨(setRow_other _ _ _ _ (by have := Hob.out; omega)).trans hHeld.tb, (setRow_other _ _ _ _ (by have := Hob.out; omega)).trans hHeld.rb, hHeld.bel.grown (grown_setRow _ _ _) hHeld.bel.size (fun k e => by cases e; have := Hob.out; omega)⟩) (fun hHeld2 => ?_)
        clear hK K hHeld
        have hHeld := hHeld2
        clear hHeld2
        (try simp only [Act.put, List.setIfInBounds_toArray, List.set_cons_zero, List.set_cons_succ])
        obtain ⟨Uc2u7, eWn⟩ : ∃ X, X = Uc2u6.setRow ob #[.int .i64 t.k.1, .int .i64 t.k.2, .string t.tg, .string t.tx, (.slice a9 t.at_.length c9), .slice none 0 0] := ⟨_, rfl⟩
        have HVo : Hid ((Value.slice a9 t.at_.length c9).ownBlock ≠ some ob) := (fun e => by obtain ⟨cu9, hc9⟩ := ownsRow_type HV.out _ e; rw [HZ.out] at hc9; injection hc9 with hc9; injection hc9 with _ hc9; exact absurd hc9 (by decide))
        have HP : Hid (CpS m w t aa ca ak ck (fun k => (Value.slice a9 t.at_.length c9).ownBlock = some k) ob (.slice a9 t.at_.length c9) (.slice none 0 0) [] 0 Uc2u7) := (by rw [eWn]; exact ⟨⟨(setRow_other _ _ _ _ (by have := Hob.out; omega)).trans HC.out.tb, (setRow_other _ _ _ _ (by have := Hob.out; omega)).trans HC.out.rb, HC.out.bel.grown (grown_setRow _ _ _) HC.out.bel.size (fun k e => by cases e; have := Hob.out; omega)⟩, setRow_same HZ.out, (OwnE.lsE atCells_len HV.out (by have := Hfd.out.al; omega) (fun k e => e)).turn (by simp) (fun k q _ => ⟨q, setRow_other _ _ _ _ (fun e => HVo.out (by rw [q, e]))⟩), OwnE.nil0 _ _, by simp, fun x hx => absurd hx (by simp), fun k q => ⟨(OwnE.lt HV.out k q).1, (by simp; exact (OwnE.lt HV.out k q).2), fun e => HVo.out (by rw [q, e]), by simp [Value.ownBlock]⟩, ⟨Hob.out, by simp [Value.ownBlock]⟩, OwnE.low (OwnE.keep HV.out fun k e => setRow_other _ _ _ _ (fun e2 => HVo.out (by rw [e, e2]))) (Nat.zero_le _), fun k e => e, ⟨fun _ _ => False, fun j h => absurd h (by simp), fun _ _ q => q.elim, fun _ _ _ _ q => q.elim⟩⟩)
        rw [← eWn] at hHeld ⊢
        clear eWn HZ HV HC
        refine wpAnyH_done (by kernel_rfl) ?_ _
        clear hHeld
        exact REST _ _ _ _ _ HP
    · have HC1 := HC
      have hbx : Below Uc2u0.heap.size Uc2u0 (Uc2u0.alloc (.cells #[.int .i64 0, .int .i64 0, .string ⟨#[]⟩, .string ⟨#[]⟩, .slice none 0 0, .slice none 0 0] 27)) := (Below.refl _ _).alloc (Nat.le_refl _) _
      go_simp
      refine hK.out _ _ (hHeld.below hbx) (fun hHeld2 => ?_)
      clear hK K hHeld
      have hHeld := hHeld2
      clear hHeld2
      (try simp only [Act.put, List.setIfInBounds_toArray, List.set_cons_zero, List.set_cons_succ])
      obtain ⟨Uc2u8, eW⟩ : ∃ X, X = Uc2u0.alloc (.cells #[.int .i64 0, .int .i64 0, .string ⟨#[]⟩, .string ⟨#[]⟩, .slice none 0 0, .slice none 0 0] 27) := ⟨_, rfl⟩
      have hb : Below Uc2u0.heap.size Uc2u0 Uc2u8 := by rw [eW]; exact (Below.refl _ _).alloc (Nat.le_refl _) _
      replace HC : Hid (Cp0 w t aa ca ak ck Uc2u8) := HC.out.below hb
      have HZ : Hid (Uc2u8.heap[Uc2u0.heap.size]? = some (.cells #[.int .i64 0, .int .i64 0, .string ⟨#[]⟩, .string ⟨#[]⟩, .slice none 0 0, .slice none 0 0] 27)) := by rw [eW]; exact heap_alloc_new _ _
      rw [← eW] at hHeld ⊢
      clear eW
      clear hbx
      obtain ⟨ob, enb⟩ : ∃ b, b = Uc2u0.heap.size := ⟨_, rfl⟩
      have Hob : Hid (w.heap.size + 2 ≤ ob) := (by have h9 := row_lt HC1.out.rb; show _ ≤ _; omega)
      rw [← enb] at HZ ⊢
      clear enb
      clear HC1
      clear hb
      refine wpAnyH_ready (rs := [6]) (by kernel_rfl) (by simp) ?_
      refine AllReadyH.cons (o := ⟨some 11, _, _, _, _, _⟩) rfl (fun K hK => ?_) AllReadyH.nil
      have HZ0 := HZ
      have hbx : Below Uc2u8.heap.size Uc2u8 (Uc2u8.alloc (.cells #[] 57)) := (Below.refl _ _).alloc (Nat.le_refl _) _
      have HC0 := HC
      go_simp
      refine hK.out _ _ (hHeld.below hbx) (fun hHeld2 => ?_)
      clear hK K hHeld
      have hHeld := hHeld2
      clear hHeld2
      (try simp only [Act.put, List.setIfInBounds_toArray, List.set_cons_zero, List.set_cons_succ])
      obtain ⟨Uc2u9, eW⟩ : ∃ X, X = Uc2u8.alloc (.cells #[] 57) := ⟨_, rfl⟩
      have hb : Below Uc2u8.heap.size Uc2u8 Uc2u9 := by rw [eW]; exact (Below.refl _ _).alloc (Nat.le_refl _) _
      replace HC : Hid (Cp0 w t aa ca ak ck Uc2u9) := HC.out.below hb
      replace HZ : Hid (Uc2u9.heap[ob]? = some (.cells #[.int .i64 0, .int .i64 0, .string ⟨#[]⟩, .string ⟨#[]⟩, .slice none 0 0, .slice none 0 0] 27)) := (hb.block _ (row_lt HZ.out)).trans HZ.out
      have HO : Hid (OwnAt (w.heap.size + 2) Uc2u9 (.slice (some ⟨Uc2u8.heap.size, 0, none⟩) 0 0) []) := (by rw [eW]; exact World.ownsRow_made Uc2u8 #[] 0 (by have := row_lt HC0.out.rb; omega) (by unfold maxLen; omega) (by simp))
      have Heo : Hid (Uc2u8.heap.size ≠ ob) := (by have h9 := row_lt HZ0.out; show _ ≠ _; omega)
      rw [← eW] at hHeld ⊢
      clear eW
      clear hbx
      obtain ⟨eb, eeb⟩ : ∃ b, b = Uc2u8.heap.size := ⟨_, rfl⟩
      have Heb : Hid (w.heap.size + 2 ≤ eb) := (by have h9 := row_lt HC0.out.rb; show _ ≤ _; omega)
      rw [← eeb] at HO ⊢
      rw [← eeb] at Heo
      clear eeb HC0
      clear HZ0
      clear hb
      refine wpAnyH_ready (rs := [9]) (by kernel_rfl) (by simp) ?_
      refine AllReadyH.cons (o := ⟨some 14, _, _, _, _, _⟩) rfl (fun K hK => ?_) AllReadyH.nil
      refine step_appA rfl _ _ rfl (w.heap.size + 2) (.slice (some ⟨eb, 0, none⟩) 0 0) rfl HO.out (by have := row_lt HC.out.rb; omega) (fun k => k < w.heap.size) (.slice aa t.at_.length ca) t.at_ rfl (Hfd.out.at_.turn HC.out.bel.size fun k _ q => ⟨q, HC.out.bel.block k q⟩) Hfd.out.al ?_
      intro v9 Uc2u10 hown9 hgr9
      obtain ⟨a9, c9, e9⟩ := OwnE.form hown9
      subst e9
      have HC9 : Hid (Cp0 w t aa ca ak ck Uc2u10) := HC.out.grown hgr9 (fun k e => by cases e; exact Heb.out)
      have HV : Hid (OwnAt (w.heap.size + 2) Uc2u10 (.slice a9 t.at_.length c9) t.at_) := hown9
      replace HZ : Hid (Uc2u10.heap[ob]? = some (.cells #[.int .i64 0, .int .i64 0, .string ⟨#[]⟩, .string ⟨#[]⟩, .slice none 0 0, .slice none 0 0] 27)) := (hgr9.block _ (row_lt HZ.out) (fun e => by injection e with e; exact Heo.out e.symm)).trans HZ.out
      clear HC HO
      have HC := HC9
      clear HC9 hown9 hgr9
      refine hK.out _ _ (HC.out) (fun hHeld2 => ?_)
      clear hK K hHeld
      have hHeld := hHeld2
      clear hHeld2
      (try simp only [Act.put, List.setIfInBounds_toArray, List.set_cons_zero, List.set_cons_succ])
      refine tkW 10 (some 15) (v := ?_) ?_ hHeld ?_
      rotate_left
      · (intro ww hSw; (try dsimp only at hSw); go_simp; try with_reducible rfl)
      refine wpAnyH_ready (rs := [12]) (by kernel_rfl) (by simp) ?_
      refine AllReadyH.cons (o := ⟨none, _, _, _, _, _⟩) rfl (fun K hK => ?_) AllReadyH.nil
      refine step_store_row rfl 27 (.tmp 3) (.tmp 15) rfl ob 27 #[.int .i64 0, .int .i64 0, .string ⟨#[]⟩, .string ⟨#[]⟩, .slice none 0 0, .slice none 0 0] #[.int .i64 t.k.1, .int .i64 t.k.2, .string t.tg, .string t.tx, (.slice a9 t.at_.length c9), .slice none 0 0] rfl rfl HZ.out sizeVN rfl (by simp [Value.oneCell']) ?_
      refine hK.out _ _ (⟨(setRow_other _ _ _ _ (by have := Hob.out; omega)).trans hHeld.tb, (setRow_other _ _ _ _ (by have := Hob.out; omega)).trans hHeld.rb, hHeld.bel.grown (grown_setRow _ _ _) hHeld.bel.size (fun k e => by cases e; have := Hob.out; omega)⟩) (fun hHeld2 => ?_)
      clear hK K hHeld
      have hHeld := hHeld2
      clear hHeld2
      (try simp only [Act.put, List.setIfInBounds_toArray, List.set_cons_zero, List.set_cons_succ])
      obtain ⟨Uc2u11, eWn⟩ : ∃ X, X = Uc2u10.setRow ob #[.int .i64 t.k.1, .int .i64 t.k.2, .string t.tg, .string t.tx, (.slice a9 t.at_.length c9), .slice none 0 0] := ⟨_, rfl⟩
      have HVo : Hid ((Value.slice a9 t.at_.length c9).ownBlock ≠ some ob) := (fun e => by obtain ⟨cu9, hc9⟩ := ownsRow_type HV.out _ e; rw [HZ.out] at hc9; injection hc9 with hc9; injection hc9 with _ hc9; exact absurd hc9 (by decide))
      have HP : Hid (CpS m w t aa ca ak ck (fun k => (Value.slice a9 t.at_.length c9).ownBlock = some k) ob (.slice a9 t.at_.length c9) (.slice none 0 0) [] 0 Uc2u11) := (by rw [eWn]; exact ⟨⟨(setRow_other _ _ _ _ (by have := Hob.out; omega)).trans HC.out.tb, (setRow_other _ _ _ _ (by have := Hob.out; omega)).trans HC.out.rb, HC.out.bel.grown (grown_setRow _ _ _) HC.out.bel.size (fun k e => by cases e; have := Hob.out; omega)⟩, setRow_same HZ.out, (OwnE.lsE atCells_len HV.out (by have := Hfd.out.al; omega) (fun k e => e)).turn (by simp) (fun k q _ => ⟨q, setRow_other _ _ _ _ (fun e => HVo.out (by rw [q, e]))⟩), OwnE.nil0 _ _, by simp, fun x hx => absurd hx (by simp), fun k q => ⟨(OwnE.lt HV.out k q).1, (by simp; exact (OwnE.lt HV.out k q).2), fun e => HVo.out (by rw [q, e]), by simp [Value.ownBlock]⟩, ⟨Hob.out, by simp [Value.ownBlock]⟩, OwnE.low (OwnE.keep HV.out fun k e => setRow_other _ _ _ _ (fun e2 => HVo.out (by rw [e, e2]))) (Nat.zero_le _), fun k e => e, ⟨fun _ _ => False, fun j h => absurd h (by simp), fun _ _ q => q.elim, fun _ _ _ _ q => q.elim⟩⟩)
      rw [← eWn] at hHeld ⊢
      clear eWn HZ HV HC
      refine wpAnyH_done (by kernel_rfl) ?_ _
      clear hHeld
      exact REST _ _ _ _ _ HP

theorem refCopy_sep (G : Nat → Prop) (t : VT) (v : Value) (w : World) (hv : VIs G w v t) : Calls Try.prog 6 #[v] w fun e w' => ∃ v' F, e = .returned v' ∧ VIs F w' v' t ∧ (∀ k, F k → w.heap.size ≤ k ∧ k < w'.heap.size) ∧ Below w.heap.size w w' ∧ ∃ av kv, v' = .agg #[.int .i64 t.k.1, .int .i64 t.k.2, .string t.tg, .string t.tx, av, kv] ∧ SepF t.sz w' F av kv t := refCopy_n t.sz G t v w (Nat.le_refl _) hv
theorem refCopy_any (G : Nat → Prop) (t : VT) (v : Value) (w : World) (hv : VIs G w v t) : Calls Try.prog 6 #[v] w fun e w' => ∃ v' F, e = .returned v' ∧ VIs F w' v' t ∧ (∀ k, F k → w.heap.size ≤ k ∧ k < w'.heap.size) ∧ Below w.heap.size w w' := (refCopy_sep G t v w hv).mono fun e w' ⟨v', F, h1, h2, h3, h4, _⟩ => ⟨v', F, h1, h2, h3, h4⟩

end Go.Proofs.Ytngglnlphlembaa
