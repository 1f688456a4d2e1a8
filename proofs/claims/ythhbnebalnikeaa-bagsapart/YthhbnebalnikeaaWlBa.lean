/- BagsApart: what is done to one link changes no other one. -/
import Derived.Test.YthhbnebalnikeaaDsQ
namespace Go.Proofs.Ythhbnebalnikeaa
open Go.RowKit Go.Shelf
set_option linter.unusedVariables false
set_option linter.unusedSimpArgs false

theorem row_lt_touch {F : Nat → Prop} {X X' : World} {b : Nat} {o : Obj} (h : X'.heap[b]? = some o) (ht : Touch F X X') (hb : b < X.heap.size) : b < X.heap.size := hb
structure ApS (w0 : World) (ab yb nb : Nat) (F : Nat → Prop) (G : Nat → Prop) (B : Nat → List Pc) (v : Value) (L : List Sn) (kd fr to i at_ mask : Int) (pv : Value) (W : World) : Prop where
  net : NetOk F W nb 3 B
  doc : SFirm G W v L
  ybx : W.heap[yb]? = some (.cells #[.int .i64 ((3 : Nat) : Int), v] 30)
  act : RowA7 ab kd fr to i at_ mask pv W
  bel : Below w0.heap.size w0 W
theorem ApS.below {w0 W W' : World} {ab yb nb : Nat} {F G : Nat → Prop} {B : Nat → List Pc} {v pv : Value} {L : List Sn} {kd fr to i at_ mask : Int} (h : ApS w0 ab yb nb F G B v L kd fr to i at_ mask pv W) (hb : Below W.heap.size W W') : ApS w0 ab yb nb F G B v L kd fr to i at_ mask pv W' := ⟨h.net.below hb, h.doc.below hb, (hb.block _ (row_lt h.ybx)).trans h.ybx, h.act.below hb, h.bel.trans (hb.mono h.bel.size)⟩

set_option maxRecDepth 100000 in
set_option maxHeartbeats 16000000 in
theorem bagsApart_walk (v : Value) (l : List Ac) (a : Ac) (apv : Value) (w : World) (h : IsA w v l) (hp : IsB w apv a.p) (ha : AcOk a) :
    Calls Try.prog 5 #[v, .agg #[.int .i64 a.kind, .int .i64 a.fr, .int .i64 a.to, .int .i64 a.i, .int .i64 a.at_, .int .i64 a.mask, apv]] w fun e w' => e = .returned (.bool true) ∧ Below w.heap.size w w' := by
  obtain ⟨apa, cpa, epa⟩ := hp.form
  subst epa
  obtain ⟨al, cl, el, _⟩ := id h
  subst el
  obtain ⟨w0, ew0⟩ : ∃ X, X = w.alloc (.cells #[.int .i64 a.kind, .int .i64 a.fr, .int .i64 a.to, .int .i64 a.i, .int .i64 a.at_, .int .i64 a.mask, .slice apa a.p.length cpa] 33) := ⟨_, rfl⟩
  have hb0 : Below w.heap.size w w0 := by rw [ew0]; exact (Below.refl _ _).alloc (Nat.le_refl _) _
  have HA0 : Hid (RowA7 w.heap.size a.kind a.fr a.to a.i a.at_ a.mask (.slice apa a.p.length cpa) w0) := ⟨by rw [ew0]; exact heap_alloc_new _ _⟩
  have HIs : Hid (IsA w0 (.slice al l.length cl) l) := h.below hb0
  have HaB : Hid (IsB w0 (.slice apa a.p.length cpa) a.p) := hp.below hb0
  have HaO : Hid (AcOk a) := ha
  have Hw0 : Hid (Below w.heap.size w w0) := hb0
  have HE0 := hide9 ew0
  clear h hp ha hb0 ew0
  go_enter Try.func5, Try.ntmps5
  go_wp2_with fail
  rw [← HE0.out]
  clear HE0
  refine (new_any 3 _).mono ?_
  rintro e w1 ⟨hnp, hb1⟩
  obtain ⟨k, hk3, _, _, nb, F0, rfl, hN, hF⟩ := hnp.resolve_left (by rintro ⟨h, _⟩; omega)
  obtain rfl : k = 3 := by omega
  obtain ⟨w2, ew2⟩ : ∃ X, X = w1.alloc (.cells #[.int .i64 3, .slice none 0 0] 30) := ⟨_, rfl⟩
  obtain ⟨yb, eyb⟩ : ∃ x, x = w1.heap.size := ⟨_, rfl⟩
  have HS0 : Hid (PyS w0 yb nb 3 F0 (fun _ => False) noB (.slice none 0 0) (.slice none 0 0) [] w2) := (by rw [ew2, eyb]; exact PyS.start hN hF hb1)
  have HE2 := hide9 (And.intro ew2 eyb)
  clear ew2 eyb hN hF hb1 hnp hk3
  go_wp2
  rw [← HE2.out.1, ← HE2.out.2]
  clear HE2
  go_loopw [8] (fun iv wr => ∃ (i : Nat) (F G : Nat → Prop) (B : Nat → List Pc) (v : Value) (L : List Sn), i ≤ l.length ∧ iv = .int .i64 (i : Int) ∧ Hid (PyS w0 yb nb 3 F G B v v L wr) ∧ Hid (L.length ≤ i ∧ i ≤ 200)) (fun iv _ => l.length - (intOf iv).toNat)
  case atStart => exact ⟨0, F0, _, _, _, [], Nat.zero_le _, rfl, HS0, ⟨Nat.le_refl _, by omega⟩⟩
  case round =>
    clear HS0
    obtain ⟨i, F, G, B, v, L, hi, rfl, HS, HLi⟩ := hrel
    obtain ⟨av, cv, ev⟩ := HS.out.doc.isS.form
    subst ev
    have hi2 := HLi.out.2
    by_cases hlt : i < l.length
    · have k1 : (i : Int) < (l.length : Int) := by omega
      by_cases h2 : i < 200
      · have k2 : (i : Int) < 200 := by omega
        have k0 : (0 : Int) ≤ (i : Int) := by omega
        obtain ⟨_, _, e9, _, _, hrow9⟩ := HIs.out
        injection e9 with e91 e92 e93
        subst e91
        obtain ⟨b, o, rfl, hr9⟩ := hrow9.resolve_left (by intro e; rw [e] at hlt; simp at hlt)
        obtain ⟨x, ex⟩ : ∃ x, x = l[i] := ⟨_, rfl⟩
        have hx9 := hr9 i hlt
        rw [← ex] at hx9
        have HbL : Hid (b < w0.heap.size) := hx9.lt
        obtain ⟨xpv, hxc, hxB, hxO⟩ := hx9
        obtain ⟨apx, cpx, epx⟩ := hxB.form
        subst epx
        have HxB : Hid (IsB w0 (.slice apx x.p.length cpx) x.p) := hxB
        have HxO : Hid (AcOk x) := hxO
        obtain ⟨xpv, exp⟩ : ∃ q, q = Value.slice apx x.p.length cpx := ⟨_, rfl⟩
        have Hxc : Hid (∀ j u, (acCells x (.slice apx x.p.length cpx))[j]? = some u → wr.drew.cell? ⟨b, o + i * 7 + j, none⟩ = some u) := fun j u hj => (HS.out.bel.cell (p := ⟨b, _, none⟩) HbL.out).trans (hxc j u hj)
        have HLl : Hid (L.length ≤ i ∧ i < 200) := ⟨HLi.out.1, h2⟩
        clear hxc hxB hxO hrow9 hr9 ex e92 e93 exp xpv
        go_upto_region 8 with fail
        refine wp_region_held_drew (S := fun W' => W'.heap[yb]? = some (.cells #[.int .i64 ((3 : Nat) : Int), (.slice av L.length cv)] 30) ∧ (∀ j u, (acCells x (.slice apx x.p.length cpx))[j]? = some u → W'.cell? ⟨b, o + i * 7 + j, none⟩ = some u)) (by kernel_rfl) ⟨HS.out.ybx, fun j u hj => Hxc.out j u hj⟩ (fun hHeld => ?_)
        obtain ⟨Uy5u0, eW⟩ : ∃ X, X = wr.drew := ⟨_, rfl⟩
        have hb : Below wr.heap.size wr Uy5u0 := by rw [eW]; exact (Below.refl _ _).drew
        replace HS : Hid (PyS w0 yb nb 3 F G B (.slice av L.length cv) (.slice av L.length cv) L Uy5u0) := HS.out.below hb
        rw [← eW] at hHeld ⊢
        clear eW hb
        refine tkW 0 (some 40) (v := ?_) ?_ hHeld ?_
        rotate_left
        · (intro ww _; go_simp; try with_reducible rfl)
        refine tkW 1 (some 41) (v := ?_) ?_ hHeld ?_
        rotate_left
        · (intro ww hSw; (try dsimp only at hSw); obtain ⟨y_0, y_1, _, _⟩ := row2_cells hSw.1; have x0 : ww.cell? ⟨b, o + i * 7, none⟩ = some (.int .i64 x.kind) := hSw.2 0 _ rfl; have x1 : ww.cell? ⟨b, o + i * 7 + 1, none⟩ = some (.int .i64 x.fr) := hSw.2 1 _ rfl; have x2 : ww.cell? ⟨b, o + i * 7 + 2, none⟩ = some (.int .i64 x.to) := hSw.2 2 _ rfl; have x3 : ww.cell? ⟨b, o + i * 7 + 3, none⟩ = some (.int .i64 x.i) := hSw.2 3 _ rfl; have x4 : ww.cell? ⟨b, o + i * 7 + 4, none⟩ = some (.int .i64 x.at_) := hSw.2 4 _ rfl; have x5 : ww.cell? ⟨b, o + i * 7 + 5, none⟩ = some (.int .i64 x.mask) := hSw.2 5 _ rfl; have x6 : ww.cell? ⟨b, o + i * 7 + 6, none⟩ = some (.slice apx x.p.length cpx) := hSw.2 6 _ rfl; clear hSw; go_simp; try with_reducible rfl)
        refine tkW 2 (some 42) (v := ?_) ?_ hHeld ?_
        rotate_left
        · (intro ww _; go_simp; try with_reducible rfl)
        refine tkW 3 (some 43) (v := ?_) ?_ hHeld ?_
        rotate_left
        · (intro ww _; go_simp; try with_reducible rfl)
        refine tkW 4 (some 44) (v := ?_) ?_ hHeld ?_
        rotate_left
        · (intro ww hSw; (try dsimp only at hSw); obtain ⟨y_0, y_1, _, _⟩ := row2_cells hSw.1; have x0 : ww.cell? ⟨b, o + i * 7, none⟩ = some (.int .i64 x.kind) := hSw.2 0 _ rfl; have x1 : ww.cell? ⟨b, o + i * 7 + 1, none⟩ = some (.int .i64 x.fr) := hSw.2 1 _ rfl; have x2 : ww.cell? ⟨b, o + i * 7 + 2, none⟩ = some (.int .i64 x.to) := hSw.2 2 _ rfl; have x3 : ww.cell? ⟨b, o + i * 7 + 3, none⟩ = some (.int .i64 x.i) := hSw.2 3 _ rfl; have x4 : ww.cell? ⟨b, o + i * 7 + 4, none⟩ = some (.int .i64 x.at_) := hSw.2 4 _ rfl; have x5 : ww.cell? ⟨b, o + i * 7 + 5, none⟩ = some (.int .i64 x.mask) := hSw.2 5 _ rfl; have x6 : ww.cell? ⟨b, o + i * 7 + 6, none⟩ = some (.slice apx x.p.length cpx) := hSw.2 6 _ rfl; clear hSw; go_simp; try with_reducible rfl)
        refine tkW 5 (some 45) (v := ?_) ?_ hHeld ?_
        rotate_left
        · (intro ww hSw; (try dsimp only at hSw); obtain ⟨y_0, y_1, _, _⟩ := row2_cells hSw.1; have x0 : ww.cell? ⟨b, o + i * 7, none⟩ = some (.int .i64 x.kind) := hSw.2 0 _ rfl; have x1 : ww.cell? ⟨b, o + i * 7 + 1, none⟩ = some (.int .i64 x.fr) := hSw.2 1 _ rfl; have x2 : ww.cell? ⟨b, o + i * 7 + 2, none⟩ = some (.int .i64 x.to) := hSw.2 2 _ rfl; have x3 : ww.cell? ⟨b, o + i * 7 + 3, none⟩ = some (.int .i64 x.i) := hSw.2 3 _ rfl; have x4 : ww.cell? ⟨b, o + i * 7 + 4, none⟩ = some (.int .i64 x.at_) := hSw.2 4 _ rfl; have x5 : ww.cell? ⟨b, o + i * 7 + 5, none⟩ = some (.int .i64 x.mask) := hSw.2 5 _ rfl; have x6 : ww.cell? ⟨b, o + i * 7 + 6, none⟩ = some (.slice apx x.p.length cpx) := hSw.2 6 _ rfl; clear hSw; go_simp; try with_reducible rfl)
        refine wpAnyH_ready (rs := [6, 10]) (by kernel_rfl) (by simp) ?_
        refine AllReadyH.cons (o := ⟨some 46, _, _, _, _, _⟩) rfl (fun K hK => ?_) (AllReadyH.cons (o := ⟨some 9, _, _, _, _, _⟩) rfl (fun K hK => ?_) AllReadyH.nil)
        · go_simp
          refine (HS.out.play (by have := HLl.out; omega) x (.slice apx x.p.length cpx) HxB.out HxO.out).mono ?_
          rintro e Uy5u1 ⟨v3, B3, F3, L3, G3, rfl, hpy, hln, hto, hel, hdo, hnf, hng⟩
          (try go_wp2_with fail)
          obtain ⟨av3, cv3, ev3⟩ := hpy.doc.isS.form
          subst ev3
          have hS6 : Uy5u1.heap[yb]? = some (.cells #[.int .i64 ((3 : Nat) : Int), (.slice av L.length cv)] 30) ∧ (∀ j u, (acCells x (.slice apx x.p.length cpx))[j]? = some u → Uy5u1.cell? ⟨b, o + i * 7 + j, none⟩ = some u) := ⟨hpy.ybx, fun j u hj => (World.cell?_of_block (w := Uy5u0) (hto.block b (Nat.lt_of_lt_of_le HbL.out HS.out.bel.size) (fun q => by have h1 := HS.out.fhi b q; have := HbL.out; omega))).trans (hHeld.2 j u hj)⟩
          have HM : Hid (PyS w0 yb nb 3 F3 G3 B3 (.slice av3 L3.length cv3) (.slice av L.length cv) L3 Uy5u1) := hpy
          have HL3 : Hid (L3.length ≤ L.length + 1) := hln
          clear hpy hln hel hdo hnf hng hto HS
          refine hK.out _ _ (hS6) (fun hHeld2 => ?_)
          clear hK K hHeld
          have hHeld := hHeld2
          clear hHeld2
          (try simp only [Act.put, List.setIfInBounds_toArray, List.set_cons_zero, List.set_cons_succ])
          clear hS6
          refine tkW 7 (some 39) (v := ?_) ?_ hHeld ?_
          rotate_left
          · (intro ww _; go_simp; try with_reducible rfl)
          refine tkW 8 (some 47) (v := ?_) ?_ hHeld ?_
          rotate_left
          · (intro ww _; go_simp; try with_reducible rfl)
          refine tkW 9 (some 48) (v := ?_) ?_ hHeld ?_
          rotate_left
          · (intro ww _; go_simp; try with_reducible rfl)
          refine wpAnyH_ready (rs := [10]) (by kernel_rfl) (by simp) ?_
          refine AllReadyH.cons (o := ⟨some 9, _, _, _, _, _⟩) rfl (fun K hK => ?_) AllReadyH.nil
          have HM0 := HM
          have hbx : Below Uy5u1.heap.size Uy5u1 (Uy5u1.alloc (.cells #[.int .i64 0, .slice none 0 0] 30)) := (Below.refl _ _).alloc (Nat.le_refl _) _
          go_simp
          refine hK.out _ _ (⟨(hbx.block _ (row_lt hHeld.1)).trans hHeld.1, fun j u hj => (hbx.cell (p := ⟨b, _, none⟩) (Nat.lt_of_lt_of_le HbL.out HM.out.bel.size)).trans (hHeld.2 j u hj)⟩) (fun hHeld2 => ?_)
          clear hK K hHeld
          have hHeld := hHeld2
          clear hHeld2
          (try simp only [Act.put, List.setIfInBounds_toArray, List.set_cons_zero, List.set_cons_succ])
          obtain ⟨Uy5u2, eW⟩ : ∃ X, X = Uy5u1.alloc (.cells #[.int .i64 0, .slice none 0 0] 30) := ⟨_, rfl⟩
          have hb : Below Uy5u1.heap.size Uy5u1 Uy5u2 := by rw [eW]; exact (Below.refl _ _).alloc (Nat.le_refl _) _
          replace HM : Hid (PyS w0 yb nb 3 F3 G3 B3 (.slice av3 L3.length cv3) (.slice av L.length cv) L3 Uy5u2) := HM.out.below hb
          have HZ : Hid (Uy5u2.heap[Uy5u1.heap.size]? = some (.cells #[.int .i64 0, .slice none 0 0] 30)) := by rw [eW]; exact heap_alloc_new _ _
          rw [← eW] at hHeld ⊢
          clear eW
          clear hbx
          obtain ⟨zb, enb⟩ : ∃ b, b = Uy5u1.heap.size := ⟨_, rfl⟩
          have HZn : Hid (¬ F3 zb ∧ ¬ G3 zb ∧ yb ≠ zb ∧ w0.heap.size ≤ zb) := (by have h1 := HM.out.bel.size; have h2 := row_lt HM0.out.ybx; rw [enb]; exact ⟨fun q => by (have := HM0.out.net.lt _ q; omega), fun q => by (have := HM0.out.doc.1 _ q; omega), by omega, HM0.out.bel.size⟩)
          rw [← enb] at HZ ⊢
          clear enb
          clear HM0
          clear hb
          refine wpAnyH_ready (rs := [11]) (by kernel_rfl) (by simp) ?_
          refine AllReadyH.cons (o := ⟨none, _, _, _, _, _⟩) rfl (fun K hK => ?_) AllReadyH.nil
          obtain ⟨z_0, z_1, z_2, z_3⟩ := row2_cells HZ.out
          go_simp
          refine hK.out _ _ (⟨row_set_other (row_set_other hHeld.1 HZn.out.2.2.1) HZn.out.2.2.1, fun j u hj => (World.cell?_of_block (w := Uy5u2) ((RowKit.Below.heap_setCell _ _ _ _ (by show b ≠ zb; have := HZn.out.2.2.2; have := HbL.out; omega)).trans (RowKit.Below.heap_setCell _ _ _ _ (by show b ≠ zb; have := HZn.out.2.2.2; have := HbL.out; omega)))).trans (hHeld.2 j u hj)⟩) (fun hHeld2 => ?_)
          clear hK K hHeld
          have hHeld := hHeld2
          clear hHeld2
          (try simp only [Act.put, List.setIfInBounds_toArray, List.set_cons_zero, List.set_cons_succ])
          obtain ⟨Uy5u3, eWn⟩ : ∃ X, X = ((Uy5u2.setCell ⟨zb, 0, none⟩ (.int .i64 3)).setCell ⟨zb, 1, none⟩ (.slice av3 L3.length cv3)) := ⟨_, rfl⟩
          rw [← eWn] at hHeld ⊢
          replace HM : Hid (PyS w0 yb nb 3 F3 G3 B3 (.slice av3 L3.length cv3) (.slice av L.length cv) L3 Uy5u3) := (by rw [eWn]; exact HM.out.set2 HZn.out.1 HZn.out.2.1 HZn.out.2.2.1 HZn.out.2.2.2)
          have HZr : Hid (Uy5u3.heap[zb]? = some (.cells #[.int .i64 ((3 : Nat) : Int), (.slice av3 L3.length cv3)] 30)) := (by rw [eWn]; exact row_set2 HZ.out)
          clear z_0 z_1 z_2 z_3 eWn HZ
          refine tkW 12 (some 10) (v := ?_) ?_ hHeld ?_
          rotate_left
          · (intro ww _; go_simp; try with_reducible rfl)
          refine wpAnyH_done (by kernel_rfl) ?_ _
          clear hHeld
          obtain ⟨q_0, q_1, _, _⟩ := row2_cells HZr.out
          obtain ⟨r_0, r_1, r_2, r_3⟩ := row2_cells HM.out.ybx
          have HSn := hide9 HM.out.setY
          have n1 : IntKind.i64.wrap ((i : Int) + 1) = (i : Int) + 1 := by rw [IntKind.wrap_i64]; omega
          go_wp2
          go_roundw
          case rel => exact ⟨i + 1, F3, G3, B3, _, L3, by omega, by go_num, HSn, (show L3.length ≤ i + 1 ∧ i + 1 ≤ 200 by have h1 := HL3.out; have h2 := HLl.out; omega)⟩
          case measure => simp [intOf]; omega
        · have HS0 := HS
          have hbx : Below Uy5u0.heap.size Uy5u0 (Uy5u0.alloc (.cells #[.int .i64 0, .slice none 0 0] 30)) := (Below.refl _ _).alloc (Nat.le_refl _) _
          go_simp
          refine hK.out _ _ (⟨(hbx.block _ (row_lt hHeld.1)).trans hHeld.1, fun j u hj => (hbx.cell (p := ⟨b, _, none⟩) (Nat.lt_of_lt_of_le HbL.out HS.out.bel.size)).trans (hHeld.2 j u hj)⟩) (fun hHeld2 => ?_)
          clear hK K hHeld
          have hHeld := hHeld2
          clear hHeld2
          (try simp only [Act.put, List.setIfInBounds_toArray, List.set_cons_zero, List.set_cons_succ])
          obtain ⟨Uy5u4, eW⟩ : ∃ X, X = Uy5u0.alloc (.cells #[.int .i64 0, .slice none 0 0] 30) := ⟨_, rfl⟩
          have hb : Below Uy5u0.heap.size Uy5u0 Uy5u4 := by rw [eW]; exact (Below.refl _ _).alloc (Nat.le_refl _) _
          replace HS : Hid (PyS w0 yb nb 3 F G B (.slice av L.length cv) (.slice av L.length cv) L Uy5u4) := HS.out.below hb
          have HZ : Hid (Uy5u4.heap[Uy5u0.heap.size]? = some (.cells #[.int .i64 0, .slice none 0 0] 30)) := by rw [eW]; exact heap_alloc_new _ _
          rw [← eW] at hHeld ⊢
          clear eW
          clear hbx
          obtain ⟨zb, enb⟩ : ∃ b, b = Uy5u0.heap.size := ⟨_, rfl⟩
          have HZn : Hid (¬ F zb ∧ ¬ G zb ∧ yb ≠ zb ∧ w0.heap.size ≤ zb) := (by have h1 := HS.out.bel.size; have h2 := row_lt HS0.out.ybx; rw [enb]; exact ⟨fun q => by (have := HS0.out.net.lt _ q; omega), fun q => by (have := HS0.out.doc.1 _ q; omega), by omega, HS0.out.bel.size⟩)
          have HZs : Hid (zb < Uy5u4.heap.size) := (by rw [enb]; exact row_lt HZ.out)
          rw [← enb] at HZ ⊢
          clear enb
          clear HS0
          clear hb
          refine wpAnyH_ready (rs := [6]) (by kernel_rfl) (by simp) ?_
          refine AllReadyH.cons (o := ⟨some 46, _, _, _, _, _⟩) rfl (fun K hK => ?_) AllReadyH.nil
          go_simp
          refine (HS.out.play (by have := HLl.out; omega) x (.slice apx x.p.length cpx) HxB.out HxO.out).mono ?_
          rintro e Uy5u5 ⟨v3, B3, F3, L3, G3, rfl, hpy, hln, hto, hel, hdo, hnf, hng⟩
          (try go_wp2_with fail)
          obtain ⟨av3, cv3, ev3⟩ := hpy.doc.isS.form
          subst ev3
          have hS6 : Uy5u5.heap[yb]? = some (.cells #[.int .i64 ((3 : Nat) : Int), (.slice av L.length cv)] 30) ∧ (∀ j u, (acCells x (.slice apx x.p.length cpx))[j]? = some u → Uy5u5.cell? ⟨b, o + i * 7 + j, none⟩ = some u) := ⟨hpy.ybx, fun j u hj => (World.cell?_of_block (w := Uy5u4) (hto.block b (Nat.lt_of_lt_of_le HbL.out HS.out.bel.size) (fun q => by have h1 := HS.out.fhi b q; have := HbL.out; omega))).trans (hHeld.2 j u hj)⟩
          have HM : Hid (PyS w0 yb nb 3 F3 G3 B3 (.slice av3 L3.length cv3) (.slice av L.length cv) L3 Uy5u5) := hpy
          have HL3 : Hid (L3.length ≤ L.length + 1) := hln
          replace HZ : Hid (Uy5u5.heap[zb]? = some (.cells #[.int .i64 0, .slice none 0 0] 30)) := row_touch HZ.out hto HZn.out.1
          replace HZn : Hid (¬ F3 zb ∧ ¬ G3 zb ∧ yb ≠ zb ∧ w0.heap.size ≤ zb) := ⟨hnf zb (row_lt_touch HZ.out hto HZs.out) HZn.out.1, hng zb (row_lt_touch HZ.out hto HZs.out) HZn.out.2.1, HZn.out.2.2.1, HZn.out.2.2.2⟩
          clear hpy hln hel hdo hnf hng hto HS
          refine hK.out _ _ (hS6) (fun hHeld2 => ?_)
          clear hK K hHeld
          have hHeld := hHeld2
          clear hHeld2
          (try simp only [Act.put, List.setIfInBounds_toArray, List.set_cons_zero, List.set_cons_succ])
          clear hS6
          refine tkW 7 (some 39) (v := ?_) ?_ hHeld ?_
          rotate_left
          · (intro ww _; go_simp; try with_reducible rfl)
          refine tkW 8 (some 47) (v := ?_) ?_ hHeld ?_
          rotate_left
          · (intro ww _; go_simp; try with_reducible rfl)
          refine tkW 9 (some 48) (v := ?_) ?_ hHeld ?_
          rotate_left
          · (intro ww _; go_simp; try with_reducible rfl)
          refine wpAnyH_ready (rs := [11]) (by kernel_rfl) (by simp) ?_
          refine AllReadyH.cons (o := ⟨none, _, _, _, _, _⟩) rfl (fun K hK => ?_) AllReadyH.nil
          obtain ⟨z_0, z_1, z_2, z_3⟩ := row2_cells HZ.out
          go_simp
          refine hK.out _ _ (⟨row_set_other (row_set_other hHeld.1 HZn.out.2.2.1) HZn.out.2.2.1, fun j u hj => (World.cell?_of_block (w := Uy5u5) ((RowKit.Below.heap_setCell _ _ _ _ (by show b ≠ zb; have := HZn.out.2.2.2; have := HbL.out; omega)).trans (RowKit.Below.heap_setCell _ _ _ _ (by show b ≠ zb; have := HZn.out.2.2.2; have := HbL.out; omega)))).trans (hHeld.2 j u hj)⟩) (fun hHeld2 => ?_)
          clear hK K hHeld
          have hHeld := hHeld2
          clear hHeld2
          (try simp only [Act.put, List.setIfInBounds_toArray, List.set_cons_zero, List.set_cons_succ])
          obtain ⟨Uy5u6, eWn⟩ : ∃ X, X = ((Uy5u5.setCell ⟨zb, 0, none⟩ (.int .i64 3)).setCell ⟨zb, 1, none⟩ (.slice av3 L3.length cv3)) := ⟨_, rfl⟩
          rw [← eWn] at hHeld ⊢
          replace HM : Hid (PyS w0 yb nb 3 F3 G3 B3 (.slice av3 L3.length cv3) (.slice av L.length cv) L3 Uy5u6) := (by rw [eWn]; exact HM.out.set2 HZn.out.1 HZn.out.2.1 HZn.out.2.2.1 HZn.out.2.2.2)
          have HZr : Hid (Uy5u6.heap[zb]? = some (.cells #[.int .i64 ((3 : Nat) : Int), (.slice av3 L3.length cv3)] 30)) := (by rw [eWn]; exact row_set2 HZ.out)
          clear z_0 z_1 z_2 z_3 eWn HZ
          refine tkW 12 (some 10) (v := ?_) ?_ hHeld ?_
          rotate_left
          · (intro ww _; go_simp; try with_reducible rfl)
          refine wpAnyH_done (by kernel_rfl) ?_ _
          clear hHeld
          obtain ⟨q_0, q_1, _, _⟩ := row2_cells HZr.out
          obtain ⟨r_0, r_1, r_2, r_3⟩ := row2_cells HM.out.ybx
          have HSn := hide9 HM.out.setY
          have n1 : IntKind.i64.wrap ((i : Int) + 1) = (i : Int) + 1 := by rw [IntKind.wrap_i64]; omega
          go_wp2
          go_roundw
          case rel => exact ⟨i + 1, F3, G3, B3, _, L3, by omega, by go_num, HSn, (show L3.length ≤ i + 1 ∧ i + 1 ≤ 200 by have h1 := HL3.out; have h2 := HLl.out; omega)⟩
          case measure => simp [intOf]; omega
      · have k2 : ¬ (i : Int) < 200 := by omega
        have k3 : decide ((i : Int) < 200) = false := decide_eq_false k2
        obtain ⟨y_0, y_1, _, _⟩ := row2_cells HS.out.ybx
        have HRa : Hid (RowA7 w.heap.size a.kind a.fr a.to a.i a.at_ a.mask (.slice apa a.p.length cpa) wr) := HA0.out.below HS.out.bel
        obtain ⟨f_0, f_1, f_2, f_3, f_4, f_5, f_6⟩ := HRa.out.cells
        go_wp2_with fail
        clear y_0 y_1 f_0 f_1 f_2 f_3 f_4 f_5 f_6
        refine (HS.out.play (by have := HLi.out; omega) a (.slice apa a.p.length cpa) HaB.out HaO.out).mono ?_
        rintro e w4 ⟨v3, B3, F3, L3, G3, rfl, hpy, hln, hto, hel, hdo, hnf, hng⟩
        have HR0 : Hid (Rel 3 B L) := HS.out.rel
        have HRl : Hid (Rel 3 B3 L3) := hpy.rel
        have HEls : Hid (Else a.fr a.to L L3) := hel
        have HA : Hid (ApS w0 w.heap.size yb nb F3 G B3 (.slice av L.length cv) L a.kind a.fr a.to a.i a.at_ a.mask (.slice apa a.p.length cpa) w4) := ⟨hpy.net, hdo, hpy.ybx, ⟨row_touch HRa.out.out hto (fun q => by have h1 := HS.out.fhi _ q; have h2 := row_lt HA0.out.out; omega)⟩, hpy.bel⟩
        obtain ⟨av3, cv3, ev3⟩ := hpy.doc.isS.form
        subst ev3
        clear hpy hln hto hel hdo hnf hng HS HRa HLi
        go_wp2
        go_loopw [11] (fun iv wr => ∃ i : Nat, i ≤ L.length ∧ iv = .int .i64 (i : Int) ∧ Hid (ApS w0 w.heap.size yb nb F3 G B3 (.slice av L.length cv) L a.kind a.fr a.to a.i a.at_ a.mask (.slice apa a.p.length cpa) wr)) (fun iv _ => L.length - (intOf iv).toNat)
        case atStart => exact ⟨0, Nat.zero_le _, rfl, HA⟩
        case round =>
          clear HA
          obtain ⟨i, hi, rfl, HA⟩ := hrel
          obtain ⟨y_0, y_1, _, _⟩ := row2_cells HA.out.ybx
          by_cases hlt : i < L.length
          · obtain ⟨_, _, e9, _, _, hrow9⟩ := HA.out.doc.isS
            injection e9 with e91 e92 e93
            subst e91
            obtain ⟨b, o, rfl, hr9⟩ := hrow9.resolve_left (by intro e; rw [e] at hlt; simp at hlt)
            obtain ⟨s, es⟩ : ∃ s, s = L[i] := ⟨_, rfl⟩
            have hs9 := hr9 i hlt
            rw [← es] at hs9
            obtain ⟨a3, c3, hI3, q0, q1, q2, q3⟩ := hs9.all
            have HsL : Hid (s ∈ L) := (by rw [es]; exact List.getElem_mem hlt)
            clear es hs9 hrow9 hr9 e92 e93 hI3
            obtain ⟨w5, ew5⟩ : ∃ X, X = wr.alloc (.cells #[.int .i64 s.fr, .int .i64 s.to, .slice a3 s.p.length c3, .bool s.sp] 50) := ⟨_, rfl⟩
            have hb5 : Below wr.heap.size wr w5 := by rw [ew5]; exact (Below.refl _ _).alloc (Nat.le_refl _) _
            obtain ⟨sb, esb⟩ : ∃ x, x = wr.heap.size := ⟨_, rfl⟩
            have HSb : Hid (w5.heap[sb]? = some (.cells #[.int .i64 s.fr, .int .i64 s.to, .slice a3 s.p.length c3, .bool s.sp] 50)) := (by rw [ew5, esb]; exact heap_alloc_new _ _)
            replace HA : Hid (ApS w0 w.heap.size yb nb F3 G B3 (.slice (some ⟨b, o, none⟩) L.length cv) L a.kind a.fr a.to a.i a.at_ a.mask (.slice apa a.p.length cpa) w5) := HA.out.below hb5
            clear hb5
            have k1 : (i : Int) < (L.length : Int) := by omega
            have k0 : (0 : Int) ≤ (i : Int) := by omega
            have HE5 := hide9 (And.intro ew5 esb)
            obtain ⟨f_0, f_1, f_2, f_3, f_4, f_5, f_6⟩ := HA.out.act.cells
            have s_0 : w5.cell? ⟨sb, 0, none⟩ = some (.int .i64 s.fr) := (by rw [cell_of_row _ _ _ _ _ _ HSb.out]; rfl)
            have s_1 : w5.cell? ⟨sb, 1, none⟩ = some (.int .i64 s.to) := (by rw [cell_of_row _ _ _ _ _ _ HSb.out]; rfl)
            rw [ew5] at f_0 f_1 f_2 f_3 f_4 f_5 f_6 s_0 s_1
            rw [esb] at s_0 s_1
            clear ew5 esb
            have n1 : IntKind.i64.wrap ((i : Int) + 1) = (i : Int) + 1 := by rw [IntKind.wrap_i64]; omega
            by_cases e1 : s.fr = a.fr
            · have g1 : (s.fr == a.fr) = true := by simp [e1]
              by_cases e2 : s.to = a.to
              · have g2 : (s.to == a.to) = true := by simp [e2]
                clear e1 e2
                go_wp2
                rw [← HE5.out.1]
                go_roundw
                case rel => exact ⟨i + 1, by omega, by go_num, HA⟩
                case measure => simp [intOf]; omega
              · have g2 : (s.to == a.to) = false := by simpa using e2
                have He2 : Hid (¬ s.to = a.to) := e2
                clear e1 e2
                have HElk : Hid (linkL L3 s.fr s.to = linkL L s.fr s.to) := HEls.out s.fr s.to (by rintro ⟨e1, e2⟩; exact He2.out e2)
                have HEl := HElk
                have HLk : Hid (linkE 3 s.fr s.to = 0) := HR0.out.on s HsL.out
                obtain ⟨wt, ewt⟩ : ∃ x, x = waitL L s.fr s.to := ⟨_, rfl⟩
                have HWe : Hid (waitL L s.fr s.to = wt) := ewt.symm
                have HWt : Hid ((if linkE 3 s.fr s.to = 0 then ((B3 (plc 3 s.fr s.to)).length : Int) else 0) = (wt : Int)) := (by show _ = _; rw [ewt]; exact link_wait HRl.out HEl.out HLk.out)
                have hwl : wt ≤ L.length := (by rw [ewt]; exact wait_le _ _ _)
                clear ewt
                go_upto_region 16 with fail
                rw [← HE5.out.1, ← HE5.out.2]
                clear HE5 y_0 y_1 q0 q1 q2 q3 f_0 f_1 f_2 f_3 f_4 f_5 f_6 s_0 s_1
                refine wp_region_held_drew (S := fun W' => W'.heap[yb]? = some (.cells #[.int .i64 ((3 : Nat) : Int), (.slice (some ⟨b, o, none⟩) L.length cv)] 30) ∧ W'.heap[sb]? = some (.cells #[.int .i64 s.fr, .int .i64 s.to, .slice a3 s.p.length c3, .bool s.sp] 50)) (by kernel_rfl) ⟨HA.out.ybx, HSb.out⟩ (fun hHeld => ?_)
                obtain ⟨Uw6u0, eW⟩ : ∃ X, X = w5.drew := ⟨_, rfl⟩
                have hb : Below w5.heap.size w5 Uw6u0 := by rw [eW]; exact (Below.refl _ _).drew
                replace HA : Hid (ApS w0 w.heap.size yb nb F3 G B3 (.slice (some ⟨b, o, none⟩) L.length cv) L a.kind a.fr a.to a.i a.at_ a.mask (.slice apa a.p.length cpa) Uw6u0) := HA.out.below hb
                replace HSb : Hid (Uw6u0.heap[sb]? = some (.cells #[.int .i64 s.fr, .int .i64 s.to, .slice a3 s.p.length c3, .bool s.sp] 50)) := (hb.block _ (row_lt HSb.out)).trans HSb.out
                rw [← eW] at hHeld ⊢
                clear eW hb
                refine tkW 0 (some 78) (v := ?_) ?_ hHeld ?_
                rotate_left
                · (intro ww _; go_simp; try with_reducible rfl)
                refine tkW 1 (some 79) (v := ?_) ?_ hHeld ?_
                rotate_left
                · (intro ww _; go_simp; try with_reducible rfl)
                refine tkW 2 (some 80) (v := ?_) ?_ hHeld ?_
                rotate_left
                · (intro ww hSw; (try dsimp only at hSw); obtain ⟨y_0, y_1, _, _⟩ := row2_cells hSw.1; have s_0 : ww.cell? ⟨sb, 0, none⟩ = some (.int .i64 s.fr) := (by rw [cell_of_row _ _ _ _ _ _ hSw.2]; rfl); have s_1 : ww.cell? ⟨sb, 1, none⟩ = some (.int .i64 s.to) := (by rw [cell_of_row _ _ _ _ _ _ hSw.2]; rfl); go_simp; try with_reducible rfl)
                refine tkW 3 (some 81) (v := ?_) ?_ hHeld ?_
                rotate_left
                · (intro ww _; go_simp; try with_reducible rfl)
                refine tkW 4 (some 82) (v := ?_) ?_ hHeld ?_
                rotate_left
                · (intro ww hSw; (try dsimp only at hSw); obtain ⟨y_0, y_1, _, _⟩ := row2_cells hSw.1; have s_0 : ww.cell? ⟨sb, 0, none⟩ = some (.int .i64 s.fr) := (by rw [cell_of_row _ _ _ _ _ _ hSw.2]; rfl); have s_1 : ww.cell? ⟨sb, 1, none⟩ = some (.int .i64 s.to) := (by rw [cell_of_row _ _ _ _ _ _ hSw.2]; rfl); go_simp; try with_reducible rfl)
                refine tkW 6 (some 84) (v := ?_) ?_ hHeld ?_
                rotate_left
                · (intro ww hSw; (try dsimp only at hSw); obtain ⟨y_0, y_1, _, _⟩ := row2_cells hSw.1; have s_0 : ww.cell? ⟨sb, 0, none⟩ = some (.int .i64 s.fr) := (by rw [cell_of_row _ _ _ _ _ _ hSw.2]; rfl); have s_1 : ww.cell? ⟨sb, 1, none⟩ = some (.int .i64 s.to) := (by rw [cell_of_row _ _ _ _ _ _ hSw.2]; rfl); go_simp; try with_reducible rfl)
                refine tkW 7 (some 85) (v := ?_) ?_ hHeld ?_
                rotate_left
                · (intro ww _; go_simp; try with_reducible rfl)
                refine tkW 8 (some 86) (v := ?_) ?_ hHeld ?_
                rotate_left
                · (intro ww hSw; (try dsimp only at hSw); obtain ⟨y_0, y_1, _, _⟩ := row2_cells hSw.1; have s_0 : ww.cell? ⟨sb, 0, none⟩ = some (.int .i64 s.fr) := (by rw [cell_of_row _ _ _ _ _ _ hSw.2]; rfl); have s_1 : ww.cell? ⟨sb, 1, none⟩ = some (.int .i64 s.to) := (by rw [cell_of_row _ _ _ _ _ _ hSw.2]; rfl); go_simp; try with_reducible rfl)
                refine tkW 9 (some 87) (v := ?_) ?_ hHeld ?_
                rotate_left
                · (intro ww _; go_simp; try with_reducible rfl)
                refine tkW 10 (some 88) (v := ?_) ?_ hHeld ?_
                rotate_left
                · (intro ww hSw; (try dsimp only at hSw); obtain ⟨y_0, y_1, _, _⟩ := row2_cells hSw.1; have s_0 : ww.cell? ⟨sb, 0, none⟩ = some (.int .i64 s.fr) := (by rw [cell_of_row _ _ _ _ _ _ hSw.2]; rfl); have s_1 : ww.cell? ⟨sb, 1, none⟩ = some (.int .i64 s.to) := (by rw [cell_of_row _ _ _ _ _ _ hSw.2]; rfl); go_simp; try with_reducible rfl)
                refine wpAnyH_ready (rs := [5]) (by kernel_rfl) (by simp) ?_
                refine AllReadyH.cons (o := ⟨some 83, _, _, _, _, _⟩) rfl (fun K hK => ?_) AllReadyH.nil
                go_simp
                refine (waiting_any F3 nb 3 B3 s.fr s.to _ HA.out.net).mono ?_
                rintro e Uw6u1 ⟨rfl, hb⟩
                rw [HWt.out]
                (try go_wp2_with fail)
                refine hK.out _ _ (⟨(hb.block _ (row_lt hHeld.1)).trans hHeld.1, (hb.block _ (row_lt hHeld.2)).trans hHeld.2⟩) (fun hHeld2 => ?_)
                clear hK K hHeld
                have hHeld := hHeld2
                clear hHeld2
                (try simp only [Act.put, List.setIfInBounds_toArray, List.set_cons_zero, List.set_cons_succ])
                replace HA : Hid (ApS w0 w.heap.size yb nb F3 G B3 (.slice (some ⟨b, o, none⟩) L.length cv) L a.kind a.fr a.to a.i a.at_ a.mask (.slice apa a.p.length cpa) Uw6u1) := HA.out.below hb
                replace HSb : Hid (Uw6u1.heap[sb]? = some (.cells #[.int .i64 s.fr, .int .i64 s.to, .slice a3 s.p.length c3, .bool s.sp] 50)) := (hb.block _ (row_lt HSb.out)).trans HSb.out
                clear hb
                refine wpAnyH_ready (rs := [11]) (by kernel_rfl) (by simp) ?_
                refine AllReadyH.cons (o := ⟨some 89, _, _, _, _, _⟩) rfl (fun K hK => ?_) AllReadyH.nil
                go_simp
                refine (refWaiting_any ((3 : Nat) : Int) _ L s.fr s.to _ HA.out.doc.isS).mono ?_
                rintro e Uw6u2 ⟨rfl, hb⟩
                rw [HWe.out]
                (try go_wp2_with fail)
                refine hK.out _ _ (⟨(hb.block _ (row_lt hHeld.1)).trans hHeld.1, (hb.block _ (row_lt hHeld.2)).trans hHeld.2⟩) (fun hHeld2 => ?_)
                clear hK K hHeld
                have hHeld := hHeld2
                clear hHeld2
                (try simp only [Act.put, List.setIfInBounds_toArray, List.set_cons_zero, List.set_cons_succ])
                replace HA : Hid (ApS w0 w.heap.size yb nb F3 G B3 (.slice (some ⟨b, o, none⟩) L.length cv) L a.kind a.fr a.to a.i a.at_ a.mask (.slice apa a.p.length cpa) Uw6u2) := HA.out.below hb
                replace HSb : Hid (Uw6u2.heap[sb]? = some (.cells #[.int .i64 s.fr, .int .i64 s.to, .slice a3 s.p.length c3, .bool s.sp] 50)) := (hb.block _ (row_lt HSb.out)).trans HSb.out
                clear hb
                refine tkW 12 (some 90) (v := .bool false) ?_ hHeld ?_
                · (intro ww hSw; (try dsimp only at hSw); obtain ⟨y_0, y_1, _, _⟩ := row2_cells hSw.1; have s_0 : ww.cell? ⟨sb, 0, none⟩ = some (.int .i64 s.fr) := (by rw [cell_of_row _ _ _ _ _ _ hSw.2]; rfl); have s_1 : ww.cell? ⟨sb, 1, none⟩ = some (.int .i64 s.to) := (by rw [cell_of_row _ _ _ _ _ _ hSw.2]; rfl); go_simp; try simp)
                refine wpAnyH_done (by kernel_rfl) ?_ _
                clear hHeld
                go_wp2
                go_loopw [13] (fun kv wr => ∃ k : Nat, k ≤ wt ∧ kv = .int .i64 (k : Int) ∧ Hid (ApS w0 w.heap.size yb nb F3 G B3 (.slice (some ⟨b, o, none⟩) L.length cv) L a.kind a.fr a.to a.i a.at_ a.mask (.slice apa a.p.length cpa) wr) ∧ Hid (wr.heap[sb]? = some (.cells #[.int .i64 s.fr, .int .i64 s.to, .slice a3 s.p.length c3, .bool s.sp] 50))) (fun kv _ => wt - (intOf kv).toNat)
                case atStart => exact ⟨0, Nat.zero_le _, rfl, HA, HSb⟩
                case round =>
                  clear HA HSb
                  obtain ⟨k, hk, rfl, HA, HSb⟩ := hrel
                  obtain ⟨y_0, y_1, _, _⟩ := row2_cells HA.out.ybx
                  have s_0 : wr.cell? ⟨sb, 0, none⟩ = some (.int .i64 s.fr) := (by rw [cell_of_row _ _ _ _ _ _ HSb.out]; rfl)
                  have s_1 : wr.cell? ⟨sb, 1, none⟩ = some (.int .i64 s.to) := (by rw [cell_of_row _ _ _ _ _ _ HSb.out]; rfl)
                  go_wp2_with fail
                  clear y_0 y_1 s_0 s_1
                  refine (refWaiting_any ((3 : Nat) : Int) _ L s.fr s.to _ HA.out.doc.isS).mono ?_
                  rintro e w7 ⟨rfl, hb⟩
                  rw [HWe.out]
                  replace HA : Hid (ApS w0 w.heap.size yb nb F3 G B3 (.slice (some ⟨b, o, none⟩) L.length cv) L a.kind a.fr a.to a.i a.at_ a.mask (.slice apa a.p.length cpa) w7) := HA.out.below hb
                  replace HSb : Hid (w7.heap[sb]? = some (.cells #[.int .i64 s.fr, .int .i64 s.to, .slice a3 s.p.length c3, .bool s.sp] 50)) := (hb.block _ (row_lt HSb.out)).trans HSb.out
                  clear hb
                  by_cases hlt : k < wt
                  · have k1 : (k : Int) < (wt : Int) := by omega
                    obtain ⟨hw0, hp0, hpc⟩ := link_pc (k := k) HRl.out HEl.out HLk.out (by rw [HWe.out]; exact hlt)
                    obtain ⟨y_0, y_1, _, _⟩ := row2_cells HA.out.ybx
                    have s_0 : w7.cell? ⟨sb, 0, none⟩ = some (.int .i64 s.fr) := (by rw [cell_of_row _ _ _ _ _ _ HSb.out]; rfl)
                    have s_1 : w7.cell? ⟨sb, 1, none⟩ = some (.int .i64 s.to) := (by rw [cell_of_row _ _ _ _ _ _ HSb.out]; rfl)
                    go_wp2_with fail
                    clear y_0 y_1 s_0 s_1
                    refine (peek_any F3 nb 3 B3 s.fr s.to (k : Int) _ HA.out.net).mono ?_
                    rintro e w8 ⟨pv8, rfl, hfr, hb⟩
                    rw [hw0]
                    have HFr : Hid (FreshB w7.heap.size w8 pv8 (pcAt 3 B3 s.fr s.to (k : Int)).1) := hfr
                    clear hfr hw0
                    replace HA : Hid (ApS w0 w.heap.size yb nb F3 G B3 (.slice (some ⟨b, o, none⟩) L.length cv) L a.kind a.fr a.to a.i a.at_ a.mask (.slice apa a.p.length cpa) w8) := HA.out.below hb
                    replace HSb : Hid (w8.heap[sb]? = some (.cells #[.int .i64 s.fr, .int .i64 s.to, .slice a3 s.p.length c3, .bool s.sp] 50)) := (hb.block _ (row_lt HSb.out)).trans HSb.out
                    clear hb
                    obtain ⟨y_0, y_1, _, _⟩ := row2_cells HA.out.ybx
                    have s_0 : w8.cell? ⟨sb, 0, none⟩ = some (.int .i64 s.fr) := (by rw [cell_of_row _ _ _ _ _ _ HSb.out]; rfl)
                    have s_1 : w8.cell? ⟨sb, 1, none⟩ = some (.int .i64 s.to) := (by rw [cell_of_row _ _ _ _ _ _ HSb.out]; rfl)
                    obtain ⟨a8, c8, e8⟩ := HFr.out.form
                    subst e8
                    go_wp2_with fail
                    clear y_0 y_1 s_0 s_1
                    refine (refPeek_any G 3 _ L s.fr s.to (k : Int) _ HA.out.doc).mono ?_
                    rintro e w9 ⟨qv, rfl, hpk, hb⟩
                    rw [hp0]
                    obtain ⟨j9, hj9, epl⟩ := place_of hp0
                    have hq9 := hpk.2 j9 hj9 hp0 epl
                    have hp9 := hpc j9 hj9 epl
                    have hfr9 := HFr.out.below hb
                    rw [hp9] at hfr9
                    obtain ⟨p9, ep9⟩ : ∃ p, p = L[j9].p := ⟨_, rfl⟩
                    rw [hp9] at ⊢
                    rw [← ep9] at hq9 hfr9 ⊢
                    obtain ⟨aq, cq, eq, _, hql, _⟩ := id hq9
                    subst eq
                    have kc1 := conv_txt (hfr9.isB hql)
                    have kc2 := conv_txt hq9.isB
                    clear hpc hp9 hpk hq9 hfr9 HFr epl hp0 ep9
                    replace HA : Hid (ApS w0 w.heap.size yb nb F3 G B3 (.slice (some ⟨b, o, none⟩) L.length cv) L a.kind a.fr a.to a.i a.at_ a.mask (.slice apa a.p.length cpa) w9) := HA.out.below hb
                    replace HSb : Hid (w9.heap[sb]? = some (.cells #[.int .i64 s.fr, .int .i64 s.to, .slice a3 s.p.length c3, .bool s.sp] 50)) := (hb.block _ (row_lt HSb.out)).trans HSb.out
                    clear hb
                    have n1 : IntKind.i64.wrap ((k : Int) + 1) = (k : Int) + 1 := by rw [IntKind.wrap_i64]; omega
                    go_wp2
                    go_roundw
                    case rel => exact ⟨k + 1, by omega, by go_num, HA, HSb⟩
                    case measure => simp [intOf]; omega
                  · have k1 : ¬ (k : Int) < (wt : Int) := by omega
                    have k2 : decide ((k : Int) < (wt : Int)) = false := decide_eq_false k1
                    have n1 : IntKind.i64.wrap ((i : Int) + 1) = (i : Int) + 1 := by rw [IntKind.wrap_i64]; omega
                    go_wp2
                    go_roundw
                    case rel => exact ⟨i + 1, by omega, by go_num, HA⟩
                    case measure => simp [intOf]; omega
            · have g1 : (s.fr == a.fr) = false := by simpa using e1
              have He1 : Hid (¬ s.fr = a.fr) := e1
              clear e1
              have HElk : Hid (linkL L3 s.fr s.to = linkL L s.fr s.to) := HEls.out s.fr s.to (by rintro ⟨e1, e2⟩; exact He1.out e1)
              have HEl := HElk
              have HLk : Hid (linkE 3 s.fr s.to = 0) := HR0.out.on s HsL.out
              obtain ⟨wt, ewt⟩ : ∃ x, x = waitL L s.fr s.to := ⟨_, rfl⟩
              have HWe : Hid (waitL L s.fr s.to = wt) := ewt.symm
              have HWt : Hid ((if linkE 3 s.fr s.to = 0 then ((B3 (plc 3 s.fr s.to)).length : Int) else 0) = (wt : Int)) := (by show _ = _; rw [ewt]; exact link_wait HRl.out HEl.out HLk.out)
              have hwl : wt ≤ L.length := (by rw [ewt]; exact wait_le _ _ _)
              clear ewt
              go_upto_region 16 with fail
              rw [← HE5.out.1, ← HE5.out.2]
              clear HE5 y_0 y_1 q0 q1 q2 q3 f_0 f_1 f_2 f_3 f_4 f_5 f_6 s_0 s_1
              refine wp_region_held_drew (S := fun W' => W'.heap[yb]? = some (.cells #[.int .i64 ((3 : Nat) : Int), (.slice (some ⟨b, o, none⟩) L.length cv)] 30) ∧ W'.heap[sb]? = some (.cells #[.int .i64 s.fr, .int .i64 s.to, .slice a3 s.p.length c3, .bool s.sp] 50)) (by kernel_rfl) ⟨HA.out.ybx, HSb.out⟩ (fun hHeld => ?_)
              obtain ⟨Uw7u0, eW⟩ : ∃ X, X = w5.drew := ⟨_, rfl⟩
              have hb : Below w5.heap.size w5 Uw7u0 := by rw [eW]; exact (Below.refl _ _).drew
              replace HA : Hid (ApS w0 w.heap.size yb nb F3 G B3 (.slice (some ⟨b, o, none⟩) L.length cv) L a.kind a.fr a.to a.i a.at_ a.mask (.slice apa a.p.length cpa) Uw7u0) := HA.out.below hb
              replace HSb : Hid (Uw7u0.heap[sb]? = some (.cells #[.int .i64 s.fr, .int .i64 s.to, .slice a3 s.p.length c3, .bool s.sp] 50)) := (hb.block _ (row_lt HSb.out)).trans HSb.out
              rw [← eW] at hHeld ⊢
              clear eW hb
              refine tkW 0 (some 78) (v := ?_) ?_ hHeld ?_
              rotate_left
              · (intro ww _; go_simp; try with_reducible rfl)
              refine tkW 1 (some 79) (v := ?_) ?_ hHeld ?_
              rotate_left
              · (intro ww _; go_simp; try with_reducible rfl)
              refine tkW 2 (some 80) (v := ?_) ?_ hHeld ?_
              rotate_left
              · (intro ww hSw; (try dsimp only at hSw); obtain ⟨y_0, y_1, _, _⟩ := row2_cells hSw.1; have s_0 : ww.cell? ⟨sb, 0, none⟩ = some (.int .i64 s.fr) := (by rw [cell_of_row _ _ _ _ _ _ hSw.2]; rfl); have s_1 : ww.cell? ⟨sb, 1, none⟩ = some (.int .i64 s.to) := (by rw [cell_of_row _ _ _ _ _ _ hSw.2]; rfl); go_simp; try with_reducible rfl)
              refine tkW 3 (some 81) (v := ?_) ?_ hHeld ?_
              rotate_left
              · (intro ww _; go_simp; try with_reducible rfl)
              refine tkW 4 (some 82) (v := ?_) ?_ hHeld ?_
              rotate_left
              · (intro ww hSw; (try dsimp only at hSw); obtain ⟨y_0, y_1, _, _⟩ := row2_cells hSw.1; have s_0 : ww.cell? ⟨sb, 0, none⟩ = some (.int .i64 s.fr) := (by rw [cell_of_row _ _ _ _ _ _ hSw.2]; rfl); have s_1 : ww.cell? ⟨sb, 1, none⟩ = some (.int .i64 s.to) := (by rw [cell_of_row _ _ _ _ _ _ hSw.2]; rfl); go_simp; try with_reducible rfl)
              refine tkW 6 (some 84) (v := ?_) ?_ hHeld ?_
              rotate_left
              · (intro ww hSw; (try dsimp only at hSw); obtain ⟨y_0, y_1, _, _⟩ := row2_cells hSw.1; have s_0 : ww.cell? ⟨sb, 0, none⟩ = some (.int .i64 s.fr) := (by rw [cell_of_row _ _ _ _ _ _ hSw.2]; rfl); have s_1 : ww.cell? ⟨sb, 1, none⟩ = some (.int .i64 s.to) := (by rw [cell_of_row _ _ _ _ _ _ hSw.2]; rfl); go_simp; try with_reducible rfl)
              refine tkW 7 (some 85) (v := ?_) ?_ hHeld ?_
              rotate_left
              · (intro ww _; go_simp; try with_reducible rfl)
              refine tkW 8 (some 86) (v := ?_) ?_ hHeld ?_
              rotate_left
              · (intro ww hSw; (try dsimp only at hSw); obtain ⟨y_0, y_1, _, _⟩ := row2_cells hSw.1; have s_0 : ww.cell? ⟨sb, 0, none⟩ = some (.int .i64 s.fr) := (by rw [cell_of_row _ _ _ _ _ _ hSw.2]; rfl); have s_1 : ww.cell? ⟨sb, 1, none⟩ = some (.int .i64 s.to) := (by rw [cell_of_row _ _ _ _ _ _ hSw.2]; rfl); go_simp; try with_reducible rfl)
              refine tkW 9 (some 87) (v := ?_) ?_ hHeld ?_
              rotate_left
              · (intro ww _; go_simp; try with_reducible rfl)
              refine tkW 10 (some 88) (v := ?_) ?_ hHeld ?_
              rotate_left
              · (intro ww hSw; (try dsimp only at hSw); obtain ⟨y_0, y_1, _, _⟩ := row2_cells hSw.1; have s_0 : ww.cell? ⟨sb, 0, none⟩ = some (.int .i64 s.fr) := (by rw [cell_of_row _ _ _ _ _ _ hSw.2]; rfl); have s_1 : ww.cell? ⟨sb, 1, none⟩ = some (.int .i64 s.to) := (by rw [cell_of_row _ _ _ _ _ _ hSw.2]; rfl); go_simp; try with_reducible rfl)
              refine wpAnyH_ready (rs := [5]) (by kernel_rfl) (by simp) ?_
              refine AllReadyH.cons (o := ⟨some 83, _, _, _, _, _⟩) rfl (fun K hK => ?_) AllReadyH.nil
              go_simp
              refine (waiting_any F3 nb 3 B3 s.fr s.to _ HA.out.net).mono ?_
              rintro e Uw7u1 ⟨rfl, hb⟩
              rw [HWt.out]
              (try go_wp2_with fail)
              refine hK.out _ _ (⟨(hb.block _ (row_lt hHeld.1)).trans hHeld.1, (hb.block _ (row_lt hHeld.2)).trans hHeld.2⟩) (fun hHeld2 => ?_)
              clear hK K hHeld
              have hHeld := hHeld2
              clear hHeld2
              (try simp only [Act.put, List.setIfInBounds_toArray, List.set_cons_zero, List.set_cons_succ])
              replace HA : Hid (ApS w0 w.heap.size yb nb F3 G B3 (.slice (some ⟨b, o, none⟩) L.length cv) L a.kind a.fr a.to a.i a.at_ a.mask (.slice apa a.p.length cpa) Uw7u1) := HA.out.below hb
              replace HSb : Hid (Uw7u1.heap[sb]? = some (.cells #[.int .i64 s.fr, .int .i64 s.to, .slice a3 s.p.length c3, .bool s.sp] 50)) := (hb.block _ (row_lt HSb.out)).trans HSb.out
              clear hb
              refine wpAnyH_ready (rs := [11]) (by kernel_rfl) (by simp) ?_
              refine AllReadyH.cons (o := ⟨some 89, _, _, _, _, _⟩) rfl (fun K hK => ?_) AllReadyH.nil
              go_simp
              refine (refWaiting_any ((3 : Nat) : Int) _ L s.fr s.to _ HA.out.doc.isS).mono ?_
              rintro e Uw7u2 ⟨rfl, hb⟩
              rw [HWe.out]
              (try go_wp2_with fail)
              refine hK.out _ _ (⟨(hb.block _ (row_lt hHeld.1)).trans hHeld.1, (hb.block _ (row_lt hHeld.2)).trans hHeld.2⟩) (fun hHeld2 => ?_)
              clear hK K hHeld
              have hHeld := hHeld2
              clear hHeld2
              (try simp only [Act.put, List.setIfInBounds_toArray, List.set_cons_zero, List.set_cons_succ])
              replace HA : Hid (ApS w0 w.heap.size yb nb F3 G B3 (.slice (some ⟨b, o, none⟩) L.length cv) L a.kind a.fr a.to a.i a.at_ a.mask (.slice apa a.p.length cpa) Uw7u2) := HA.out.below hb
              replace HSb : Hid (Uw7u2.heap[sb]? = some (.cells #[.int .i64 s.fr, .int .i64 s.to, .slice a3 s.p.length c3, .bool s.sp] 50)) := (hb.block _ (row_lt HSb.out)).trans HSb.out
              clear hb
              refine tkW 12 (some 90) (v := .bool false) ?_ hHeld ?_
              · (intro ww hSw; (try dsimp only at hSw); obtain ⟨y_0, y_1, _, _⟩ := row2_cells hSw.1; have s_0 : ww.cell? ⟨sb, 0, none⟩ = some (.int .i64 s.fr) := (by rw [cell_of_row _ _ _ _ _ _ hSw.2]; rfl); have s_1 : ww.cell? ⟨sb, 1, none⟩ = some (.int .i64 s.to) := (by rw [cell_of_row _ _ _ _ _ _ hSw.2]; rfl); go_simp; try simp)
              refine wpAnyH_done (by kernel_rfl) ?_ _
              clear hHeld
              go_wp2
              go_loopw [13] (fun kv wr => ∃ k : Nat, k ≤ wt ∧ kv = .int .i64 (k : Int) ∧ Hid (ApS w0 w.heap.size yb nb F3 G B3 (.slice (some ⟨b, o, none⟩) L.length cv) L a.kind a.fr a.to a.i a.at_ a.mask (.slice apa a.p.length cpa) wr) ∧ Hid (wr.heap[sb]? = some (.cells #[.int .i64 s.fr, .int .i64 s.to, .slice a3 s.p.length c3, .bool s.sp] 50))) (fun kv _ => wt - (intOf kv).toNat)
              case atStart => exact ⟨0, Nat.zero_le _, rfl, HA, HSb⟩
              case round =>
                clear HA HSb
                obtain ⟨k, hk, rfl, HA, HSb⟩ := hrel
                obtain ⟨y_0, y_1, _, _⟩ := row2_cells HA.out.ybx
                have s_0 : wr.cell? ⟨sb, 0, none⟩ = some (.int .i64 s.fr) := (by rw [cell_of_row _ _ _ _ _ _ HSb.out]; rfl)
                have s_1 : wr.cell? ⟨sb, 1, none⟩ = some (.int .i64 s.to) := (by rw [cell_of_row _ _ _ _ _ _ HSb.out]; rfl)
                go_wp2_with fail
                clear y_0 y_1 s_0 s_1
                refine (refWaiting_any ((3 : Nat) : Int) _ L s.fr s.to _ HA.out.doc.isS).mono ?_
                rintro e w7 ⟨rfl, hb⟩
                rw [HWe.out]
                replace HA : Hid (ApS w0 w.heap.size yb nb F3 G B3 (.slice (some ⟨b, o, none⟩) L.length cv) L a.kind a.fr a.to a.i a.at_ a.mask (.slice apa a.p.length cpa) w7) := HA.out.below hb
                replace HSb : Hid (w7.heap[sb]? = some (.cells #[.int .i64 s.fr, .int .i64 s.to, .slice a3 s.p.length c3, .bool s.sp] 50)) := (hb.block _ (row_lt HSb.out)).trans HSb.out
                clear hb
                by_cases hlt : k < wt
                · have k1 : (k : Int) < (wt : Int) := by omega
                  obtain ⟨hw0, hp0, hpc⟩ := link_pc (k := k) HRl.out HEl.out HLk.out (by rw [HWe.out]; exact hlt)
                  obtain ⟨y_0, y_1, _, _⟩ := row2_cells HA.out.ybx
                  have s_0 : w7.cell? ⟨sb, 0, none⟩ = some (.int .i64 s.fr) := (by rw [cell_of_row _ _ _ _ _ _ HSb.out]; rfl)
                  have s_1 : w7.cell? ⟨sb, 1, none⟩ = some (.int .i64 s.to) := (by rw [cell_of_row _ _ _ _ _ _ HSb.out]; rfl)
                  go_wp2_with fail
                  clear y_0 y_1 s_0 s_1
                  refine (peek_any F3 nb 3 B3 s.fr s.to (k : Int) _ HA.out.net).mono ?_
                  rintro e w8 ⟨pv8, rfl, hfr, hb⟩
                  rw [hw0]
                  have HFr : Hid (FreshB w7.heap.size w8 pv8 (pcAt 3 B3 s.fr s.to (k : Int)).1) := hfr
                  clear hfr hw0
                  replace HA : Hid (ApS w0 w.heap.size yb nb F3 G B3 (.slice (some ⟨b, o, none⟩) L.length cv) L a.kind a.fr a.to a.i a.at_ a.mask (.slice apa a.p.length cpa) w8) := HA.out.below hb
                  replace HSb : Hid (w8.heap[sb]? = some (.cells #[.int .i64 s.fr, .int .i64 s.to, .slice a3 s.p.length c3, .bool s.sp] 50)) := (hb.block _ (row_lt HSb.out)).trans HSb.out
                  clear hb
                  obtain ⟨y_0, y_1, _, _⟩ := row2_cells HA.out.ybx
                  have s_0 : w8.cell? ⟨sb, 0, none⟩ = some (.int .i64 s.fr) := (by rw [cell_of_row _ _ _ _ _ _ HSb.out]; rfl)
                  have s_1 : w8.cell? ⟨sb, 1, none⟩ = some (.int .i64 s.to) := (by rw [cell_of_row _ _ _ _ _ _ HSb.out]; rfl)
                  obtain ⟨a8, c8, e8⟩ := HFr.out.form
                  subst e8
                  go_wp2_with fail
                  clear y_0 y_1 s_0 s_1
                  refine (refPeek_any G 3 _ L s.fr s.to (k : Int) _ HA.out.doc).mono ?_
                  rintro e w9 ⟨qv, rfl, hpk, hb⟩
                  rw [hp0]
                  obtain ⟨j9, hj9, epl⟩ := place_of hp0
                  have hq9 := hpk.2 j9 hj9 hp0 epl
                  have hp9 := hpc j9 hj9 epl
                  have hfr9 := HFr.out.below hb
                  rw [hp9] at hfr9
                  obtain ⟨p9, ep9⟩ : ∃ p, p = L[j9].p := ⟨_, rfl⟩
                  rw [hp9] at ⊢
                  rw [← ep9] at hq9 hfr9 ⊢
                  obtain ⟨aq, cq, eq, _, hql, _⟩ := id hq9
                  subst eq
                  have kc1 := conv_txt (hfr9.isB hql)
                  have kc2 := conv_txt hq9.isB
                  clear hpc hp9 hpk hq9 hfr9 HFr epl hp0 ep9
                  replace HA : Hid (ApS w0 w.heap.size yb nb F3 G B3 (.slice (some ⟨b, o, none⟩) L.length cv) L a.kind a.fr a.to a.i a.at_ a.mask (.slice apa a.p.length cpa) w9) := HA.out.below hb
                  replace HSb : Hid (w9.heap[sb]? = some (.cells #[.int .i64 s.fr, .int .i64 s.to, .slice a3 s.p.length c3, .bool s.sp] 50)) := (hb.block _ (row_lt HSb.out)).trans HSb.out
                  clear hb
                  have n1 : IntKind.i64.wrap ((k : Int) + 1) = (k : Int) + 1 := by rw [IntKind.wrap_i64]; omega
                  go_wp2
                  go_roundw
                  case rel => exact ⟨k + 1, by omega, by go_num, HA, HSb⟩
                  case measure => simp [intOf]; omega
                · have k1 : ¬ (k : Int) < (wt : Int) := by omega
                  have k2 : decide ((k : Int) < (wt : Int)) = false := decide_eq_false k1
                  have n1 : IntKind.i64.wrap ((i : Int) + 1) = (i : Int) + 1 := by rw [IntKind.wrap_i64]; omega
                  go_wp2
                  go_roundw
                  case rel => exact ⟨i + 1, by omega, by go_num, HA⟩
                  case measure => simp [intOf]; omega
          · have k1 : ¬ (i : Int) < (L.length : Int) := by omega
            have k2 : decide ((i : Int) < (L.length : Int)) = false := decide_eq_false k1
            go_wp2_with fail
            refine (awake_any _).mono ?_
            rintro e w9 ⟨rfl, hb⟩
            have HBz : Hid (Below w.heap.size w w9) := Hw0.out.trans ((HA.out.bel.trans (hb.mono HA.out.bel.size)).mono Hw0.out.size)
            clear hb HA
            go_wp2
            go_ret
            exact ⟨rfl, HBz.out⟩
    · have k1 : ¬ (i : Int) < (l.length : Int) := by omega
      have k3 : decide ((i : Int) < (l.length : Int)) = false := decide_eq_false k1
      obtain ⟨y_0, y_1, _, _⟩ := row2_cells HS.out.ybx
      have HRa : Hid (RowA7 w.heap.size a.kind a.fr a.to a.i a.at_ a.mask (.slice apa a.p.length cpa) wr) := HA0.out.below HS.out.bel
      obtain ⟨f_0, f_1, f_2, f_3, f_4, f_5, f_6⟩ := HRa.out.cells
      go_wp2_with fail
      clear y_0 y_1 f_0 f_1 f_2 f_3 f_4 f_5 f_6
      refine (HS.out.play (by have := HLi.out; omega) a (.slice apa a.p.length cpa) HaB.out HaO.out).mono ?_
      rintro e w4 ⟨v3, B3, F3, L3, G3, rfl, hpy, hln, hto, hel, hdo, hnf, hng⟩
      have HR0 : Hid (Rel 3 B L) := HS.out.rel
      have HRl : Hid (Rel 3 B3 L3) := hpy.rel
      have HEls : Hid (Else a.fr a.to L L3) := hel
      have HA : Hid (ApS w0 w.heap.size yb nb F3 G B3 (.slice av L.length cv) L a.kind a.fr a.to a.i a.at_ a.mask (.slice apa a.p.length cpa) w4) := ⟨hpy.net, hdo, hpy.ybx, ⟨row_touch HRa.out.out hto (fun q => by have h1 := HS.out.fhi _ q; have h2 := row_lt HA0.out.out; omega)⟩, hpy.bel⟩
      obtain ⟨av3, cv3, ev3⟩ := hpy.doc.isS.form
      subst ev3
      clear hpy hln hto hel hdo hnf hng HS HRa HLi
      go_wp2
      go_loopw [11] (fun iv wr => ∃ i : Nat, i ≤ L.length ∧ iv = .int .i64 (i : Int) ∧ Hid (ApS w0 w.heap.size yb nb F3 G B3 (.slice av L.length cv) L a.kind a.fr a.to a.i a.at_ a.mask (.slice apa a.p.length cpa) wr)) (fun iv _ => L.length - (intOf iv).toNat)
      case atStart => exact ⟨0, Nat.zero_le _, rfl, HA⟩
      case round =>
        clear HA
        obtain ⟨i, hi, rfl, HA⟩ := hrel
        obtain ⟨y_0, y_1, _, _⟩ := row2_cells HA.out.ybx
        by_cases hlt : i < L.length
        · obtain ⟨_, _, e9, _, _, hrow9⟩ := HA.out.doc.isS
          injection e9 with e91 e92 e93
          subst e91
          obtain ⟨b, o, rfl, hr9⟩ := hrow9.resolve_left (by intro e; rw [e] at hlt; simp at hlt)
          obtain ⟨s, es⟩ : ∃ s, s = L[i] := ⟨_, rfl⟩
          have hs9 := hr9 i hlt
          rw [← es] at hs9
          obtain ⟨a3, c3, hI3, q0, q1, q2, q3⟩ := hs9.all
          have HsL : Hid (s ∈ L) := (by rw [es]; exact List.getElem_mem hlt)
          clear es hs9 hrow9 hr9 e92 e93 hI3
          obtain ⟨w5, ew5⟩ : ∃ X, X = wr.alloc (.cells #[.int .i64 s.fr, .int .i64 s.to, .slice a3 s.p.length c3, .bool s.sp] 50) := ⟨_, rfl⟩
          have hb5 : Below wr.heap.size wr w5 := by rw [ew5]; exact (Below.refl _ _).alloc (Nat.le_refl _) _
          obtain ⟨sb, esb⟩ : ∃ x, x = wr.heap.size := ⟨_, rfl⟩
          have HSb : Hid (w5.heap[sb]? = some (.cells #[.int .i64 s.fr, .int .i64 s.to, .slice a3 s.p.length c3, .bool s.sp] 50)) := (by rw [ew5, esb]; exact heap_alloc_new _ _)
          replace HA : Hid (ApS w0 w.heap.size yb nb F3 G B3 (.slice (some ⟨b, o, none⟩) L.length cv) L a.kind a.fr a.to a.i a.at_ a.mask (.slice apa a.p.length cpa) w5) := HA.out.below hb5
          clear hb5
          have k1 : (i : Int) < (L.length : Int) := by omega
          have k0 : (0 : Int) ≤ (i : Int) := by omega
          have HE5 := hide9 (And.intro ew5 esb)
          obtain ⟨f_0, f_1, f_2, f_3, f_4, f_5, f_6⟩ := HA.out.act.cells
          have s_0 : w5.cell? ⟨sb, 0, none⟩ = some (.int .i64 s.fr) := (by rw [cell_of_row _ _ _ _ _ _ HSb.out]; rfl)
          have s_1 : w5.cell? ⟨sb, 1, none⟩ = some (.int .i64 s.to) := (by rw [cell_of_row _ _ _ _ _ _ HSb.out]; rfl)
          rw [ew5] at f_0 f_1 f_2 f_3 f_4 f_5 f_6 s_0 s_1
          rw [esb] at s_0 s_1
          clear ew5 esb
          have n1 : IntKind.i64.wrap ((i : Int) + 1) = (i : Int) + 1 := by rw [IntKind.wrap_i64]; omega
          by_cases e1 : s.fr = a.fr
          · have g1 : (s.fr == a.fr) = true := by simp [e1]
            by_cases e2 : s.to = a.to
            · have g2 : (s.to == a.to) = true := by simp [e2]
              clear e1 e2
              go_wp2
              rw [← HE5.out.1]
              go_roundw
              case rel => exact ⟨i + 1, by omega, by go_num, HA⟩
              case measure => simp [intOf]; omega
            · have g2 : (s.to == a.to) = false := by simpa using e2
              have He2 : Hid (¬ s.to = a.to) := e2
              clear e1 e2
              have HElk : Hid (linkL L3 s.fr s.to = linkL L s.fr s.to) := HEls.out s.fr s.to (by rintro ⟨e1, e2⟩; exact He2.out e2)
              have HEl := HElk
              have HLk : Hid (linkE 3 s.fr s.to = 0) := HR0.out.on s HsL.out
              obtain ⟨wt, ewt⟩ : ∃ x, x = waitL L s.fr s.to := ⟨_, rfl⟩
              have HWe : Hid (waitL L s.fr s.to = wt) := ewt.symm
              have HWt : Hid ((if linkE 3 s.fr s.to = 0 then ((B3 (plc 3 s.fr s.to)).length : Int) else 0) = (wt : Int)) := (by show _ = _; rw [ewt]; exact link_wait HRl.out HEl.out HLk.out)
              have hwl : wt ≤ L.length := (by rw [ewt]; exact wait_le _ _ _)
              clear ewt
              go_upto_region 16 with fail
              rw [← HE5.out.1, ← HE5.out.2]
              clear HE5 y_0 y_1 q0 q1 q2 q3 f_0 f_1 f_2 f_3 f_4 f_5 f_6 s_0 s_1
              refine wp_region_held_drew (S := fun W' => W'.heap[yb]? = some (.cells #[.int .i64 ((3 : Nat) : Int), (.slice (some ⟨b, o, none⟩) L.length cv)] 30) ∧ W'.heap[sb]? = some (.cells #[.int .i64 s.fr, .int .i64 s.to, .slice a3 s.p.length c3, .bool s.sp] 50)) (by kernel_rfl) ⟨HA.out.ybx, HSb.out⟩ (fun hHeld => ?_)
              obtain ⟨Uw8u0, eW⟩ : ∃ X, X = w5.drew := ⟨_, rfl⟩
              have hb : Below w5.heap.size w5 Uw8u0 := by rw [eW]; exact (Below.refl _ _).drew
              replace HA : Hid (ApS w0 w.heap.size yb nb F3 G B3 (.slice (some ⟨b, o, none⟩) L.length cv) L a.kind a.fr a.to a.i a.at_ a.mask (.slice apa a.p.length cpa) Uw8u0) := HA.out.below hb
              replace HSb : Hid (Uw8u0.heap[sb]? = some (.cells #[.int .i64 s.fr, .int .i64 s.to, .slice a3 s.p.length c3, .bool s.sp] 50)) := (hb.block _ (row_lt HSb.out)).trans HSb.out
              rw [← eW] at hHeld ⊢
              clear eW hb
              refine tkW 0 (some 78) (v := ?_) ?_ hHeld ?_
              rotate_left
              · (intro ww _; go_simp; try with_reducible rfl)
              refine tkW 1 (some 79) (v := ?_) ?_ hHeld ?_
              rotate_left
              · (intro ww _; go_simp; try with_reducible rfl)
              refine tkW 2 (some 80) (v := ?_) ?_ hHeld ?_
              rotate_left
              · (intro ww hSw; (try dsimp only at hSw); obtain ⟨y_0, y_1, _, _⟩ := row2_cells hSw.1; have s_0 : ww.cell? ⟨sb, 0, none⟩ = some (.int .i64 s.fr) := (by rw [cell_of_row _ _ _ _ _ _ hSw.2]; rfl); have s_1 : ww.cell? ⟨sb, 1, none⟩ = some (.int .i64 s.to) := (by rw [cell_of_row _ _ _ _ _ _ hSw.2]; rfl); go_simp; try with_reducible rfl)
              refine tkW 3 (some 81) (v := ?_) ?_ hHeld ?_
              rotate_left
              · (intro ww _; go_simp; try with_reducible rfl)
              refine tkW 4 (some 82) (v := ?_) ?_ hHeld ?_
              rotate_left
              · (intro ww hSw; (try dsimp only at hSw); obtain ⟨y_0, y_1, _, _⟩ := row2_cells hSw.1; have s_0 : ww.cell? ⟨sb, 0, none⟩ = some (.int .i64 s.fr) := (by rw [cell_of_row _ _ _ _ _ _ hSw.2]; rfl); have s_1 : ww.cell? ⟨sb, 1, none⟩ = some (.int .i64 s.to) := (by rw [cell_of_row _ _ _ _ _ _ hSw.2]; rfl); go_simp; try with_reducible rfl)
              refine tkW 6 (some 84) (v := ?_) ?_ hHeld ?_
              rotate_left
              · (intro ww hSw; (try dsimp only at hSw); obtain ⟨y_0, y_1, _, _⟩ := row2_cells hSw.1; have s_0 : ww.cell? ⟨sb, 0, none⟩ = some (.int .i64 s.fr) := (by rw [cell_of_row _ _ _ _ _ _ hSw.2]; rfl); have s_1 : ww.cell? ⟨sb, 1, none⟩ = some (.int .i64 s.to) := (by rw [cell_of_row _ _ _ _ _ _ hSw.2]; rfl); go_simp; try with_reducible rfl)
              refine tkW 7 (some 85) (v := ?_) ?_ hHeld ?_
              rotate_left
              · (intro ww _; go_simp; try with_reducible rfl)
              refine tkW 8 (some 86) (v := ?_) ?_ hHeld ?_
              rotate_left
              · (intro ww hSw; (try dsimp only at hSw); obtain ⟨y_0, y_1, _, _⟩ := row2_cells hSw.1; have s_0 : ww.cell? ⟨sb, 0, none⟩ = some (.int .i64 s.fr) := (by rw [cell_of_row _ _ _ _ _ _ hSw.2]; rfl); have s_1 : ww.cell? ⟨sb, 1, none⟩ = some (.int .i64 s.to) := (by rw [cell_of_row _ _ _ _ _ _ hSw.2]; rfl); go_simp; try with_reducible rfl)
              refine tkW 9 (some 87) (v := ?_) ?_ hHeld ?_
              rotate_left
              · (intro ww _; go_simp; try with_reducible rfl)
              refine tkW 10 (some 88) (v := ?_) ?_ hHeld ?_
              rotate_left
              · (intro ww hSw; (try dsimp only at hSw); obtain ⟨y_0, y_1, _, _⟩ := row2_cells hSw.1; have s_0 : ww.cell? ⟨sb, 0, none⟩ = some (.int .i64 s.fr) := (by rw [cell_of_row _ _ _ _ _ _ hSw.2]; rfl); have s_1 : ww.cell? ⟨sb, 1, none⟩ = some (.int .i64 s.to) := (by rw [cell_of_row _ _ _ _ _ _ hSw.2]; rfl); go_simp; try with_reducible rfl)
              refine wpAnyH_ready (rs := [5]) (by kernel_rfl) (by simp) ?_
              refine AllReadyH.cons (o := ⟨some 83, _, _, _, _, _⟩) rfl (fun K hK => ?_) AllReadyH.nil
              go_simp
              refine (waiting_any F3 nb 3 B3 s.fr s.to _ HA.out.net).mono ?_
              rintro e Uw8u1 ⟨rfl, hb⟩
              rw [HWt.out]
              (try go_wp2_with fail)
              refine hK.out _ _ (⟨(hb.block _ (row_lt hHeld.1)).trans hHeld.1, (hb.block _ (row_lt hHeld.2)).trans hHeld.2⟩) (fun hHeld2 => ?_)
              clear hK K hHeld
              have hHeld := hHeld2
              clear hHeld2
              (try simp only [Act.put, List.setIfInBounds_toArray, List.set_cons_zero, List.set_cons_succ])
              replace HA : Hid (ApS w0 w.heap.size yb nb F3 G B3 (.slice (some ⟨b, o, none⟩) L.length cv) L a.kind a.fr a.to a.i a.at_ a.mask (.slice apa a.p.length cpa) Uw8u1) := HA.out.below hb
              replace HSb : Hid (Uw8u1.heap[sb]? = some (.cells #[.int .i64 s.fr, .int .i64 s.to, .slice a3 s.p.length c3, .bool s.sp] 50)) := (hb.block _ (row_lt HSb.out)).trans HSb.out
              clear hb
              refine wpAnyH_ready (rs := [11]) (by kernel_rfl) (by simp) ?_
              refine AllReadyH.cons (o := ⟨some 89, _, _, _, _, _⟩) rfl (fun K hK => ?_) AllReadyH.nil
              go_simp
              refine (refWaiting_any ((3 : Nat) : Int) _ L s.fr s.to _ HA.out.doc.isS).mono ?_
              rintro e Uw8u2 ⟨rfl, hb⟩
              rw [HWe.out]
              (try go_wp2_with fail)
              refine hK.out _ _ (⟨(hb.block _ (row_lt hHeld.1)).trans hHeld.1, (hb.block _ (row_lt hHeld.2)).trans hHeld.2⟩) (fun hHeld2 => ?_)
              clear hK K hHeld
              have hHeld := hHeld2
              clear hHeld2
              (try simp only [Act.put, List.setIfInBounds_toArray, List.set_cons_zero, List.set_cons_succ])
              replace HA : Hid (ApS w0 w.heap.size yb nb F3 G B3 (.slice (some ⟨b, o, none⟩) L.length cv) L a.kind a.fr a.to a.i a.at_ a.mask (.slice apa a.p.length cpa) Uw8u2) := HA.out.below hb
              replace HSb : Hid (Uw8u2.heap[sb]? = some (.cells #[.int .i64 s.fr, .int .i64 s.to, .slice a3 s.p.length c3, .bool s.sp] 50)) := (hb.block _ (row_lt HSb.out)).trans HSb.out
              clear hb
              refine tkW 12 (some 90) (v := .bool false) ?_ hHeld ?_
              · (intro ww hSw; (try dsimp only at hSw); obtain ⟨y_0, y_1, _, _⟩ := row2_cells hSw.1; have s_0 : ww.cell? ⟨sb, 0, none⟩ = some (.int .i64 s.fr) := (by rw [cell_of_row _ _ _ _ _ _ hSw.2]; rfl); have s_1 : ww.cell? ⟨sb, 1, none⟩ = some (.int .i64 s.to) := (by rw [cell_of_row _ _ _ _ _ _ hSw.2]; rfl); go_simp; try simp)
              refine wpAnyH_done (by kernel_rfl) ?_ _
              clear hHeld
              go_wp2
              go_loopw [13] (fun kv wr => ∃ k : Nat, k ≤ wt ∧ kv = .int .i64 (k : Int) ∧ Hid (ApS w0 w.heap.size yb nb F3 G B3 (.slice (some ⟨b, o, none⟩) L.length cv) L a.kind a.fr a.to a.i a.at_ a.mask (.slice apa a.p.length cpa) wr) ∧ Hid (wr.heap[sb]? = some (.cells #[.int .i64 s.fr, .int .i64 s.to, .slice a3 s.p.length c3, .bool s.sp] 50))) (fun kv _ => wt - (intOf kv).toNat)
              case atStart => exact ⟨0, Nat.zero_le _, rfl, HA, HSb⟩
              case round =>
                clear HA HSb
                obtain ⟨k, hk, rfl, HA, HSb⟩ := hrel
                obtain ⟨y_0, y_1, _, _⟩ := row2_cells HA.out.ybx
                have s_0 : wr.cell? ⟨sb, 0, none⟩ = some (.int .i64 s.fr) := (by rw [cell_of_row _ _ _ _ _ _ HSb.out]; rfl)
                have s_1 : wr.cell? ⟨sb, 1, none⟩ = some (.int .i64 s.to) := (by rw [cell_of_row _ _ _ _ _ _ HSb.out]; rfl)
                go_wp2_with fail
                clear y_0 y_1 s_0 s_1
                refine (refWaiting_any ((3 : Nat) : Int) _ L s.fr s.to _ HA.out.doc.isS).mono ?_
                rintro e w7 ⟨rfl, hb⟩
                rw [HWe.out]
                replace HA : Hid (ApS w0 w.heap.size yb nb F3 G B3 (.slice (some ⟨b, o, none⟩) L.length cv) L a.kind a.fr a.to a.i a.at_ a.mask (.slice apa a.p.length cpa) w7) := HA.out.below hb
                replace HSb : Hid (w7.heap[sb]? = some (.cells #[.int .i64 s.fr, .int .i64 s.to, .slice a3 s.p.length c3, .bool s.sp] 50)) := (hb.block _ (row_lt HSb.out)).trans HSb.out
                clear hb
                by_cases hlt : k < wt
                · have k1 : (k : Int) < (wt : Int) := by omega
                  obtain ⟨hw0, hp0, hpc⟩ := link_pc (k := k) HRl.out HEl.out HLk.out (by rw [HWe.out]; exact hlt)
                  obtain ⟨y_0, y_1, _, _⟩ := row2_cells HA.out.ybx
                  have s_0 : w7.cell? ⟨sb, 0, none⟩ = some (.int .i64 s.fr) := (by rw [cell_of_row _ _ _ _ _ _ HSb.out]; rfl)
                  have s_1 : w7.cell? ⟨sb, 1, none⟩ = some (.int .i64 s.to) := (by rw [cell_of_row _ _ _ _ _ _ HSb.out]; rfl)
                  go_wp2_with fail
                  clear y_0 y_1 s_0 s_1
                  refine (peek_any F3 nb 3 B3 s.fr s.to (k : Int) _ HA.out.net).mono ?_
                  rintro e w8 ⟨pv8, rfl, hfr, hb⟩
                  rw [hw0]
                  have HFr : Hid (FreshB w7.heap.size w8 pv8 (pcAt 3 B3 s.fr s.to (k : Int)).1) := hfr
                  clear hfr hw0
                  replace HA : Hid (ApS w0 w.heap.size yb nb F3 G B3 (.slice (some ⟨b, o, none⟩) L.length cv) L a.kind a.fr a.to a.i a.at_ a.mask (.slice apa a.p.length cpa) w8) := HA.out.below hb
                  replace HSb : Hid (w8.heap[sb]? = some (.cells #[.int .i64 s.fr, .int .i64 s.to, .slice a3 s.p.length c3, .bool s.sp] 50)) := (hb.block _ (row_lt HSb.out)).trans HSb.out
                  clear hb
                  obtain ⟨y_0, y_1, _, _⟩ := row2_cells HA.out.ybx
                  have s_0 : w8.cell? ⟨sb, 0, none⟩ = some (.int .i64 s.fr) := (by rw [cell_of_row _ _ _ _ _ _ HSb.out]; rfl)
                  have s_1 : w8.cell? ⟨sb, 1, none⟩ = some (.int .i64 s.to) := (by rw [cell_of_row _ _ _ _ _ _ HSb.out]; rfl)
                  obtain ⟨a8, c8, e8⟩ := HFr.out.form
                  subst e8
                  go_wp2_with fail
                  clear y_0 y_1 s_0 s_1
                  refine (refPeek_any G 3 _ L s.fr s.to (k : Int) _ HA.out.doc).mono ?_
                  rintro e w9 ⟨qv, rfl, hpk, hb⟩
                  rw [hp0]
                  obtain ⟨j9, hj9, epl⟩ := place_of hp0
                  have hq9 := hpk.2 j9 hj9 hp0 epl
                  have hp9 := hpc j9 hj9 epl
                  have hfr9 := HFr.out.below hb
                  rw [hp9] at hfr9
                  obtain ⟨p9, ep9⟩ : ∃ p, p = L[j9].p := ⟨_, rfl⟩
                  rw [hp9] at ⊢
                  rw [← ep9] at hq9 hfr9 ⊢
                  obtain ⟨aq, cq, eq, _, hql, _⟩ := id hq9
                  subst eq
                  have kc1 := conv_txt (hfr9.isB hql)
                  have kc2 := conv_txt hq9.isB
                  clear hpc hp9 hpk hq9 hfr9 HFr epl hp0 ep9
                  replace HA : Hid (ApS w0 w.heap.size yb nb F3 G B3 (.slice (some ⟨b, o, none⟩) L.length cv) L a.kind a.fr a.to a.i a.at_ a.mask (.slice apa a.p.length cpa) w9) := HA.out.below hb
                  replace HSb : Hid (w9.heap[sb]? = some (.cells #[.int .i64 s.fr, .int .i64 s.to, .slice a3 s.p.length c3, .bool s.sp] 50)) := (hb.block _ (row_lt HSb.out)).trans HSb.out
                  clear hb
                  have n1 : IntKind.i64.wrap ((k : Int) + 1) = (k : Int) + 1 := by rw [IntKind.wrap_i64]; omega
                  go_wp2
                  go_roundw
                  case rel => exact ⟨k + 1, by omega, by go_num, HA, HSb⟩
                  case measure => simp [intOf]; omega
                · have k1 : ¬ (k : Int) < (wt : Int) := by omega
                  have k2 : decide ((k : Int) < (wt : Int)) = false := decide_eq_false k1
                  have n1 : IntKind.i64.wrap ((i : Int) + 1) = (i : Int) + 1 := by rw [IntKind.wrap_i64]; omega
                  go_wp2
                  go_roundw
                  case rel => exact ⟨i + 1, by omega, by go_num, HA⟩
                  case measure => simp [intOf]; omega
          · have g1 : (s.fr == a.fr) = false := by simpa using e1
            have He1 : Hid (¬ s.fr = a.fr) := e1
            clear e1
            have HElk : Hid (linkL L3 s.fr s.to = linkL L s.fr s.to) := HEls.out s.fr s.to (by rintro ⟨e1, e2⟩; exact He1.out e1)
            have HEl := HElk
            have HLk : Hid (linkE 3 s.fr s.to = 0) := HR0.out.on s HsL.out
            obtain ⟨wt, ewt⟩ : ∃ x, x = waitL L s.fr s.to := ⟨_, rfl⟩
            have HWe : Hid (waitL L s.fr s.to = wt) := ewt.symm
            have HWt : Hid ((if linkE 3 s.fr s.to = 0 then ((B3 (plc 3 s.fr s.to)).length : Int) else 0) = (wt : Int)) := (by show _ = _; rw [ewt]; exact link_wait HRl.out HEl.out HLk.out)
            have hwl : wt ≤ L.length := (by rw [ewt]; exact wait_le _ _ _)
            clear ewt
            go_upto_region 16 with fail
            rw [← HE5.out.1, ← HE5.out.2]
            clear HE5 y_0 y_1 q0 q1 q2 q3 f_0 f_1 f_2 f_3 f_4 f_5 f_6 s_0 s_1
            refine wp_region_held_drew (S := fun W' => W'.heap[yb]? = some (.cells #[.int .i64 ((3 : Nat) : Int), (.slice (some ⟨b, o, none⟩) L.length cv)] 30) ∧ W'.heap[sb]? = some (.cells #[.int .i64 s.fr, .int .i64 s.to, .slice a3 s.p.length c3, .bool s.sp] 50)) (by kernel_rfl) ⟨HA.out.ybx, HSb.out⟩ (fun hHeld => ?_)
            obtain ⟨Uw9u0, eW⟩ : ∃ X, X = w5.drew := ⟨_, rfl⟩
            have hb : Below w5.heap.size w5 Uw9u0 := by rw [eW]; exact (Below.refl _ _).drew
            replace HA : Hid (ApS w0 w.heap.size yb nb F3 G B3 (.slice (some ⟨b, o, none⟩) L.length cv) L a.kind a.fr a.to a.i a.at_ a.mask (.slice apa a.p.length cpa) Uw9u0) := HA.out.below hb
            replace HSb : Hid (Uw9u0.heap[sb]? = some (.cells #[.int .i64 s.fr, .int .i64 s.to, .slice a3 s.p.length c3, .bool s.sp] 50)) := (hb.block _ (row_lt HSb.out)).trans HSb.out
            rw [← eW] at hHeld ⊢
            clear eW hb
            refine tkW 0 (some 78) (v := ?_) ?_ hHeld ?_
            rotate_left
            · (intro ww _; go_simp; try with_reducible rfl)
            refine tkW 1 (some 79) (v := ?_) ?_ hHeld ?_
            rotate_left
            · (intro ww _; go_simp; try with_reducible rfl)
            refine tkW 2 (some 80) (v := ?_) ?_ hHeld ?_
            rotate_left
            · (intro ww hSw; (try dsimp only at hSw); obtain ⟨y_0, y_1, _, _⟩ := row2_cells hSw.1; have s_0 : ww.cell? ⟨sb, 0, none⟩ = some (.int .i64 s.fr) := (by rw [cell_of_row _ _ _ _ _ _ hSw.2]; rfl); have s_1 : ww.cell? ⟨sb, 1, none⟩ = some (.int .i64 s.to) := (by rw [cell_of_row _ _ _ _ _ _ hSw.2]; rfl); go_simp; try with_reducible rfl)
            refine tkW 3 (some 81) (v := ?_) ?_ hHeld ?_
            rotate_left
            · (intro ww _; go_simp; try with_reducible rfl)
            refine tkW 4 (some 82) (v := ?_) ?_ hHeld ?_
            rotate_left
            · (intro ww hSw; (try dsimp only at hSw); obtain ⟨y_0, y_1, _, _⟩ := row2_cells hSw.1; have s_0 : ww.cell? ⟨sb, 0, none⟩ = some (.int .i64 s.fr) := (by rw [cell_of_row _ _ _ _ _ _ hSw.2]; rfl); have s_1 : ww.cell? ⟨sb, 1, none⟩ = some (.int .i64 s.to) := (by rw [cell_of_row _ _ _ _ _ _ hSw.2]; rfl); go_simp; try with_reducible rfl)
            refine tkW 6 (some 84) (v := ?_) ?_ hHeld ?_
            rotate_left
            · (intro ww hSw; (try dsimp only at hSw); obtain ⟨y_0, y_1, _, _⟩ := row2_cells hSw.1; have s_0 : ww.cell? ⟨sb, 0, none⟩ = some (.int .i64 s.fr) := (by rw [cell_of_row _ _ _ _ _ _ hSw.2]; rfl); have s_1 : ww.cell? ⟨sb, 1, none⟩ = some (.int .i64 s.to) := (by rw [cell_of_row _ _ _ _ _ _ hSw.2]; rfl); go_simp; try with_reducible rfl)
            refine tkW 7 (some 85) (v := ?_) ?_ hHeld ?_
            rotate_left
            · (intro ww _; go_simp; try with_reducible rfl)
            refine tkW 8 (some 86) (v := ?_) ?_ hHeld ?_
            rotate_left
            · (intro ww hSw; (try dsimp only at hSw); obtain ⟨y_0, y_1, _, _⟩ := row2_cells hSw.1; have s_0 : ww.cell? ⟨sb, 0, none⟩ = some (.int .i64 s.fr) := (by rw [cell_of_row _ _ _ _ _ _ hSw.2]; rfl); have s_1 : ww.cell? ⟨sb, 1, none⟩ = some (.int .i64 s.to) := (by rw [cell_of_row _ _ _ _ _ _ hSw.2]; rfl); go_simp; try with_reducible rfl)
            refine tkW 9 (some 87) (v := ?_) ?_ hHeld ?_
            rotate_left
            · (intro ww _; go_simp; try with_reducible rfl)
            refine tkW 10 (some 88) (v := ?_) ?_ hHeld ?_
            rotate_left
            · (intro ww hSw; (try dsimp only at hSw); obtain ⟨y_0, y_1, _, _⟩ := row2_cells hSw.1; have s_0 : ww.cell? ⟨sb, 0, none⟩ = some (.int .i64 s.fr) := (by rw [cell_of_row _ _ _ _ _ _ hSw.2]; rfl); have s_1 : ww.cell? ⟨sb, 1, none⟩ = some (.int .i64 s.to) := (by rw [cell_of_row _ _ _ _ _ _ hSw.2]; rfl); go_simp; try with_reducible rfl)
            refine wpAnyH_ready (rs := [5]) (by kernel_rfl) (by simp) ?_
            refine AllReadyH.cons (o := ⟨some 83, _, _, _, _, _⟩) rfl (fun K hK => ?_) AllReadyH.nil
            go_simp
            refine (waiting_any F3 nb 3 B3 s.fr s.to _ HA.out.net).mono ?_
            rintro e Uw9u1 ⟨rfl, hb⟩
            rw [HWt.out]
            (try go_wp2_with fail)
            refine hK.out _ _ (⟨(hb.block _ (row_lt hHeld.1)).trans hHeld.1, (hb.block _ (row_lt hHeld.2)).trans hHeld.2⟩) (fun hHeld2 => ?_)
            clear hK K hHeld
            have hHeld := hHeld2
            clear hHeld2
            (try simp only [Act.put, List.setIfInBounds_toArray, List.set_cons_zero, List.set_cons_succ])
            replace HA : Hid (ApS w0 w.heap.size yb nb F3 G B3 (.slice (some ⟨b, o, none⟩) L.length cv) L a.kind a.fr a.to a.i a.at_ a.mask (.slice apa a.p.length cpa) Uw9u1) := HA.out.below hb
            replace HSb : Hid (Uw9u1.heap[sb]? = some (.cells #[.int .i64 s.fr, .int .i64 s.to, .slice a3 s.p.length c3, .bool s.sp] 50)) := (hb.block _ (row_lt HSb.out)).trans HSb.out
            clear hb
            refine wpAnyH_ready (rs := [11]) (by kernel_rfl) (by simp) ?_
            refine AllReadyH.cons (o := ⟨some 89, _, _, _, _, _⟩) rfl (fun K hK => ?_) AllReadyH.nil
            go_simp
            refine (refWaiting_any ((3 : Nat) : Int) _ L s.fr s.to _ HA.out.doc.isS).mono ?_
            rintro e Uw9u2 ⟨rfl, hb⟩
            rw [HWe.out]
            (try go_wp2_with fail)
            refine hK.out _ _ (⟨(hb.block _ (row_lt hHeld.1)).trans hHeld.1, (hb.block _ (row_lt hHeld.2)).trans hHeld.2⟩) (fun hHeld2 => ?_)
            clear hK K hHeld
            have hHeld := hHeld2
            clear hHeld2
            (try simp only [Act.put, List.setIfInBounds_toArray, List.set_cons_zero, List.set_cons_succ])
            replace HA : Hid (ApS w0 w.heap.size yb nb F3 G B3 (.slice (some ⟨b, o, none⟩) L.length cv) L a.kind a.fr a.to a.i a.at_ a.mask (.slice apa a.p.length cpa) Uw9u2) := HA.out.below hb
            replace HSb : Hid (Uw9u2.heap[sb]? = some (.cells #[.int .i64 s.fr, .int .i64 s.to, .slice a3 s.p.length c3, .bool s.sp] 50)) := (hb.block _ (row_lt HSb.out)).trans HSb.out
            clear hb
            refine tkW 12 (some 90) (v := .bool false) ?_ hHeld ?_
            · (intro ww hSw; (try dsimp only at hSw); obtain ⟨y_0, y_1, _, _⟩ := row2_cells hSw.1; have s_0 : ww.cell? ⟨sb, 0, none⟩ = some (.int .i64 s.fr) := (by rw [cell_of_row _ _ _ _ _ _ hSw.2]; rfl); have s_1 : ww.cell? ⟨sb, 1, none⟩ = some (.int .i64 s.to) := (by rw [cell_of_row _ _ _ _ _ _ hSw.2]; rfl); go_simp; try simp)
            refine wpAnyH_done (by kernel_rfl) ?_ _
            clear hHeld
            go_wp2
            go_loopw [13] (fun kv wr => ∃ k : Nat, k ≤ wt ∧ kv = .int .i64 (k : Int) ∧ Hid (ApS w0 w.heap.size yb nb F3 G B3 (.slice (some ⟨b, o, none⟩) L.length cv) L a.kind a.fr a.to a.i a.at_ a.mask (.slice apa a.p.length cpa) wr) ∧ Hid (wr.heap[sb]? = some (.cells #[.int .i64 s.fr, .int .i64 s.to, .slice a3 s.p.length c3, .bool s.sp] 50))) (fun kv _ => wt - (intOf kv).toNat)
            case atStart => exact ⟨0, Nat.zero_le _, rfl, HA, HSb⟩
            case round =>
              clear HA HSb
              obtain ⟨k, hk, rfl, HA, HSb⟩ := hrel
              obtain ⟨y_0, y_1, _, _⟩ := row2_cells HA.out.ybx
              have s_0 : wr.cell? ⟨sb, 0, none⟩ = some (.int .i64 s.fr) := (by rw [cell_of_row _ _ _ _ _ _ HSb.out]; rfl)
              have s_1 : wr.cell? ⟨sb, 1, none⟩ = some (.int .i64 s.to) := (by rw [cell_of_row _ _ _ _ _ _ HSb.out]; rfl)
              go_wp2_with fail
              clear y_0 y_1 s_0 s_1
              refine (refWaiting_any ((3 : Nat) : Int) _ L s.fr s.to _ HA.out.doc.isS).mono ?_
              rintro e w7 ⟨rfl, hb⟩
              rw [HWe.out]
              replace HA : Hid (ApS w0 w.heap.size yb nb F3 G B3 (.slice (some ⟨b, o, none⟩) L.length cv) L a.kind a.fr a.to a.i a.at_ a.mask (.slice apa a.p.length cpa) w7) := HA.out.below hb
              replace HSb : Hid (w7.heap[sb]? = some (.cells #[.int .i64 s.fr, .int .i64 s.to, .slice a3 s.p.length c3, .bool s.sp] 50)) := (hb.block _ (row_lt HSb.out)).trans HSb.out
              clear hb
              by_cases hlt : k < wt
              · have k1 : (k : Int) < (wt : Int) := by omega
                obtain ⟨hw0, hp0, hpc⟩ := link_pc (k := k) HRl.out HEl.out HLk.out (by rw [HWe.out]; exact hlt)
                obtain ⟨y_0, y_1, _, _⟩ := row2_cells HA.out.ybx
                have s_0 : w7.cell? ⟨sb, 0, none⟩ = some (.int .i64 s.fr) := (by rw [cell_of_row _ _ _ _ _ _ HSb.out]; rfl)
                have s_1 : w7.cell? ⟨sb, 1, none⟩ = some (.int .i64 s.to) := (by rw [cell_of_row _ _ _ _ _ _ HSb.out]; rfl)
                go_wp2_with fail
                clear y_0 y_1 s_0 s_1
                refine (peek_any F3 nb 3 B3 s.fr s.to (k : Int) _ HA.out.net).mono ?_
                rintro e w8 ⟨pv8, rfl, hfr, hb⟩
                rw [hw0]
                have HFr : Hid (FreshB w7.heap.size w8 pv8 (pcAt 3 B3 s.fr s.to (k : Int)).1) := hfr
                clear hfr hw0
                replace HA : Hid (ApS w0 w.heap.size yb nb F3 G B3 (.slice (some ⟨b, o, none⟩) L.length cv) L a.kind a.fr a.to a.i a.at_ a.mask (.slice apa a.p.length cpa) w8) := HA.out.below hb
                replace HSb : Hid (w8.heap[sb]? = some (.cells #[.int .i64 s.fr, .int .i64 s.to, .slice a3 s.p.length c3, .bool s.sp] 50)) := (hb.block _ (row_lt HSb.out)).trans HSb.out
                clear hb
                obtain ⟨y_0, y_1, _, _⟩ := row2_cells HA.out.ybx
                have s_0 : w8.cell? ⟨sb, 0, none⟩ = some (.int .i64 s.fr) := (by rw [cell_of_row _ _ _ _ _ _ HSb.out]; rfl)
                have s_1 : w8.cell? ⟨sb, 1, none⟩ = some (.int .i64 s.to) := (by rw [cell_of_row _ _ _ _ _ _ HSb.out]; rfl)
                obtain ⟨a8, c8, e8⟩ := HFr.out.form
                subst e8
                go_wp2_with fail
                clear y_0 y_1 s_0 s_1
                refine (refPeek_any G 3 _ L s.fr s.to (k : Int) _ HA.out.doc).mono ?_
                rintro e w9 ⟨qv, rfl, hpk, hb⟩
                rw [hp0]
                obtain ⟨j9, hj9, epl⟩ := place_of hp0
                have hq9 := hpk.2 j9 hj9 hp0 epl
                have hp9 := hpc j9 hj9 epl
                have hfr9 := HFr.out.below hb
                rw [hp9] at hfr9
                obtain ⟨p9, ep9⟩ : ∃ p, p = L[j9].p := ⟨_, rfl⟩
                rw [hp9] at ⊢
                rw [← ep9] at hq9 hfr9 ⊢
                obtain ⟨aq, cq, eq, _, hql, _⟩ := id hq9
                subst eq
                have kc1 := conv_txt (hfr9.isB hql)
                have kc2 := conv_txt hq9.isB
                clear hpc hp9 hpk hq9 hfr9 HFr epl hp0 ep9
                replace HA : Hid (ApS w0 w.heap.size yb nb F3 G B3 (.slice (some ⟨b, o, none⟩) L.length cv) L a.kind a.fr a.to a.i a.at_ a.mask (.slice apa a.p.length cpa) w9) := HA.out.below hb
                replace HSb : Hid (w9.heap[sb]? = some (.cells #[.int .i64 s.fr, .int .i64 s.to, .slice a3 s.p.length c3, .bool s.sp] 50)) := (hb.block _ (row_lt HSb.out)).trans HSb.out
                clear hb
                have n1 : IntKind.i64.wrap ((k : Int) + 1) = (k : Int) + 1 := by rw [IntKind.wrap_i64]; omega
                go_wp2
                go_roundw
                case rel => exact ⟨k + 1, by omega, by go_num, HA, HSb⟩
                case measure => simp [intOf]; omega
              · have k1 : ¬ (k : Int) < (wt : Int) := by omega
                have k2 : decide ((k : Int) < (wt : Int)) = false := decide_eq_false k1
                have n1 : IntKind.i64.wrap ((i : Int) + 1) = (i : Int) + 1 := by rw [IntKind.wrap_i64]; omega
                go_wp2
                go_roundw
                case rel => exact ⟨i + 1, by omega, by go_num, HA⟩
                case measure => simp [intOf]; omega
        · have k1 : ¬ (i : Int) < (L.length : Int) := by omega
          have k2 : decide ((i : Int) < (L.length : Int)) = false := decide_eq_false k1
          go_wp2_with fail
          refine (awake_any _).mono ?_
          rintro e w9 ⟨rfl, hb⟩
          have HBz : Hid (Below w.heap.size w w9) := Hw0.out.trans ((HA.out.bel.trans (hb.mono HA.out.bel.size)).mono Hw0.out.size)
          clear hb HA
          go_wp2
          go_ret
          exact ⟨rfl, HBz.out⟩

end Go.Proofs.Ythhbnebalnikeaa
