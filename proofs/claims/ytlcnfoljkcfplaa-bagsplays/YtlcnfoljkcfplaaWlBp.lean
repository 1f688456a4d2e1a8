/- BagsPlays: any calls of a net of any size: what they tell, and what all links have behind each. -/
import Derived.Test.YtlcnfoljkcfplaaDsU
import Derived.Test.YtlcnfoljkcfplaaBgZ
import Derived.Deep.CutRange
namespace Go.Proofs.Ytlcnfoljkcfplaa
open Go.RowKit Go.Shelf
set_option linter.unusedVariables false
set_option linter.unusedSimpArgs false

theorem row_lt_touch {F : Nat → Prop} {X X' : World} {b : Nat} {o : Obj} (h : X'.heap[b]? = some o) (ht : Touch F X X') (hb : b < X.heap.size) : b < X.heap.size := hb
theorem IsA.take {w : World} {a : Option Addr} {cap : Nat} {L : List Ac} (h : IsA w (.slice a L.length cap) L) (k : Nat) (hk : k ≤ L.length) : IsA w (.slice a k cap) (L.take k) := by
  obtain ⟨a1, c1, e, h1, h2, h3⟩ := h
  injection e with e1 e2 e3
  subst e1 e3
  have hl : (L.take k).length = k := by rw [List.length_take]; omega
  refine ⟨a, cap, by rw [hl], by omega, by omega, ?_⟩
  rcases h3 with h3 | ⟨b, o, e4, h4⟩
  · exact .inl (by rw [h3]; simp)
  · exact .inr ⟨b, o, e4, fun i hi => by
      rw [List.getElem_take]
      exact h4 i (by omega)⟩
section
variable {w X X' : World} {yb nb nb2 n : Nat} {F F2 G : Nat → Prop} {B B' : Nat → List Pc} {v yv : Value} {L : List Sn}
/-- Another net is written to. -/
theorem PyS.touched (h : PyS w yb nb2 n F2 G B v yv L X) (ht : Touch F X X') (hf : ∀ k, F k → ¬ F2 k ∧ ¬ G k ∧ k ≠ yb ∧ w.heap.size ≤ k) : PyS w yb nb2 n F2 G B v yv L X' :=
  ⟨h.net.keep ⟨ht.size, fun k q => ht.block k (h.net.lt k q) (fun f => (hf k f).1 q)⟩, h.fhi, h.nfy, h.doc.keep ht.size (fun k q => ht.block k (h.doc.1 k q) (fun f => (hf k f).2.1 q)), h.ap, h.gy, h.rel, row_touch h.ybx ht (fun f => (hf _ f).2.2.1 rfl), h.yhi, h.bel.trans (ht.below (fun k f => (hf k f).2.2.2) h.bel.size)⟩
/-- A net's clone goes on, the net is left. -/
structure PyC (w : World) (yb nb2 n : Nat) (F2 G : Nat → Prop) (B : Nat → List Pc) (v yv : Value) (L : List Sn) (nb : Nat) (F : Nat → Prop) (X : World) : Prop where
  py : PyS w yb nb2 n F2 G B v yv L X
  old : ∃ Bo, NetOk F X nb n Bo
  far : ∀ k, F k → ¬ F2 k ∧ ¬ G k ∧ k ≠ yb ∧ w.heap.size ≤ k
theorem PyC.below (h : PyC w yb nb2 n F2 G B v yv L nb F X) (hb : Below X.heap.size X X') : PyC w yb nb2 n F2 G B v yv L nb F X' := ⟨h.py.below hb, h.old.imp fun _ q => q.below hb, h.far⟩
theorem PyC.made (h : PyS w yb nb n F G B v yv L X) (h2 : NetOk F2 X' nb2 n B) (hF : ∀ k, F2 k → X.heap.size ≤ k) (hb : Below X.heap.size X X') : PyC w yb nb2 n F2 G B v yv L nb F X' := by
  have h' := h.below hb
  have hy := row_lt h.ybx
  refine ⟨⟨h2, fun k q => Nat.le_trans h.bel.size (hF k q), fun q => by have := hF _ q; omega, h'.doc, fun k q q2 => by have h1 := hF k q; have h3 := h.doc.1 k q2; omega, h.gy, h.rel, h'.ybx, h.yhi, h'.bel⟩, ⟨B, h'.net⟩, fun k q => ⟨fun q2 => ?_, h.ap k q, fun e => h.nfy (e ▸ q), h.fhi k q⟩⟩
  have h1 := hF k q2
  have h3 := h.net.lt k q
  omega
theorem PyC.did (h : PyC w yb nb2 n F2 G B v yv L nb F X) (hp : NetP F nb n X X' B') : ∃ F', PyC w yb nb2 n F2 G B v yv L nb F' X' := by
  obtain ⟨F', h1, h2, h3, h4⟩ := hp
  have hy := row_lt h.py.ybx
  refine ⟨F', h.py.touched h4 h.far, ⟨_, h1⟩, fun k q => (h3 k q).elim (h.far k) (fun q2 => ⟨fun q3 => ?_, fun q3 => ?_, by omega, Nat.le_trans h.py.bel.size q2⟩)⟩
  · have := h.py.net.lt k q3; omega
  · have := h.py.doc.1 k q3; omega
end

set_option maxRecDepth 100000 in
set_option maxHeartbeats 16000000 in
theorem bagsPlays_walk (nn : Int) (v : Value) (l : List Ac) (w : World) (hwf : (Lit.int IntKind.i64 nn).wf = true) (h : IsA w v l) :
    Calls Try.prog 3 #[.int .i64 nn, v] w fun e w' => e = .returned (.bool true) ∧ Below w.heap.size w w' := by
  obtain ⟨al, cl, el, _⟩ := id h
  subst el
  have HIs0 : Hid (IsA w (.slice al l.length cl) l) := h
  clear h hwf
  go_enter Try.func3, Try.ntmps3
  go_wp2_with fail
  refine (new_any nn _).mono ?_
  rintro e w1 ⟨hnp, hb1⟩
  rcases hnp with ⟨hbad, rfl⟩ | ⟨n, hk3, hn1, hn64, nb0, F0, rfl, hN, hF⟩
  · have HB1 : Hid (Below w.heap.size w w1) := hb1
    clear hb1 HIs0
    by_cases h1 : nn < 1
    · clear hbad
      go_wp2_with fail
      refine (awake_any _).mono ?_
      rintro e w9 ⟨rfl, hb⟩
      have HBz : Hid (Below w.heap.size w w9) := HB1.out.trans (hb.mono HB1.out.size)
      clear hb HB1
      go_wp2
      go_ret
      exact ⟨rfl, HBz.out⟩
    · have h2 : 64 < nn := by omega
      clear hbad
      go_wp2_with fail
      refine (awake_any _).mono ?_
      rintro e w9 ⟨rfl, hb⟩
      have HBz : Hid (Below w.heap.size w w9) := HB1.out.trans (hb.mono HB1.out.size)
      clear hb HB1
      go_wp2
      go_ret
      exact ⟨rfl, HBz.out⟩
  · subst hk3
    have q1 : ¬ (n : Int) < 1 := by omega
    have q2 : ¬ 64 < (n : Int) := by omega
    have HB1 : Hid (Below w.heap.size w w1) := hb1
    have HN0 : Hid (NetOk F0 w1 nb0 n noB) := hN
    have HF0 : Hid (∀ j, F0 j → w.heap.size ≤ j) := hF
    clear hb1 hN hF hn1
    go_upto_if 40 with fail
    go_cut [1] from 13 (fun v W => ∃ (T : List Ac) (aT : Option Addr) (cT : Nat), v = .slice aT T.length cT ∧ Hid (IsA w (.slice aT T.length cT) T) ∧ Hid (T.length ≤ 400) ∧ W = w1)
    case first =>
      by_cases h4 : 400 < l.length
      · have k4 : (400 : Int) < (l.length : Int) := by omega
        have HI4 := hide9 (HIs0.out.take 400 (by omega))
        have hl4 : (l.take 400).length = 400 := by (rw [List.length_take]; omega)
        have HL4 := hide9 hl4
        have hc4 : (400 : Int) ≤ (cl : Int) := (by obtain ⟨_, _, e, h1, _⟩ := HIs0.out; injection e with _ _ e3; omega)
        clear h4 hl4
        go_wp2
        go_meet
        case rel => exact ⟨l.take 400, _, _, by rw [HL4.out], (by show IsA _ _ _; rw [HL4.out]; exact HI4.out), (by show _ ≤ _; rw [HL4.out]; exact Nat.le_refl _), rfl⟩
      · have k4 : ¬ (400 : Int) < (l.length : Int) := by omega
        have HL4 : Hid (l.length ≤ 400) := (by show _ ≤ _; omega)
        clear h4
        go_wp2
        go_meet
        case rel => exact ⟨l, _, _, rfl, HIs0, HL4, rfl⟩
    case rest =>
      obtain ⟨T, al, cl, rfl, HIs, HT4, rfl⟩ := hcut
      clear HIs0
      obtain ⟨w2, ew2⟩ : ∃ X, X = wc.alloc (.cells #[.int .i64 (n : Int), .slice none 0 0] 30) := ⟨_, rfl⟩
      obtain ⟨yb, eyb⟩ : ∃ x, x = wc.heap.size := ⟨_, rfl⟩
      have HS0 : Hid (PyS w yb nb0 n F0 (fun _ => False) noB (.slice none 0 0) (.slice none 0 0) [] w2) := (by rw [ew2, eyb]; exact PyS.start HN0.out HF0.out HB1.out)
      have HE2 := hide9 (And.intro ew2 eyb)
      clear ew2 eyb HN0 HF0 HB1
      go_wp2
      rw [← HE2.out.1, ← HE2.out.2]
      clear HE2
      go_loopw [5, 8] (fun xv iv wr => ∃ (i nb : Nat) (F G : Nat → Prop) (B : Nat → List Pc) (v : Value) (L : List Sn), i ≤ T.length ∧ xv = .pointer (some ⟨nb, 0, none⟩) ∧ iv = .int .i64 (i : Int) ∧ Hid (PyS w yb nb n F G B v v L wr) ∧ Hid (L.length ≤ i)) (fun _ iv _ => T.length - (intOf iv).toNat)
      case atStart => exact ⟨0, nb0, F0, _, _, _, [], Nat.zero_le _, rfl, rfl, HS0, (Nat.le_refl _ : ([] : List Sn).length ≤ 0)⟩
      case round =>
        clear HS0
        obtain ⟨i, nb, F, G, B, v, L, hi, rfl, rfl, HS, HLi⟩ := hrel
        obtain ⟨av, cv, ev⟩ := HS.out.doc.isS.form
        subst ev
        by_cases hlt : i < T.length
        · have k1 : (i : Int) < (T.length : Int) := by omega
          have k0 : (0 : Int) ≤ (i : Int) := by omega
          obtain ⟨_, _, e9, _, _, hrow9⟩ := HIs.out
          injection e9 with e91 e92 e93
          subst e91
          obtain ⟨b, o, rfl, hr9⟩ := hrow9.resolve_left (by intro e; rw [e] at hlt; simp at hlt)
          obtain ⟨x, ex⟩ : ∃ x, x = T[i] := ⟨_, rfl⟩
          have hx9 := hr9 i hlt
          rw [← ex] at hx9
          have HbL : Hid (b < w.heap.size) := hx9.lt
          obtain ⟨xpv, hxc, hxB, hxO⟩ := hx9
          obtain ⟨apx, cpx, epx⟩ := hxB.form
          subst epx
          have HxB : Hid (IsB w (.slice apx x.p.length cpx) x.p) := hxB
          have HxO : Hid (AcOk x) := hxO
          have Hxa : Hid (∀ j u, (acCells x (.slice apx x.p.length cpx))[j]? = some u → w.cell? ⟨b, o + i * 7 + j, none⟩ = some u) := hxc
          have HLl : Hid (L.length ≤ i ∧ i < T.length ∧ T.length ≤ 400) := ⟨HLi.out, hlt, HT4.out⟩
          have x0 : wr.cell? ⟨b, o + i * 7, none⟩ = some (.int .i64 x.kind) := (HS.out.bel.cell (p := ⟨b, _, none⟩) HbL.out).trans (hxc 0 _ rfl)
          clear hxc hxB hxO hrow9 hr9 ex e92 e93
          by_cases hz0 : x.kind < 0
          · have z0 : x.kind < 0 := hz0
            go_wp2_with fail
            clear x0
            refine (netClone_any F nb n B _ HS.out.net).mono ?_
            rintro e w5 ⟨nb2, F2, rfl, hN2, hF2, hb⟩
            have HC : Hid (PyC w yb nb2 n F2 G B (.slice av L.length cv) (.slice av L.length cv) L nb F w5) := PyC.made HS.out hN2 hF2 hb
            clear hN2 hF2 hb HS
            have kc := conv_lit w5 #[.int .u8 108, .int .u8 101, .int .u8 102, .int .u8 116, .int .u8 32, .int .u8 98, .int .u8 101, .int .u8 104, .int .u8 105, .int .u8 110, .int .u8 100] 11 11 w5.heap.size rfl
            have HI : Hid (IsB (w5.alloc (.cells #[.int .u8 108, .int .u8 101, .int .u8 102, .int .u8 116, .int .u8 32, .int .u8 98, .int .u8 101, .int .u8 104, .int .u8 105, .int .u8 110, .int .u8 100] 5 (11, 12))) (.slice (some ⟨w5.heap.size, 0, none⟩) 11 11) [108, 101, 102, 116, 32, 98, 101, 104, 105, 110, 100]) := IsB.lit w5 [108, 101, 102, 116, 32, 98, 101, 104, 105, 110, 100] #[.int .u8 108, .int .u8 101, .int .u8 102, .int .u8 116, .int .u8 32, .int .u8 98, .int .u8 101, .int .u8 104, .int .u8 105, .int .u8 110, .int .u8 100] (by simp [cellsB]) (by simp) _
            have HB2 : Hid (Below w5.heap.size w5 (w5.alloc (.cells #[.int .u8 108, .int .u8 101, .int .u8 102, .int .u8 116, .int .u8 32, .int .u8 98, .int .u8 101, .int .u8 104, .int .u8 105, .int .u8 110, .int .u8 100] 5 (11, 12)))) := (Below.refl _ _).alloc (Nat.le_refl _) _
            go_wp2_with fail
            clear kc
            replace HC : Hid (PyC w yb nb2 n F2 G B (.slice av L.length cv) (.slice av L.length cv) L nb F (w5.alloc (.cells #[.int .u8 108, .int .u8 101, .int .u8 102, .int .u8 116, .int .u8 32, .int .u8 98, .int .u8 101, .int .u8 104, .int .u8 105, .int .u8 110, .int .u8 100] 5 (11, 12)))) := HC.out.below HB2.out
            obtain ⟨Bo, hold⟩ := HC.out.old
            refine (send_any F nb n Bo 0 1 _ [108, 101, 102, 116, 32, 98, 101, 104, 105, 110, 100] _ hold HI.out).mono ?_
            rintro e w6 ⟨rfl, hp⟩
            obtain ⟨F6, hC6⟩ := HC.out.did hp
            have HC6 : Hid (PyC w yb nb2 n F2 G B (.slice av L.length cv) (.slice av L.length cv) L nb F6 w6) := hC6
            clear hp hC6 hold HC HI HB2
            go_wp2_with fail
            obtain ⟨B6, hold⟩ := HC6.out.old
            refine (lose_any F6 nb n B6 0 1 0 _ hold).mono ?_
            rintro e w7 ⟨rfl, hp⟩
            obtain ⟨F7, hC7⟩ := HC6.out.did hp.p
            have HSr : Hid (PyS w yb nb2 n F2 G B (.slice av L.length cv) (.slice av L.length cv) L w7) := hC7.py
            clear hp hC7 hold HC6
            have Hxc : Hid (∀ j u, (acCells x (.slice apx x.p.length cpx))[j]? = some u → w7.drew.cell? ⟨b, o + i * 7 + j, none⟩ = some u) := fun j u hj => (HSr.out.bel.cell (p := ⟨b, _, none⟩) HbL.out).trans (Hxa.out j u hj)
            go_upto_region 19 with fail
            (try clear x0)
            (try clear HS)
            have HS := HSr
            clear HSr
            refine wp_region_held_drew (S := fun W' => W'.heap[yb]? = some (.cells #[.int .i64 (n : Int), (.slice av L.length cv)] 30) ∧ (∀ j u, (acCells x (.slice apx x.p.length cpx))[j]? = some u → W'.cell? ⟨b, o + i * 7 + j, none⟩ = some u)) (by kernel_rfl) ⟨HS.out.ybx, fun j u hj => Hxc.out j u hj⟩ (fun hHeld => ?_)
            obtain ⟨Uy6u0, eW⟩ : ∃ X, X = w7.drew := ⟨_, rfl⟩
            have hb : Below w7.heap.size w7 Uy6u0 := by rw [eW]; exact (Below.refl _ _).drew
            replace HS : Hid (PyS w yb nb2 n F2 G B (.slice av L.length cv) (.slice av L.length cv) L Uy6u0) := HS.out.below hb
            rw [← eW] at hHeld ⊢
            clear eW hb
            refine tkW 0 (some 77) (v := ?_) ?_ hHeld ?_
            rotate_left
            · (intro ww _; go_simp; try with_reducible rfl)
            refine tkW 1 (some 78) (v := ?_) ?_ hHeld ?_
            rotate_left
            · (intro ww hSw; (try dsimp only at hSw); obtain ⟨y_0, y_1, _, _⟩ := row2_cells hSw.1; have x0 : ww.cell? ⟨b, o + i * 7, none⟩ = some (.int .i64 x.kind) := hSw.2 0 _ rfl; have x1 : ww.cell? ⟨b, o + i * 7 + 1, none⟩ = some (.int .i64 x.fr) := hSw.2 1 _ rfl; have x2 : ww.cell? ⟨b, o + i * 7 + 2, none⟩ = some (.int .i64 x.to) := hSw.2 2 _ rfl; have x3 : ww.cell? ⟨b, o + i * 7 + 3, none⟩ = some (.int .i64 x.i) := hSw.2 3 _ rfl; have x4 : ww.cell? ⟨b, o + i * 7 + 4, none⟩ = some (.int .i64 x.at_) := hSw.2 4 _ rfl; have x5 : ww.cell? ⟨b, o + i * 7 + 5, none⟩ = some (.int .i64 x.mask) := hSw.2 5 _ rfl; have x6 : ww.cell? ⟨b, o + i * 7 + 6, none⟩ = some (.slice apx x.p.length cpx) := hSw.2 6 _ rfl; clear hSw; go_simp; try with_reducible rfl)
            refine tkW 2 (some 79) (v := ?_) ?_ hHeld ?_
            rotate_left
            · (intro ww _; go_simp; try with_reducible rfl)
            refine tkW 3 (some 80) (v := ?_) ?_ hHeld ?_
            rotate_left
            · (intro ww _; go_simp; try with_reducible rfl)
            refine tkW 4 (some 81) (v := ?_) ?_ hHeld ?_
            rotate_left
            · (intro ww hSw; (try dsimp only at hSw); obtain ⟨y_0, y_1, _, _⟩ := row2_cells hSw.1; have x0 : ww.cell? ⟨b, o + i * 7, none⟩ = some (.int .i64 x.kind) := hSw.2 0 _ rfl; have x1 : ww.cell? ⟨b, o + i * 7 + 1, none⟩ = some (.int .i64 x.fr) := hSw.2 1 _ rfl; have x2 : ww.cell? ⟨b, o + i * 7 + 2, none⟩ = some (.int .i64 x.to) := hSw.2 2 _ rfl; have x3 : ww.cell? ⟨b, o + i * 7 + 3, none⟩ = some (.int .i64 x.i) := hSw.2 3 _ rfl; have x4 : ww.cell? ⟨b, o + i * 7 + 4, none⟩ = some (.int .i64 x.at_) := hSw.2 4 _ rfl; have x5 : ww.cell? ⟨b, o + i * 7 + 5, none⟩ = some (.int .i64 x.mask) := hSw.2 5 _ rfl; have x6 : ww.cell? ⟨b, o + i * 7 + 6, none⟩ = some (.slice apx x.p.length cpx) := hSw.2 6 _ rfl; clear hSw; go_simp; try with_reducible rfl)
            refine tkW 5 (some 82) (v := ?_) ?_ hHeld ?_
            rotate_left
            · (intro ww hSw; (try dsimp only at hSw); obtain ⟨y_0, y_1, _, _⟩ := row2_cells hSw.1; have x0 : ww.cell? ⟨b, o + i * 7, none⟩ = some (.int .i64 x.kind) := hSw.2 0 _ rfl; have x1 : ww.cell? ⟨b, o + i * 7 + 1, none⟩ = some (.int .i64 x.fr) := hSw.2 1 _ rfl; have x2 : ww.cell? ⟨b, o + i * 7 + 2, none⟩ = some (.int .i64 x.to) := hSw.2 2 _ rfl; have x3 : ww.cell? ⟨b, o + i * 7 + 3, none⟩ = some (.int .i64 x.i) := hSw.2 3 _ rfl; have x4 : ww.cell? ⟨b, o + i * 7 + 4, none⟩ = some (.int .i64 x.at_) := hSw.2 4 _ rfl; have x5 : ww.cell? ⟨b, o + i * 7 + 5, none⟩ = some (.int .i64 x.mask) := hSw.2 5 _ rfl; have x6 : ww.cell? ⟨b, o + i * 7 + 6, none⟩ = some (.slice apx x.p.length cpx) := hSw.2 6 _ rfl; clear hSw; go_simp; try with_reducible rfl)
            refine wpAnyH_ready (rs := [6, 10]) (by kernel_rfl) (by simp) ?_
            refine AllReadyH.cons (o := ⟨some 83, _, _, _, _, _⟩) rfl (fun K hK => ?_) (AllReadyH.cons (o := ⟨some 10, _, _, _, _, _⟩) rfl (fun K hK => ?_) AllReadyH.nil)
            · go_simp
              refine (HS.out.play (by have := HLl.out; omega) x (.slice apx x.p.length cpx) HxB.out HxO.out).mono ?_
              rintro e Uy6u1 ⟨v3, B3, F3, L3, G3, rfl, hpy, hln, hto, hel, hdo, hnf, hng⟩
              (try go_wp2_with fail)
              obtain ⟨av3, cv3, ev3⟩ := hpy.doc.isS.form
              subst ev3
              have hS6 : Uy6u1.heap[yb]? = some (.cells #[.int .i64 (n : Int), (.slice av L.length cv)] 30) ∧ (∀ j u, (acCells x (.slice apx x.p.length cpx))[j]? = some u → Uy6u1.cell? ⟨b, o + i * 7 + j, none⟩ = some u) := ⟨hpy.ybx, fun j u hj => (World.cell?_of_block (w := Uy6u0) (hto.block b (Nat.lt_of_lt_of_le HbL.out HS.out.bel.size) (fun q => by have h1 := HS.out.fhi b q; have := HbL.out; omega))).trans (hHeld.2 j u hj)⟩
              have HM : Hid (PyS w yb nb2 n F3 G3 B3 (.slice av3 L3.length cv3) (.slice av L.length cv) L3 Uy6u1) := hpy
              have HL3 : Hid (L3.length ≤ L.length + 1) := hln
              clear hpy hln hel hdo hnf hng hto HS
              refine hK.out _ _ (hS6) (fun hHeld2 => ?_)
              clear hK K hHeld
              have hHeld := hHeld2
              clear hHeld2
              (try simp only [Act.put, List.setIfInBounds_toArray, List.set_cons_zero, List.set_cons_succ])
              clear hS6
              refine tkW 7 (some 76) (v := ?_) ?_ hHeld ?_
              rotate_left
              · (intro ww _; go_simp; try with_reducible rfl)
              refine tkW 8 (some 84) (v := ?_) ?_ hHeld ?_
              rotate_left
              · (intro ww _; go_simp; try with_reducible rfl)
              refine tkW 9 (some 85) (v := ?_) ?_ hHeld ?_
              rotate_left
              · (intro ww _; go_simp; try with_reducible rfl)
              refine wpAnyH_ready (rs := [10]) (by kernel_rfl) (by simp) ?_
              refine AllReadyH.cons (o := ⟨some 10, _, _, _, _, _⟩) rfl (fun K hK => ?_) AllReadyH.nil
              have HM0 := HM
              have hbx : Below Uy6u1.heap.size Uy6u1 (Uy6u1.alloc (.cells #[.int .i64 0, .slice none 0 0] 30)) := (Below.refl _ _).alloc (Nat.le_refl _) _
              go_simp
              refine hK.out _ _ (⟨(hbx.block _ (row_lt hHeld.1)).trans hHeld.1, fun j u hj => (hbx.cell (p := ⟨b, _, none⟩) (Nat.lt_of_lt_of_le HbL.out HM.out.bel.size)).trans (hHeld.2 j u hj)⟩) (fun hHeld2 => ?_)
              clear hK K hHeld
              have hHeld := hHeld2
              clear hHeld2
              (try simp only [Act.put, List.setIfInBounds_toArray, List.set_cons_zero, List.set_cons_succ])
              obtain ⟨Uy6u2, eW⟩ : ∃ X, X = Uy6u1.alloc (.cells #[.int .i64 0, .slice none 0 0] 30) := ⟨_, rfl⟩
              have hb : Below Uy6u1.heap.size Uy6u1 Uy6u2 := by rw [eW]; exact (Below.refl _ _).alloc (Nat.le_refl _) _
              replace HM : Hid (PyS w yb nb2 n F3 G3 B3 (.slice av3 L3.length cv3) (.slice av L.length cv) L3 Uy6u2) := HM.out.below hb
              have HZ : Hid (Uy6u2.heap[Uy6u1.heap.size]? = some (.cells #[.int .i64 0, .slice none 0 0] 30)) := by rw [eW]; exact heap_alloc_new _ _
              rw [← eW] at hHeld ⊢
              clear eW
              clear hbx
              obtain ⟨zb, enb⟩ : ∃ b, b = Uy6u1.heap.size := ⟨_, rfl⟩
              have HZn : Hid (¬ F3 zb ∧ ¬ G3 zb ∧ yb ≠ zb ∧ w.heap.size ≤ zb) := (by have h1 := HM.out.bel.size; have h2 := row_lt HM0.out.ybx; rw [enb]; exact ⟨fun q => by (have := HM0.out.net.lt _ q; omega), fun q => by (have := HM0.out.doc.1 _ q; omega), by omega, HM0.out.bel.size⟩)
              rw [← enb] at HZ ⊢
              clear enb
              clear HM0
              clear hb
              refine wpAnyH_ready (rs := [11]) (by kernel_rfl) (by simp) ?_
              refine AllReadyH.cons (o := ⟨none, _, _, _, _, _⟩) rfl (fun K hK => ?_) AllReadyH.nil
              obtain ⟨z_0, z_1, z_2, z_3⟩ := row2_cells HZ.out
              go_simp
              refine hK.out _ _ (⟨row_set_other (row_set_other hHeld.1 HZn.out.2.2.1) HZn.out.2.2.1, fun j u hj => (World.cell?_of_block (w := Uy6u2) ((RowKit.Below.heap_setCell _ _ _ _ (by show b ≠ zb; have := HZn.out.2.2.2; have := HbL.out; omega)).trans (RowKit.Below.heap_setCell _ _ _ _ (by show b ≠ zb; have := HZn.out.2.2.2; have := HbL.out; omega)))).trans (hHeld.2 j u hj)⟩) (fun hHeld2 => ?_)
              clear hK K hHeld
              have hHeld := hHeld2
              clear hHeld2
              (try simp only [Act.put, List.setIfInBounds_toArray, List.set_cons_zero, List.set_cons_succ])
              obtain ⟨Uy6u3, eWn⟩ : ∃ X, X = ((Uy6u2.setCell ⟨zb, 0, none⟩ (.int .i64 (n : Int))).setCell ⟨zb, 1, none⟩ (.slice av3 L3.length cv3)) := ⟨_, rfl⟩
              rw [← eWn] at hHeld ⊢
              replace HM : Hid (PyS w yb nb2 n F3 G3 B3 (.slice av3 L3.length cv3) (.slice av L.length cv) L3 Uy6u3) := (by rw [eWn]; exact HM.out.set2 HZn.out.1 HZn.out.2.1 HZn.out.2.2.1 HZn.out.2.2.2)
              have HZr : Hid (Uy6u3.heap[zb]? = some (.cells #[.int .i64 (n : Int), (.slice av3 L3.length cv3)] 30)) := (by rw [eWn]; exact row_set2 HZ.out)
              clear z_0 z_1 z_2 z_3 eWn HZ
              refine tkW 12 (some 11) (v := ?_) ?_ hHeld ?_
              rotate_left
              · (intro ww _; go_simp; try with_reducible rfl)
              refine wpAnyH_done (by kernel_rfl) ?_ _
              clear hHeld
              obtain ⟨q_0, q_1, _, _⟩ := row2_cells HZr.out
              obtain ⟨r_0, r_1, r_2, r_3⟩ := row2_cells HM.out.ybx
              have HSn := hide9 HM.out.setY
              have n1 : IntKind.i64.wrap ((i : Int) + 1) = (i : Int) + 1 := by rw [IntKind.wrap_i64]; omega
              have t_0 : ((Uy6u3.setCell ⟨yb, 0, none⟩ (.int .i64 (n : Int))).setCell ⟨yb, 1, none⟩ (.slice av3 L3.length cv3)).cell? ⟨yb, 0, none⟩ = some (.int .i64 (n : Int)) := (row2_cells HSn.out.ybx).1
              have t_1 : ((Uy6u3.setCell ⟨yb, 0, none⟩ (.int .i64 (n : Int))).setCell ⟨yb, 1, none⟩ (.slice av3 L3.length cv3)).cell? ⟨yb, 1, none⟩ = some (.slice av3 L3.length cv3) := (row2_cells HSn.out.ybx).2.1
              go_wp2_with fail
              refine (told_any F3 G3 nb2 n _ L3 B3 _ HSn.out.net HSn.out.doc HSn.out.rel (by have h1 := HL3.out; have h2 := HLl.out; omega)).mono ?_
              rintro e w9 ⟨rfl, hb⟩
              have HS9 : Hid (PyS w yb nb2 n F3 G3 B3 (.slice av3 L3.length cv3) (.slice av3 L3.length cv3) L3 w9) := HSn.out.below hb
              clear hb HSn t_0 t_1 q_0 q_1 r_0 r_1 r_2 r_3 HM HZr
              go_wp2
              go_roundw
              case rel => exact ⟨i + 1, nb2, F3, G3, B3, _, L3, by omega, rfl, by go_num, HS9, (show L3.length ≤ i + 1 by have h1 := HL3.out; have h2 := HLl.out; omega)⟩
              case measure => simp [intOf]; omega
            · have HS0 := HS
              have hbx : Below Uy6u0.heap.size Uy6u0 (Uy6u0.alloc (.cells #[.int .i64 0, .slice none 0 0] 30)) := (Below.refl _ _).alloc (Nat.le_refl _) _
              go_simp
              refine hK.out _ _ (⟨(hbx.block _ (row_lt hHeld.1)).trans hHeld.1, fun j u hj => (hbx.cell (p := ⟨b, _, none⟩) (Nat.lt_of_lt_of_le HbL.out HS.out.bel.size)).trans (hHeld.2 j u hj)⟩) (fun hHeld2 => ?_)
              clear hK K hHeld
              have hHeld := hHeld2
              clear hHeld2
              (try simp only [Act.put, List.setIfInBounds_toArray, List.set_cons_zero, List.set_cons_succ])
              obtain ⟨Uy6u4, eW⟩ : ∃ X, X = Uy6u0.alloc (.cells #[.int .i64 0, .slice none 0 0] 30) := ⟨_, rfl⟩
              have hb : Below Uy6u0.heap.size Uy6u0 Uy6u4 := by rw [eW]; exact (Below.refl _ _).alloc (Nat.le_refl _) _
              replace HS : Hid (PyS w yb nb2 n F2 G B (.slice av L.length cv) (.slice av L.length cv) L Uy6u4) := HS.out.below hb
              have HZ : Hid (Uy6u4.heap[Uy6u0.heap.size]? = some (.cells #[.int .i64 0, .slice none 0 0] 30)) := by rw [eW]; exact heap_alloc_new _ _
              rw [← eW] at hHeld ⊢
              clear eW
              clear hbx
              obtain ⟨zb, enb⟩ : ∃ b, b = Uy6u0.heap.size := ⟨_, rfl⟩
              have HZn : Hid (¬ F2 zb ∧ ¬ G zb ∧ yb ≠ zb ∧ w.heap.size ≤ zb) := (by have h1 := HS.out.bel.size; have h2 := row_lt HS0.out.ybx; rw [enb]; exact ⟨fun q => by (have := HS0.out.net.lt _ q; omega), fun q => by (have := HS0.out.doc.1 _ q; omega), by omega, HS0.out.bel.size⟩)
              have HZs : Hid (zb < Uy6u4.heap.size) := (by rw [enb]; exact row_lt HZ.out)
              rw [← enb] at HZ ⊢
              clear enb
              clear HS0
              clear hb
              refine wpAnyH_ready (rs := [6]) (by kernel_rfl) (by simp) ?_
              refine AllReadyH.cons (o := ⟨some 83, _, _, _, _, _⟩) rfl (fun K hK => ?_) AllReadyH.nil
              go_simp
              refine (HS.out.play (by have := HLl.out; omega) x (.slice apx x.p.length cpx) HxB.out HxO.out).mono ?_
              rintro e Uy6u5 ⟨v3, B3, F3, L3, G3, rfl, hpy, hln, hto, hel, hdo, hnf, hng⟩
              (try go_wp2_with fail)
              obtain ⟨av3, cv3, ev3⟩ := hpy.doc.isS.form
              subst ev3
              have hS6 : Uy6u5.heap[yb]? = some (.cells #[.int .i64 (n : Int), (.slice av L.length cv)] 30) ∧ (∀ j u, (acCells x (.slice apx x.p.length cpx))[j]? = some u → Uy6u5.cell? ⟨b, o + i * 7 + j, none⟩ = some u) := ⟨hpy.ybx, fun j u hj => (World.cell?_of_block (w := Uy6u4) (hto.block b (Nat.lt_of_lt_of_le HbL.out HS.out.bel.size) (fun q => by have h1 := HS.out.fhi b q; have := HbL.out; omega))).trans (hHeld.2 j u hj)⟩
              have HM : Hid (PyS w yb nb2 n F3 G3 B3 (.slice av3 L3.length cv3) (.slice av L.length cv) L3 Uy6u5) := hpy
              have HL3 : Hid (L3.length ≤ L.length + 1) := hln
              replace HZ : Hid (Uy6u5.heap[zb]? = some (.cells #[.int .i64 0, .slice none 0 0] 30)) := row_touch HZ.out hto HZn.out.1
              replace HZn : Hid (¬ F3 zb ∧ ¬ G3 zb ∧ yb ≠ zb ∧ w.heap.size ≤ zb) := ⟨hnf zb (row_lt_touch HZ.out hto HZs.out) HZn.out.1, hng zb (row_lt_touch HZ.out hto HZs.out) HZn.out.2.1, HZn.out.2.2.1, HZn.out.2.2.2⟩
              clear hpy hln hel hdo hnf hng hto HS
              refine hK.out _ _ (hS6) (fun hHeld2 => ?_)
              clear hK K hHeld
              have hHeld := hHeld2
              clear hHeld2
              (try simp only [Act.put, List.setIfInBounds_toArray, List.set_cons_zero, List.set_cons_succ])
              clear hS6
              refine tkW 7 (some 76) (v := ?_) ?_ hHeld ?_
              rotate_left
              · (intro ww _; go_simp; try with_reducible rfl)
              refine tkW 8 (some 84) (v := ?_) ?_ hHeld ?_
              rotate_left
              · (intro ww _; go_simp; try with_reducible rfl)
              refine tkW 9 (some 85) (v := ?_) ?_ hHeld ?_
              rotate_left
              · (intro ww _; go_simp; try with_reducible rfl)
              refine wpAnyH_ready (rs := [11]) (by kernel_rfl) (by simp) ?_
              refine AllReadyH.cons (o := ⟨none, _, _, _, _, _⟩) rfl (fun K hK => ?_) AllReadyH.nil
              obtain ⟨z_0, z_1, z_2, z_3⟩ := row2_cells HZ.out
              go_simp
              refine hK.out _ _ (⟨row_set_other (row_set_other hHeld.1 HZn.out.2.2.1) HZn.out.2.2.1, fun j u hj => (World.cell?_of_block (w := Uy6u5) ((RowKit.Below.heap_setCell _ _ _ _ (by show b ≠ zb; have := HZn.out.2.2.2; have := HbL.out; omega)).trans (RowKit.Below.heap_setCell _ _ _ _ (by show b ≠ zb; have := HZn.out.2.2.2; have := HbL.out; omega)))).trans (hHeld.2 j u hj)⟩) (fun hHeld2 => ?_)
              clear hK K hHeld
              have hHeld := hHeld2
              clear hHeld2
              (try simp only [Act.put, List.setIfInBounds_toArray, List.set_cons_zero, List.set_cons_succ])
              obtain ⟨Uy6u6, eWn⟩ : ∃ X, X = ((Uy6u5.setCell ⟨zb, 0, none⟩ (.int .i64 (n : Int))).setCell ⟨zb, 1, none⟩ (.slice av3 L3.length cv3)) := ⟨_, rfl⟩
              rw [← eWn] at hHeld ⊢
              replace HM : Hid (PyS w yb nb2 n F3 G3 B3 (.slice av3 L3.length cv3) (.slice av L.length cv) L3 Uy6u6) := (by rw [eWn]; exact HM.out.set2 HZn.out.1 HZn.out.2.1 HZn.out.2.2.1 HZn.out.2.2.2)
              have HZr : Hid (Uy6u6.heap[zb]? = some (.cells #[.int .i64 (n : Int), (.slice av3 L3.length cv3)] 30)) := (by rw [eWn]; exact row_set2 HZ.out)
              clear z_0 z_1 z_2 z_3 eWn HZ
              refine tkW 12 (some 11) (v := ?_) ?_ hHeld ?_
              rotate_left
              · (intro ww _; go_simp; try with_reducible rfl)
              refine wpAnyH_done (by kernel_rfl) ?_ _
              clear hHeld
              obtain ⟨q_0, q_1, _, _⟩ := row2_cells HZr.out
              obtain ⟨r_0, r_1, r_2, r_3⟩ := row2_cells HM.out.ybx
              have HSn := hide9 HM.out.setY
              have n1 : IntKind.i64.wrap ((i : Int) + 1) = (i : Int) + 1 := by rw [IntKind.wrap_i64]; omega
              have t_0 : ((Uy6u6.setCell ⟨yb, 0, none⟩ (.int .i64 (n : Int))).setCell ⟨yb, 1, none⟩ (.slice av3 L3.length cv3)).cell? ⟨yb, 0, none⟩ = some (.int .i64 (n : Int)) := (row2_cells HSn.out.ybx).1
              have t_1 : ((Uy6u6.setCell ⟨yb, 0, none⟩ (.int .i64 (n : Int))).setCell ⟨yb, 1, none⟩ (.slice av3 L3.length cv3)).cell? ⟨yb, 1, none⟩ = some (.slice av3 L3.length cv3) := (row2_cells HSn.out.ybx).2.1
              go_wp2_with fail
              refine (told_any F3 G3 nb2 n _ L3 B3 _ HSn.out.net HSn.out.doc HSn.out.rel (by have h1 := HL3.out; have h2 := HLl.out; omega)).mono ?_
              rintro e w9 ⟨rfl, hb⟩
              have HS9 : Hid (PyS w yb nb2 n F3 G3 B3 (.slice av3 L3.length cv3) (.slice av3 L3.length cv3) L3 w9) := HSn.out.below hb
              clear hb HSn t_0 t_1 q_0 q_1 r_0 r_1 r_2 r_3 HM HZr
              go_wp2
              go_roundw
              case rel => exact ⟨i + 1, nb2, F3, G3, B3, _, L3, by omega, rfl, by go_num, HS9, (show L3.length ≤ i + 1 by have h1 := HL3.out; have h2 := HLl.out; omega)⟩
              case measure => simp [intOf]; omega
          · by_cases hz1 : 5 < x.kind
            · have z0 : ¬ x.kind < 0 := hz0
              have z1 : 5 < x.kind := hz1
              go_wp2_with fail
              clear x0
              refine (netClone_any F nb n B _ HS.out.net).mono ?_
              rintro e w5 ⟨nb2, F2, rfl, hN2, hF2, hb⟩
              have HC : Hid (PyC w yb nb2 n F2 G B (.slice av L.length cv) (.slice av L.length cv) L nb F w5) := PyC.made HS.out hN2 hF2 hb
              clear hN2 hF2 hb HS
              have kc := conv_lit w5 #[.int .u8 108, .int .u8 101, .int .u8 102, .int .u8 116, .int .u8 32, .int .u8 98, .int .u8 101, .int .u8 104, .int .u8 105, .int .u8 110, .int .u8 100] 11 11 w5.heap.size rfl
              have HI : Hid (IsB (w5.alloc (.cells #[.int .u8 108, .int .u8 101, .int .u8 102, .int .u8 116, .int .u8 32, .int .u8 98, .int .u8 101, .int .u8 104, .int .u8 105, .int .u8 110, .int .u8 100] 5 (11, 12))) (.slice (some ⟨w5.heap.size, 0, none⟩) 11 11) [108, 101, 102, 116, 32, 98, 101, 104, 105, 110, 100]) := IsB.lit w5 [108, 101, 102, 116, 32, 98, 101, 104, 105, 110, 100] #[.int .u8 108, .int .u8 101, .int .u8 102, .int .u8 116, .int .u8 32, .int .u8 98, .int .u8 101, .int .u8 104, .int .u8 105, .int .u8 110, .int .u8 100] (by simp [cellsB]) (by simp) _
              have HB2 : Hid (Below w5.heap.size w5 (w5.alloc (.cells #[.int .u8 108, .int .u8 101, .int .u8 102, .int .u8 116, .int .u8 32, .int .u8 98, .int .u8 101, .int .u8 104, .int .u8 105, .int .u8 110, .int .u8 100] 5 (11, 12)))) := (Below.refl _ _).alloc (Nat.le_refl _) _
              go_wp2_with fail
              clear kc
              replace HC : Hid (PyC w yb nb2 n F2 G B (.slice av L.length cv) (.slice av L.length cv) L nb F (w5.alloc (.cells #[.int .u8 108, .int .u8 101, .int .u8 102, .int .u8 116, .int .u8 32, .int .u8 98, .int .u8 101, .int .u8 104, .int .u8 105, .int .u8 110, .int .u8 100] 5 (11, 12)))) := HC.out.below HB2.out
              obtain ⟨Bo, hold⟩ := HC.out.old
              refine (send_any F nb n Bo 0 1 _ [108, 101, 102, 116, 32, 98, 101, 104, 105, 110, 100] _ hold HI.out).mono ?_
              rintro e w6 ⟨rfl, hp⟩
              obtain ⟨F6, hC6⟩ := HC.out.did hp
              have HC6 : Hid (PyC w yb nb2 n F2 G B (.slice av L.length cv) (.slice av L.length cv) L nb F6 w6) := hC6
              clear hp hC6 hold HC HI HB2
              go_wp2_with fail
              obtain ⟨B6, hold⟩ := HC6.out.old
              refine (lose_any F6 nb n B6 0 1 0 _ hold).mono ?_
              rintro e w7 ⟨rfl, hp⟩
              obtain ⟨F7, hC7⟩ := HC6.out.did hp.p
              have HSr : Hid (PyS w yb nb2 n F2 G B (.slice av L.length cv) (.slice av L.length cv) L w7) := hC7.py
              clear hp hC7 hold HC6
              have Hxc : Hid (∀ j u, (acCells x (.slice apx x.p.length cpx))[j]? = some u → w7.drew.cell? ⟨b, o + i * 7 + j, none⟩ = some u) := fun j u hj => (HSr.out.bel.cell (p := ⟨b, _, none⟩) HbL.out).trans (Hxa.out j u hj)
              go_upto_region 19 with fail
              (try clear x0)
              (try clear HS)
              have HS := HSr
              clear HSr
              refine wp_region_held_drew (S := fun W' => W'.heap[yb]? = some (.cells #[.int .i64 (n : Int), (.slice av L.length cv)] 30) ∧ (∀ j u, (acCells x (.slice apx x.p.length cpx))[j]? = some u → W'.cell? ⟨b, o + i * 7 + j, none⟩ = some u)) (by kernel_rfl) ⟨HS.out.ybx, fun j u hj => Hxc.out j u hj⟩ (fun hHeld => ?_)
              obtain ⟨Uy6u0, eW⟩ : ∃ X, X = w7.drew := ⟨_, rfl⟩
              have hb : Below w7.heap.size w7 Uy6u0 := by rw [eW]; exact (Below.refl _ _).drew
              replace HS : Hid (PyS w yb nb2 n F2 G B (.slice av L.length cv) (.slice av L.length cv) L Uy6u0) := HS.out.below hb
              rw [← eW] at hHeld ⊢
              clear eW hb
              refine tkW 0 (some 77) (v := ?_) ?_ hHeld ?_
              rotate_left
              · (intro ww _; go_simp; try with_reducible rfl)
              refine tkW 1 (some 78) (v := ?_) ?_ hHeld ?_
              rotate_left
              · (intro ww hSw; (try dsimp only at hSw); obtain ⟨y_0, y_1, _, _⟩ := row2_cells hSw.1; have x0 : ww.cell? ⟨b, o + i * 7, none⟩ = some (.int .i64 x.kind) := hSw.2 0 _ rfl; have x1 : ww.cell? ⟨b, o + i * 7 + 1, none⟩ = some (.int .i64 x.fr) := hSw.2 1 _ rfl; have x2 : ww.cell? ⟨b, o + i * 7 + 2, none⟩ = some (.int .i64 x.to) := hSw.2 2 _ rfl; have x3 : ww.cell? ⟨b, o + i * 7 + 3, none⟩ = some (.int .i64 x.i) := hSw.2 3 _ rfl; have x4 : ww.cell? ⟨b, o + i * 7 + 4, none⟩ = some (.int .i64 x.at_) := hSw.2 4 _ rfl; have x5 : ww.cell? ⟨b, o + i * 7 + 5, none⟩ = some (.int .i64 x.mask) := hSw.2 5 _ rfl; have x6 : ww.cell? ⟨b, o + i * 7 + 6, none⟩ = some (.slice apx x.p.length cpx) := hSw.2 6 _ rfl; clear hSw; go_simp; try with_reducible rfl)
              refine tkW 2 (some 79) (v := ?_) ?_ hHeld ?_
              rotate_left
              · (intro ww _; go_simp; try with_reducible rfl)
              refine tkW 3 (some 80) (v := ?_) ?_ hHeld ?_
              rotate_left
              · (intro ww _; go_simp; try with_reducible rfl)
              refine tkW 4 (some 81) (v := ?_) ?_ hHeld ?_
              rotate_left
              · (intro ww hSw; (try dsimp only at hSw); obtain ⟨y_0, y_1, _, _⟩ := row2_cells hSw.1; have x0 : ww.cell? ⟨b, o + i * 7, none⟩ = some (.int .i64 x.kind) := hSw.2 0 _ rfl; have x1 : ww.cell? ⟨b, o + i * 7 + 1, none⟩ = some (.int .i64 x.fr) := hSw.2 1 _ rfl; have x2 : ww.cell? ⟨b, o + i * 7 + 2, none⟩ = some (.int .i64 x.to) := hSw.2 2 _ rfl; have x3 : ww.cell? ⟨b, o + i * 7 + 3, none⟩ = some (.int .i64 x.i) := hSw.2 3 _ rfl; have x4 : ww.cell? ⟨b, o + i * 7 + 4, none⟩ = some (.int .i64 x.at_) := hSw.2 4 _ rfl; have x5 : ww.cell? ⟨b, o + i * 7 + 5, none⟩ = some (.int .i64 x.mask) := hSw.2 5 _ rfl; have x6 : ww.cell? ⟨b, o + i * 7 + 6, none⟩ = some (.slice apx x.p.length cpx) := hSw.2 6 _ rfl; clear hSw; go_simp; try with_reducible rfl)
              refine tkW 5 (some 82) (v := ?_) ?_ hHeld ?_
              rotate_left
              · (intro ww hSw; (try dsimp only at hSw); obtain ⟨y_0, y_1, _, _⟩ := row2_cells hSw.1; have x0 : ww.cell? ⟨b, o + i * 7, none⟩ = some (.int .i64 x.kind) := hSw.2 0 _ rfl; have x1 : ww.cell? ⟨b, o + i * 7 + 1, none⟩ = some (.int .i64 x.fr) := hSw.2 1 _ rfl; have x2 : ww.cell? ⟨b, o + i * 7 + 2, none⟩ = some (.int .i64 x.to) := hSw.2 2 _ rfl; have x3 : ww.cell? ⟨b, o + i * 7 + 3, none⟩ = some (.int .i64 x.i) := hSw.2 3 _ rfl; have x4 : ww.cell? ⟨b, o + i * 7 + 4, none⟩ = some (.int .i64 x.at_) := hSw.2 4 _ rfl; have x5 : ww.cell? ⟨b, o + i * 7 + 5, none⟩ = some (.int .i64 x.mask) := hSw.2 5 _ rfl; have x6 : ww.cell? ⟨b, o + i * 7 + 6, none⟩ = some (.slice apx x.p.length cpx) := hSw.2 6 _ rfl; clear hSw; go_simp; try with_reducible rfl)
              refine wpAnyH_ready (rs := [6, 10]) (by kernel_rfl) (by simp) ?_
              refine AllReadyH.cons (o := ⟨some 83, _, _, _, _, _⟩) rfl (fun K hK => ?_) (AllReadyH.cons (o := ⟨some 10, _, _, _, _, _⟩) rfl (fun K hK => ?_) AllReadyH.nil)
              · go_simp
                refine (HS.out.play (by have := HLl.out; omega) x (.slice apx x.p.length cpx) HxB.out HxO.out).mono ?_
                rintro e Uy6u1 ⟨v3, B3, F3, L3, G3, rfl, hpy, hln, hto, hel, hdo, hnf, hng⟩
                (try go_wp2_with fail)
                obtain ⟨av3, cv3, ev3⟩ := hpy.doc.isS.form
                subst ev3
                have hS6 : Uy6u1.heap[yb]? = some (.cells #[.int .i64 (n : Int), (.slice av L.length cv)] 30) ∧ (∀ j u, (acCells x (.slice apx x.p.length cpx))[j]? = some u → Uy6u1.cell? ⟨b, o + i * 7 + j, none⟩ = some u) := ⟨hpy.ybx, fun j u hj => (World.cell?_of_block (w := Uy6u0) (hto.block b (Nat.lt_of_lt_of_le HbL.out HS.out.bel.size) (fun q => by have h1 := HS.out.fhi b q; have := HbL.out; omega))).trans (hHeld.2 j u hj)⟩
                have HM : Hid (PyS w yb nb2 n F3 G3 B3 (.slice av3 L3.length cv3) (.slice av L.length cv) L3 Uy6u1) := hpy
                have HL3 : Hid (L3.length ≤ L.length + 1) := hln
                clear hpy hln hel hdo hnf hng hto HS
                refine hK.out _ _ (hS6) (fun hHeld2 => ?_)
                clear hK K hHeld
                have hHeld := hHeld2
                clear hHeld2
                (try simp only [Act.put, List.setIfInBounds_toArray, List.set_cons_zero, List.set_cons_succ])
                clear hS6
                refine tkW 7 (some 76) (v := ?_) ?_ hHeld ?_
                rotate_left
                · (intro ww _; go_simp; try with_reducible rfl)
                refine tkW 8 (some 84) (v := ?_) ?_ hHeld ?_
                rotate_left
                · (intro ww _; go_simp; try with_reducible rfl)
                refine tkW 9 (some 85) (v := ?_) ?_ hHeld ?_
                rotate_left
                · (intro ww _; go_simp; try with_reducible rfl)
                refine wpAnyH_ready (rs := [10]) (by kernel_rfl) (by simp) ?_
                refine AllReadyH.cons (o := ⟨some 10, _, _, _, _, _⟩) rfl (fun K hK => ?_) AllReadyH.nil
                have HM0 := HM
                have hbx : Below Uy6u1.heap.size Uy6u1 (Uy6u1.alloc (.cells #[.int .i64 0, .slice none 0 0] 30)) := (Below.refl _ _).alloc (Nat.le_refl _) _
                go_simp
                refine hK.out _ _ (⟨(hbx.block _ (row_lt hHeld.1)).trans hHeld.1, fun j u hj => (hbx.cell (p := ⟨b, _, none⟩) (Nat.lt_of_lt_of_le HbL.out HM.out.bel.size)).trans (hHeld.2 j u hj)⟩) (fun hHeld2 => ?_)
                clear hK K hHeld
                have hHeld := hHeld2
                clear hHeld2
                (try simp only [Act.put, List.setIfInBounds_toArray, List.set_cons_zero, List.set_cons_succ])
                obtain ⟨Uy6u2, eW⟩ : ∃ X, X = Uy6u1.alloc (.cells #[.int .i64 0, .slice none 0 0] 30) := ⟨_, rfl⟩
                have hb : Below Uy6u1.heap.size Uy6u1 Uy6u2 := by rw [eW]; exact (Below.refl _ _).alloc (Nat.le_refl _) _
                replace HM : Hid (PyS w yb nb2 n F3 G3 B3 (.slice av3 L3.length cv3) (.slice av L.length cv) L3 Uy6u2) := HM.out.below hb
                have HZ : Hid (Uy6u2.heap[Uy6u1.heap.size]? = some (.cells #[.int .i64 0, .slice none 0 0] 30)) := by rw [eW]; exact heap_alloc_new _ _
                rw [← eW] at hHeld ⊢
                clear eW
                clear hbx
                obtain ⟨zb, enb⟩ : ∃ b, b = Uy6u1.heap.size := ⟨_, rfl⟩
                have HZn : Hid (¬ F3 zb ∧ ¬ G3 zb ∧ yb ≠ zb ∧ w.heap.size ≤ zb) := (by have h1 := HM.out.bel.size; have h2 := row_lt HM0.out.ybx; rw [enb]; exact ⟨fun q => by (have := HM0.out.net.lt _ q; omega), fun q => by (have := HM0.out.doc.1 _ q; omega), by omega, HM0.out.bel.size⟩)
                rw [← enb] at HZ ⊢
                clear enb
                clear HM0
                clear hb
                refine wpAnyH_ready (rs := [11]) (by kernel_rfl) (by simp) ?_
                refine AllReadyH.cons (o := ⟨none, _, _, _, _, _⟩) rfl (fun K hK => ?_) AllReadyH.nil
                obtain ⟨z_0, z_1, z_2, z_3⟩ := row2_cells HZ.out
                go_simp
                refine hK.out _ _ (⟨row_set_other (row_set_other hHeld.1 HZn.out.2.2.1) HZn.out.2.2.1, fun j u hj => (World.cell?_of_block (w := Uy6u2) ((RowKit.Below.heap_setCell _ _ _ _ (by show b ≠ zb; have := HZn.out.2.2.2; have := HbL.out; omega)).trans (RowKit.Below.heap_setCell _ _ _ _ (by show b ≠ zb; have := HZn.out.2.2.2; have := HbL.out; omega)))).trans (hHeld.2 j u hj)⟩) (fun hHeld2 => ?_)
                clear hK K hHeld
                have hHeld := hHeld2
                clear hHeld2
                (try simp only [Act.put, List.setIfInBounds_toArray, List.set_cons_zero, List.set_cons_succ])
                obtain ⟨Uy6u3, eWn⟩ : ∃ X, X = ((Uy6u2.setCell ⟨zb, 0, none⟩ (.int .i64 (n : Int))).setCell ⟨zb, 1, none⟩ (.slice av3 L3.length cv3)) := ⟨_, rfl⟩
                rw [← eWn] at hHeld ⊢
                replace HM : Hid (PyS w yb nb2 n F3 G3 B3 (.slice av3 L3.length cv3) (.slice av L.length cv) L3 Uy6u3) := (by rw [eWn]; exact HM.out.set2 HZn.out.1 HZn.out.2.1 HZn.out.2.2.1 HZn.out.2.2.2)
                have HZr : Hid (Uy6u3.heap[zb]? = some (.cells #[.int .i64 (n : Int), (.slice av3 L3.length cv3)] 30)) := (by rw [eWn]; exact row_set2 HZ.out)
                clear z_0 z_1 z_2 z_3 eWn HZ
                refine tkW 12 (some 11) (v := ?_) ?_ hHeld ?_
                rotate_left
                · (intro ww _; go_simp; try with_reducible rfl)
                refine wpAnyH_done (by kernel_rfl) ?_ _
                clear hHeld
                obtain ⟨q_0, q_1, _, _⟩ := row2_cells HZr.out
                obtain ⟨r_0, r_1, r_2, r_3⟩ := row2_cells HM.out.ybx
                have HSn := hide9 HM.out.setY
                have n1 : IntKind.i64.wrap ((i : Int) + 1) = (i : Int) + 1 := by rw [IntKind.wrap_i64]; omega
                have t_0 : ((Uy6u3.setCell ⟨yb, 0, none⟩ (.int .i64 (n : Int))).setCell ⟨yb, 1, none⟩ (.slice av3 L3.length cv3)).cell? ⟨yb, 0, none⟩ = some (.int .i64 (n : Int)) := (row2_cells HSn.out.ybx).1
                have t_1 : ((Uy6u3.setCell ⟨yb, 0, none⟩ (.int .i64 (n : Int))).setCell ⟨yb, 1, none⟩ (.slice av3 L3.length cv3)).cell? ⟨yb, 1, none⟩ = some (.slice av3 L3.length cv3) := (row2_cells HSn.out.ybx).2.1
                go_wp2_with fail
                refine (told_any F3 G3 nb2 n _ L3 B3 _ HSn.out.net HSn.out.doc HSn.out.rel (by have h1 := HL3.out; have h2 := HLl.out; omega)).mono ?_
                rintro e w9 ⟨rfl, hb⟩
                have HS9 : Hid (PyS w yb nb2 n F3 G3 B3 (.slice av3 L3.length cv3) (.slice av3 L3.length cv3) L3 w9) := HSn.out.below hb
                clear hb HSn t_0 t_1 q_0 q_1 r_0 r_1 r_2 r_3 HM HZr
                go_wp2
                go_roundw
                case rel => exact ⟨i + 1, nb2, F3, G3, B3, _, L3, by omega, rfl, by go_num, HS9, (show L3.length ≤ i + 1 by have h1 := HL3.out; have h2 := HLl.out; omega)⟩
                case measure => simp [intOf]; omega
              · have HS0 := HS
                have hbx : Below Uy6u0.heap.size Uy6u0 (Uy6u0.alloc (.cells #[.int .i64 0, .slice none 0 0] 30)) := (Below.refl _ _).alloc (Nat.le_refl _) _
                go_simp
                refine hK.out _ _ (⟨(hbx.block _ (row_lt hHeld.1)).trans hHeld.1, fun j u hj => (hbx.cell (p := ⟨b, _, none⟩) (Nat.lt_of_lt_of_le HbL.out HS.out.bel.size)).trans (hHeld.2 j u hj)⟩) (fun hHeld2 => ?_)
                clear hK K hHeld
                have hHeld := hHeld2
                clear hHeld2
                (try simp only [Act.put, List.setIfInBounds_toArray, List.set_cons_zero, List.set_cons_succ])
                obtain ⟨Uy6u4, eW⟩ : ∃ X, X = Uy6u0.alloc (.cells #[.int .i64 0, .slice none 0 0] 30) := ⟨_, rfl⟩
                have hb : Below Uy6u0.heap.size Uy6u0 Uy6u4 := by rw [eW]; exact (Below.refl _ _).alloc (Nat.le_refl _) _
                replace HS : Hid (PyS w yb nb2 n F2 G B (.slice av L.length cv) (.slice av L.length cv) L Uy6u4) := HS.out.below hb
                have HZ : Hid (Uy6u4.heap[Uy6u0.heap.size]? = some (.cells #[.int .i64 0, .slice none 0 0] 30)) := by rw [eW]; exact heap_alloc_new _ _
                rw [← eW] at hHeld ⊢
                clear eW
                clear hbx
                obtain ⟨zb, enb⟩ : ∃ b, b = Uy6u0.heap.size := ⟨_, rfl⟩
                have HZn : Hid (¬ F2 zb ∧ ¬ G zb ∧ yb ≠ zb ∧ w.heap.size ≤ zb) := (by have h1 := HS.out.bel.size; have h2 := row_lt HS0.out.ybx; rw [enb]; exact ⟨fun q => by (have := HS0.out.net.lt _ q; omega), fun q => by (have := HS0.out.doc.1 _ q; omega), by omega, HS0.out.bel.size⟩)
                have HZs : Hid (zb < Uy6u4.heap.size) := (by rw [enb]; exact row_lt HZ.out)
                rw [← enb] at HZ ⊢
                clear enb
                clear HS0
                clear hb
                refine wpAnyH_ready (rs := [6]) (by kernel_rfl) (by simp) ?_
                refine AllReadyH.cons (o := ⟨some 83, _, _, _, _, _⟩) rfl (fun K hK => ?_) AllReadyH.nil
                go_simp
                refine (HS.out.play (by have := HLl.out; omega) x (.slice apx x.p.length cpx) HxB.out HxO.out).mono ?_
                rintro e Uy6u5 ⟨v3, B3, F3, L3, G3, rfl, hpy, hln, hto, hel, hdo, hnf, hng⟩
                (try go_wp2_with fail)
                obtain ⟨av3, cv3, ev3⟩ := hpy.doc.isS.form
                subst ev3
                have hS6 : Uy6u5.heap[yb]? = some (.cells #[.int .i64 (n : Int), (.slice av L.length cv)] 30) ∧ (∀ j u, (acCells x (.slice apx x.p.length cpx))[j]? = some u → Uy6u5.cell? ⟨b, o + i * 7 + j, none⟩ = some u) := ⟨hpy.ybx, fun j u hj => (World.cell?_of_block (w := Uy6u4) (hto.block b (Nat.lt_of_lt_of_le HbL.out HS.out.bel.size) (fun q => by have h1 := HS.out.fhi b q; have := HbL.out; omega))).trans (hHeld.2 j u hj)⟩
                have HM : Hid (PyS w yb nb2 n F3 G3 B3 (.slice av3 L3.length cv3) (.slice av L.length cv) L3 Uy6u5) := hpy
                have HL3 : Hid (L3.length ≤ L.length + 1) := hln
                replace HZ : Hid (Uy6u5.heap[zb]? = some (.cells #[.int .i64 0, .slice none 0 0] 30)) := row_touch HZ.out hto HZn.out.1
                replace HZn : Hid (¬ F3 zb ∧ ¬ G3 zb ∧ yb ≠ zb ∧ w.heap.size ≤ zb) := ⟨hnf zb (row_lt_touch HZ.out hto HZs.out) HZn.out.1, hng zb (row_lt_touch HZ.out hto HZs.out) HZn.out.2.1, HZn.out.2.2.1, HZn.out.2.2.2⟩
                clear hpy hln hel hdo hnf hng hto HS
                refine hK.out _ _ (hS6) (fun hHeld2 => ?_)
                clear hK K hHeld
                have hHeld := hHeld2
                clear hHeld2
                (try simp only [Act.put, List.setIfInBounds_toArray, List.set_cons_zero, List.set_cons_succ])
                clear hS6
                refine tkW 7 (some 76) (v := ?_) ?_ hHeld ?_
                rotate_left
                · (intro ww _; go_simp; try with_reducible rfl)
                refine tkW 8 (some 84) (v := ?_) ?_ hHeld ?_
                rotate_left
                · (intro ww _; go_simp; try with_reducible rfl)
                refine tkW 9 (some 85) (v := ?_) ?_ hHeld ?_
                rotate_left
                · (intro ww _; go_simp; try with_reducible rfl)
                refine wpAnyH_ready (rs := [11]) (by kernel_rfl) (by simp) ?_
                refine AllReadyH.cons (o := ⟨none, _, _, _, _, _⟩) rfl (fun K hK => ?_) AllReadyH.nil
                obtain ⟨z_0, z_1, z_2, z_3⟩ := row2_cells HZ.out
                go_simp
                refine hK.out _ _ (⟨row_set_other (row_set_other hHeld.1 HZn.out.2.2.1) HZn.out.2.2.1, fun j u hj => (World.cell?_of_block (w := Uy6u5) ((RowKit.Below.heap_setCell _ _ _ _ (by show b ≠ zb; have := HZn.out.2.2.2; have := HbL.out; omega)).trans (RowKit.Below.heap_setCell _ _ _ _ (by show b ≠ zb; have := HZn.out.2.2.2; have := HbL.out; omega)))).trans (hHeld.2 j u hj)⟩) (fun hHeld2 => ?_)
                clear hK K hHeld
                have hHeld := hHeld2
                clear hHeld2
                (try simp only [Act.put, List.setIfInBounds_toArray, List.set_cons_zero, List.set_cons_succ])
                obtain ⟨Uy6u6, eWn⟩ : ∃ X, X = ((Uy6u5.setCell ⟨zb, 0, none⟩ (.int .i64 (n : Int))).setCell ⟨zb, 1, none⟩ (.slice av3 L3.length cv3)) := ⟨_, rfl⟩
                rw [← eWn] at hHeld ⊢
                replace HM : Hid (PyS w yb nb2 n F3 G3 B3 (.slice av3 L3.length cv3) (.slice av L.length cv) L3 Uy6u6) := (by rw [eWn]; exact HM.out.set2 HZn.out.1 HZn.out.2.1 HZn.out.2.2.1 HZn.out.2.2.2)
                have HZr : Hid (Uy6u6.heap[zb]? = some (.cells #[.int .i64 (n : Int), (.slice av3 L3.length cv3)] 30)) := (by rw [eWn]; exact row_set2 HZ.out)
                clear z_0 z_1 z_2 z_3 eWn HZ
                refine tkW 12 (some 11) (v := ?_) ?_ hHeld ?_
                rotate_left
                · (intro ww _; go_simp; try with_reducible rfl)
                refine wpAnyH_done (by kernel_rfl) ?_ _
                clear hHeld
                obtain ⟨q_0, q_1, _, _⟩ := row2_cells HZr.out
                obtain ⟨r_0, r_1, r_2, r_3⟩ := row2_cells HM.out.ybx
                have HSn := hide9 HM.out.setY
                have n1 : IntKind.i64.wrap ((i : Int) + 1) = (i : Int) + 1 := by rw [IntKind.wrap_i64]; omega
                have t_0 : ((Uy6u6.setCell ⟨yb, 0, none⟩ (.int .i64 (n : Int))).setCell ⟨yb, 1, none⟩ (.slice av3 L3.length cv3)).cell? ⟨yb, 0, none⟩ = some (.int .i64 (n : Int)) := (row2_cells HSn.out.ybx).1
                have t_1 : ((Uy6u6.setCell ⟨yb, 0, none⟩ (.int .i64 (n : Int))).setCell ⟨yb, 1, none⟩ (.slice av3 L3.length cv3)).cell? ⟨yb, 1, none⟩ = some (.slice av3 L3.length cv3) := (row2_cells HSn.out.ybx).2.1
                go_wp2_with fail
                refine (told_any F3 G3 nb2 n _ L3 B3 _ HSn.out.net HSn.out.doc HSn.out.rel (by have h1 := HL3.out; have h2 := HLl.out; omega)).mono ?_
                rintro e w9 ⟨rfl, hb⟩
                have HS9 : Hid (PyS w yb nb2 n F3 G3 B3 (.slice av3 L3.length cv3) (.slice av3 L3.length cv3) L3 w9) := HSn.out.below hb
                clear hb HSn t_0 t_1 q_0 q_1 r_0 r_1 r_2 r_3 HM HZr
                go_wp2
                go_roundw
                case rel => exact ⟨i + 1, nb2, F3, G3, B3, _, L3, by omega, rfl, by go_num, HS9, (show L3.length ≤ i + 1 by have h1 := HL3.out; have h2 := HLl.out; omega)⟩
                case measure => simp [intOf]; omega
            · have z0 : ¬ x.kind < 0 := hz0
              have z1 : ¬ 5 < x.kind := hz1
              have HSr := HS
              have Hxc : Hid (∀ j u, (acCells x (.slice apx x.p.length cpx))[j]? = some u → wr.drew.cell? ⟨b, o + i * 7 + j, none⟩ = some u) := fun j u hj => (HSr.out.bel.cell (p := ⟨b, _, none⟩) HbL.out).trans (Hxa.out j u hj)
              go_upto_region 19 with fail
              (try clear x0)
              (try clear HS)
              have HS := HSr
              clear HSr
              refine wp_region_held_drew (S := fun W' => W'.heap[yb]? = some (.cells #[.int .i64 (n : Int), (.slice av L.length cv)] 30) ∧ (∀ j u, (acCells x (.slice apx x.p.length cpx))[j]? = some u → W'.cell? ⟨b, o + i * 7 + j, none⟩ = some u)) (by kernel_rfl) ⟨HS.out.ybx, fun j u hj => Hxc.out j u hj⟩ (fun hHeld => ?_)
              obtain ⟨Uy5u0, eW⟩ : ∃ X, X = wr.drew := ⟨_, rfl⟩
              have hb : Below wr.heap.size wr Uy5u0 := by rw [eW]; exact (Below.refl _ _).drew
              replace HS : Hid (PyS w yb nb n F G B (.slice av L.length cv) (.slice av L.length cv) L Uy5u0) := HS.out.below hb
              rw [← eW] at hHeld ⊢
              clear eW hb
              refine tkW 0 (some 77) (v := ?_) ?_ hHeld ?_
              rotate_left
              · (intro ww _; go_simp; try with_reducible rfl)
              refine tkW 1 (some 78) (v := ?_) ?_ hHeld ?_
              rotate_left
              · (intro ww hSw; (try dsimp only at hSw); obtain ⟨y_0, y_1, _, _⟩ := row2_cells hSw.1; have x0 : ww.cell? ⟨b, o + i * 7, none⟩ = some (.int .i64 x.kind) := hSw.2 0 _ rfl; have x1 : ww.cell? ⟨b, o + i * 7 + 1, none⟩ = some (.int .i64 x.fr) := hSw.2 1 _ rfl; have x2 : ww.cell? ⟨b, o + i * 7 + 2, none⟩ = some (.int .i64 x.to) := hSw.2 2 _ rfl; have x3 : ww.cell? ⟨b, o + i * 7 + 3, none⟩ = some (.int .i64 x.i) := hSw.2 3 _ rfl; have x4 : ww.cell? ⟨b, o + i * 7 + 4, none⟩ = some (.int .i64 x.at_) := hSw.2 4 _ rfl; have x5 : ww.cell? ⟨b, o + i * 7 + 5, none⟩ = some (.int .i64 x.mask) := hSw.2 5 _ rfl; have x6 : ww.cell? ⟨b, o + i * 7 + 6, none⟩ = some (.slice apx x.p.length cpx) := hSw.2 6 _ rfl; clear hSw; go_simp; try with_reducible rfl)
              refine tkW 2 (some 79) (v := ?_) ?_ hHeld ?_
              rotate_left
              · (intro ww _; go_simp; try with_reducible rfl)
              refine tkW 3 (some 80) (v := ?_) ?_ hHeld ?_
              rotate_left
              · (intro ww _; go_simp; try with_reducible rfl)
              refine tkW 4 (some 81) (v := ?_) ?_ hHeld ?_
              rotate_left
              · (intro ww hSw; (try dsimp only at hSw); obtain ⟨y_0, y_1, _, _⟩ := row2_cells hSw.1; have x0 : ww.cell? ⟨b, o + i * 7, none⟩ = some (.int .i64 x.kind) := hSw.2 0 _ rfl; have x1 : ww.cell? ⟨b, o + i * 7 + 1, none⟩ = some (.int .i64 x.fr) := hSw.2 1 _ rfl; have x2 : ww.cell? ⟨b, o + i * 7 + 2, none⟩ = some (.int .i64 x.to) := hSw.2 2 _ rfl; have x3 : ww.cell? ⟨b, o + i * 7 + 3, none⟩ = some (.int .i64 x.i) := hSw.2 3 _ rfl; have x4 : ww.cell? ⟨b, o + i * 7 + 4, none⟩ = some (.int .i64 x.at_) := hSw.2 4 _ rfl; have x5 : ww.cell? ⟨b, o + i * 7 + 5, none⟩ = some (.int .i64 x.mask) := hSw.2 5 _ rfl; have x6 : ww.cell? ⟨b, o + i * 7 + 6, none⟩ = some (.slice apx x.p.length cpx) := hSw.2 6 _ rfl; clear hSw; go_simp; try with_reducible rfl)
              refine tkW 5 (some 82) (v := ?_) ?_ hHeld ?_
              rotate_left
              · (intro ww hSw; (try dsimp only at hSw); obtain ⟨y_0, y_1, _, _⟩ := row2_cells hSw.1; have x0 : ww.cell? ⟨b, o + i * 7, none⟩ = some (.int .i64 x.kind) := hSw.2 0 _ rfl; have x1 : ww.cell? ⟨b, o + i * 7 + 1, none⟩ = some (.int .i64 x.fr) := hSw.2 1 _ rfl; have x2 : ww.cell? ⟨b, o + i * 7 + 2, none⟩ = some (.int .i64 x.to) := hSw.2 2 _ rfl; have x3 : ww.cell? ⟨b, o + i * 7 + 3, none⟩ = some (.int .i64 x.i) := hSw.2 3 _ rfl; have x4 : ww.cell? ⟨b, o + i * 7 + 4, none⟩ = some (.int .i64 x.at_) := hSw.2 4 _ rfl; have x5 : ww.cell? ⟨b, o + i * 7 + 5, none⟩ = some (.int .i64 x.mask) := hSw.2 5 _ rfl; have x6 : ww.cell? ⟨b, o + i * 7 + 6, none⟩ = some (.slice apx x.p.length cpx) := hSw.2 6 _ rfl; clear hSw; go_simp; try with_reducible rfl)
              refine wpAnyH_ready (rs := [6, 10]) (by kernel_rfl) (by simp) ?_
              refine AllReadyH.cons (o := ⟨some 83, _, _, _, _, _⟩) rfl (fun K hK => ?_) (AllReadyH.cons (o := ⟨some 10, _, _, _, _, _⟩) rfl (fun K hK => ?_) AllReadyH.nil)
              · go_simp
                refine (HS.out.play (by have := HLl.out; omega) x (.slice apx x.p.length cpx) HxB.out HxO.out).mono ?_
                rintro e Uy5u1 ⟨v3, B3, F3, L3, G3, rfl, hpy, hln, hto, hel, hdo, hnf, hng⟩
                (try go_wp2_with fail)
                obtain ⟨av3, cv3, ev3⟩ := hpy.doc.isS.form
                subst ev3
                have hS6 : Uy5u1.heap[yb]? = some (.cells #[.int .i64 (n : Int), (.slice av L.length cv)] 30) ∧ (∀ j u, (acCells x (.slice apx x.p.length cpx))[j]? = some u → Uy5u1.cell? ⟨b, o + i * 7 + j, none⟩ = some u) := ⟨hpy.ybx, fun j u hj => (World.cell?_of_block (w := Uy5u0) (hto.block b (Nat.lt_of_lt_of_le HbL.out HS.out.bel.size) (fun q => by have h1 := HS.out.fhi b q; have := HbL.out; omega))).trans (hHeld.2 j u hj)⟩
                have HM : Hid (PyS w yb nb n F3 G3 B3 (.slice av3 L3.length cv3) (.slice av L.length cv) L3 Uy5u1) := hpy
                have HL3 : Hid (L3.length ≤ L.length + 1) := hln
                clear hpy hln hel hdo hnf hng hto HS
                refine hK.out _ _ (hS6) (fun hHeld2 => ?_)
                clear hK K hHeld
                have hHeld := hHeld2
                clear hHeld2
                (try simp only [Act.put, List.setIfInBounds_toArray, List.set_cons_zero, List.set_cons_succ])
                clear hS6
                refine tkW 7 (some 76) (v := ?_) ?_ hHeld ?_
                rotate_left
                · (intro ww _; go_simp; try with_reducible rfl)
                refine tkW 8 (some 84) (v := ?_) ?_ hHeld ?_
                rotate_left
                · (intro ww _; go_simp; try with_reducible rfl)
                refine tkW 9 (some 85) (v := ?_) ?_ hHeld ?_
                rotate_left
                · (intro ww _; go_simp; try with_reducible rfl)
                refine wpAnyH_ready (rs := [10]) (by kernel_rfl) (by simp) ?_
                refine AllReadyH.cons (o := ⟨some 10, _, _, _, _, _⟩) rfl (fun K hK => ?_) AllReadyH.nil
                have HM0 := HM
                have hbx : Below Uy5u1.heap.size Uy5u1 (Uy5u1.alloc (.cells #[.int .i64 0, .slice none 0 0] 30)) := (Below.refl _ _).alloc (Nat.le_refl _) _
                go_simp
                refine hK.out _ _ (⟨(hbx.block _ (row_lt hHeld.1)).trans hHeld.1, fun j u hj => (hbx.cell (p := ⟨b, _, none⟩) (Nat.lt_of_lt_of_le HbL.out HM.out.bel.size)).trans (hHeld.2 j u hj)⟩) (fun hHeld2 => ?_)
                clear hK K hHeld
                have hHeld := hHeld2
                clear hHeld2
                (try simp only [Act.put, List.setIfInBounds_toArray, List.set_cons_zero, List.set_cons_succ])
                obtain ⟨Uy5u2, eW⟩ : ∃ X, X = Uy5u1.alloc (.cells #[.int .i64 0, .slice none 0 0] 30) := ⟨_, rfl⟩
                have hb : Below Uy5u1.heap.size Uy5u1 Uy5u2 := by rw [eW]; exact (Below.refl _ _).alloc (Nat.le_refl _) _
                replace HM : Hid (PyS w yb nb n F3 G3 B3 (.slice av3 L3.length cv3) (.slice av L.length cv) L3 Uy5u2) := HM.out.below hb
                have HZ : Hid (Uy5u2.heap[Uy5u1.heap.size]? = some (.cells #[.int .i64 0, .slice none 0 0] 30)) := by rw [eW]; exact heap_alloc_new _ _
                rw [← eW] at hHeld ⊢
                clear eW
                clear hbx
                obtain ⟨zb, enb⟩ : ∃ b, b = Uy5u1.heap.size := ⟨_, rfl⟩
                have HZn : Hid (¬ F3 zb ∧ ¬ G3 zb ∧ yb ≠ zb ∧ w.heap.size ≤ zb) := (by have h1 := HM.out.bel.size; have h2 := row_lt HM0.out.ybx; rw [enb]; exact ⟨fun q => by (have := HM0.out.net.lt _ q; omega), fun q => by (have := HM0.out.doc.1 _ q; omega), by omega, HM0.out.bel.size⟩)
                rw [← enb] at HZ ⊢
                clear enb
                clear HM0
                clear hb
                refine wpAnyH_ready (rs := [11]) (by kernel_rfl) (by simp) ?_
                refine AllReadyH.cons (o := ⟨none, _, _, _, _, _⟩) rfl (fun K hK => ?_) AllReadyH.nil
                obtain ⟨z_0, z_1, z_2, z_3⟩ := row2_cells HZ.out
                go_simp
                refine hK.out _ _ (⟨row_set_other (row_set_other hHeld.1 HZn.out.2.2.1) HZn.out.2.2.1, fun j u hj => (World.cell?_of_block (w := Uy5u2) ((RowKit.Below.heap_setCell _ _ _ _ (by show b ≠ zb; have := HZn.out.2.2.2; have := HbL.out; omega)).trans (RowKit.Below.heap_setCell _ _ _ _ (by show b ≠ zb; have := HZn.out.2.2.2; have := HbL.out; omega)))).trans (hHeld.2 j u hj)⟩) (fun hHeld2 => ?_)
                clear hK K hHeld
                have hHeld := hHeld2
                clear hHeld2
                (try simp only [Act.put, List.setIfInBounds_toArray, List.set_cons_zero, List.set_cons_succ])
                obtain ⟨Uy5u3, eWn⟩ : ∃ X, X = ((Uy5u2.setCell ⟨zb, 0, none⟩ (.int .i64 (n : Int))).setCell ⟨zb, 1, none⟩ (.slice av3 L3.length cv3)) := ⟨_, rfl⟩
                rw [← eWn] at hHeld ⊢
                replace HM : Hid (PyS w yb nb n F3 G3 B3 (.slice av3 L3.length cv3) (.slice av L.length cv) L3 Uy5u3) := (by rw [eWn]; exact HM.out.set2 HZn.out.1 HZn.out.2.1 HZn.out.2.2.1 HZn.out.2.2.2)
                have HZr : Hid (Uy5u3.heap[zb]? = some (.cells #[.int .i64 (n : Int), (.slice av3 L3.length cv3)] 30)) := (by rw [eWn]; exact row_set2 HZ.out)
                clear z_0 z_1 z_2 z_3 eWn HZ
                refine tkW 12 (some 11) (v := ?_) ?_ hHeld ?_
                rotate_left
                · (intro ww _; go_simp; try with_reducible rfl)
                refine wpAnyH_done (by kernel_rfl) ?_ _
                clear hHeld
                obtain ⟨q_0, q_1, _, _⟩ := row2_cells HZr.out
                obtain ⟨r_0, r_1, r_2, r_3⟩ := row2_cells HM.out.ybx
                have HSn := hide9 HM.out.setY
                have n1 : IntKind.i64.wrap ((i : Int) + 1) = (i : Int) + 1 := by rw [IntKind.wrap_i64]; omega
                have t_0 : ((Uy5u3.setCell ⟨yb, 0, none⟩ (.int .i64 (n : Int))).setCell ⟨yb, 1, none⟩ (.slice av3 L3.length cv3)).cell? ⟨yb, 0, none⟩ = some (.int .i64 (n : Int)) := (row2_cells HSn.out.ybx).1
                have t_1 : ((Uy5u3.setCell ⟨yb, 0, none⟩ (.int .i64 (n : Int))).setCell ⟨yb, 1, none⟩ (.slice av3 L3.length cv3)).cell? ⟨yb, 1, none⟩ = some (.slice av3 L3.length cv3) := (row2_cells HSn.out.ybx).2.1
                go_wp2_with fail
                refine (told_any F3 G3 nb n _ L3 B3 _ HSn.out.net HSn.out.doc HSn.out.rel (by have h1 := HL3.out; have h2 := HLl.out; omega)).mono ?_
                rintro e w9 ⟨rfl, hb⟩
                have HS9 : Hid (PyS w yb nb n F3 G3 B3 (.slice av3 L3.length cv3) (.slice av3 L3.length cv3) L3 w9) := HSn.out.below hb
                clear hb HSn t_0 t_1 q_0 q_1 r_0 r_1 r_2 r_3 HM HZr
                go_wp2
                go_roundw
                case rel => exact ⟨i + 1, nb, F3, G3, B3, _, L3, by omega, rfl, by go_num, HS9, (show L3.length ≤ i + 1 by have h1 := HL3.out; have h2 := HLl.out; omega)⟩
                case measure => simp [intOf]; omega
              · have HS0 := HS
                have hbx : Below Uy5u0.heap.size Uy5u0 (Uy5u0.alloc (.cells #[.int .i64 0, .slice none 0 0] 30)) := (Below.refl _ _).alloc (Nat.le_refl _) _
                go_simp
                refine hK.out _ _ (⟨(hbx.block _ (row_lt hHeld.1)).trans hHeld.1, fun j u hj => (hbx.cell (p := ⟨b, _, none⟩) (Nat.lt_of_lt_of_le HbL.out HS.out.bel.size)).trans (hHeld.2 j u hj)⟩) (fun hHeld2 => ?_)
                clear hK K hHeld
                have hHeld := hHeld2
                clear hHeld2
                (try simp only [Act.put, List.setIfInBounds_toArray, List.set_cons_zero, List.set_cons_succ])
                obtain ⟨Uy5u4, eW⟩ : ∃ X, X = Uy5u0.alloc (.cells #[.int .i64 0, .slice none 0 0] 30) := ⟨_, rfl⟩
                have hb : Below Uy5u0.heap.size Uy5u0 Uy5u4 := by rw [eW]; exact (Below.refl _ _).alloc (Nat.le_refl _) _
                replace HS : Hid (PyS w yb nb n F G B (.slice av L.length cv) (.slice av L.length cv) L Uy5u4) := HS.out.below hb
                have HZ : Hid (Uy5u4.heap[Uy5u0.heap.size]? = some (.cells #[.int .i64 0, .slice none 0 0] 30)) := by rw [eW]; exact heap_alloc_new _ _
                rw [← eW] at hHeld ⊢
                clear eW
                clear hbx
                obtain ⟨zb, enb⟩ : ∃ b, b = Uy5u0.heap.size := ⟨_, rfl⟩
                have HZn : Hid (¬ F zb ∧ ¬ G zb ∧ yb ≠ zb ∧ w.heap.size ≤ zb) := (by have h1 := HS.out.bel.size; have h2 := row_lt HS0.out.ybx; rw [enb]; exact ⟨fun q => by (have := HS0.out.net.lt _ q; omega), fun q => by (have := HS0.out.doc.1 _ q; omega), by omega, HS0.out.bel.size⟩)
                have HZs : Hid (zb < Uy5u4.heap.size) := (by rw [enb]; exact row_lt HZ.out)
                rw [← enb] at HZ ⊢
                clear enb
                clear HS0
                clear hb
                refine wpAnyH_ready (rs := [6]) (by kernel_rfl) (by simp) ?_
                refine AllReadyH.cons (o := ⟨some 83, _, _, _, _, _⟩) rfl (fun K hK => ?_) AllReadyH.nil
                go_simp
                refine (HS.out.play (by have := HLl.out; omega) x (.slice apx x.p.length cpx) HxB.out HxO.out).mono ?_
                rintro e Uy5u5 ⟨v3, B3, F3, L3, G3, rfl, hpy, hln, hto, hel, hdo, hnf, hng⟩
                (try go_wp2_with fail)
                obtain ⟨av3, cv3, ev3⟩ := hpy.doc.isS.form
                subst ev3
                have hS6 : Uy5u5.heap[yb]? = some (.cells #[.int .i64 (n : Int), (.slice av L.length cv)] 30) ∧ (∀ j u, (acCells x (.slice apx x.p.length cpx))[j]? = some u → Uy5u5.cell? ⟨b, o + i * 7 + j, none⟩ = some u) := ⟨hpy.ybx, fun j u hj => (World.cell?_of_block (w := Uy5u4) (hto.block b (Nat.lt_of_lt_of_le HbL.out HS.out.bel.size) (fun q => by have h1 := HS.out.fhi b q; have := HbL.out; omega))).trans (hHeld.2 j u hj)⟩
                have HM : Hid (PyS w yb nb n F3 G3 B3 (.slice av3 L3.length cv3) (.slice av L.length cv) L3 Uy5u5) := hpy
                have HL3 : Hid (L3.length ≤ L.length + 1) := hln
                replace HZ : Hid (Uy5u5.heap[zb]? = some (.cells #[.int .i64 0, .slice none 0 0] 30)) := row_touch HZ.out hto HZn.out.1
                replace HZn : Hid (¬ F3 zb ∧ ¬ G3 zb ∧ yb ≠ zb ∧ w.heap.size ≤ zb) := ⟨hnf zb (row_lt_touch HZ.out hto HZs.out) HZn.out.1, hng zb (row_lt_touch HZ.out hto HZs.out) HZn.out.2.1, HZn.out.2.2.1, HZn.out.2.2.2⟩
                clear hpy hln hel hdo hnf hng hto HS
                refine hK.out _ _ (hS6) (fun hHeld2 => ?_)
                clear hK K hHeld
                have hHeld := hHeld2
                clear hHeld2
                (try simp only [Act.put, List.setIfInBounds_toArray, List.set_cons_zero, List.set_cons_succ])
                clear hS6
                refine tkW 7 (some 76) (v := ?_) ?_ hHeld ?_
                rotate_left
                · (intro ww _; go_simp; try with_reducible rfl)
                refine tkW 8 (some 84) (v := ?_) ?_ hHeld ?_
                rotate_left
                · (intro ww _; go_simp; try with_reducible rfl)
                refine tkW 9 (some 85) (v := ?_) ?_ hHeld ?_
                rotate_left
                · (intro ww _; go_simp; try with_reducible rfl)
                refine wpAnyH_ready (rs := [11]) (by kernel_rfl) (by simp) ?_
                refine AllReadyH.cons (o := ⟨none, _, _, _, _, _⟩) rfl (fun K hK => ?_) AllReadyH.nil
                obtain ⟨z_0, z_1, z_2, z_3⟩ := row2_cells HZ.out
                go_simp
                refine hK.out _ _ (⟨row_set_other (row_set_other hHeld.1 HZn.out.2.2.1) HZn.out.2.2.1, fun j u hj => (World.cell?_of_block (w := Uy5u5) ((RowKit.Below.heap_setCell _ _ _ _ (by show b ≠ zb; have := HZn.out.2.2.2; have := HbL.out; omega)).trans (RowKit.Below.heap_setCell _ _ _ _ (by show b ≠ zb; have := HZn.out.2.2.2; have := HbL.out; omega)))).trans (hHeld.2 j u hj)⟩) (fun hHeld2 => ?_)
                clear hK K hHeld
                have hHeld := hHeld2
                clear hHeld2
                (try simp only [Act.put, List.setIfInBounds_toArray, List.set_cons_zero, List.set_cons_succ])
                obtain ⟨Uy5u6, eWn⟩ : ∃ X, X = ((Uy5u5.setCell ⟨zb, 0, none⟩ (.int .i64 (n : Int))).setCell ⟨zb, 1, none⟩ (.slice av3 L3.length cv3)) := ⟨_, rfl⟩
                rw [← eWn] at hHeld ⊢
                replace HM : Hid (PyS w yb nb n F3 G3 B3 (.slice av3 L3.length cv3) (.slice av L.length cv) L3 Uy5u6) := (by rw [eWn]; exact HM.out.set2 HZn.out.1 HZn.out.2.1 HZn.out.2.2.1 HZn.out.2.2.2)
                have HZr : Hid (Uy5u6.heap[zb]? = some (.cells #[.int .i64 (n : Int), (.slice av3 L3.length cv3)] 30)) := (by rw [eWn]; exact row_set2 HZ.out)
                clear z_0 z_1 z_2 z_3 eWn HZ
                refine tkW 12 (some 11) (v := ?_) ?_ hHeld ?_
                rotate_left
                · (intro ww _; go_simp; try with_reducible rfl)
                refine wpAnyH_done (by kernel_rfl) ?_ _
                clear hHeld
                obtain ⟨q_0, q_1, _, _⟩ := row2_cells HZr.out
                obtain ⟨r_0, r_1, r_2, r_3⟩ := row2_cells HM.out.ybx
                have HSn := hide9 HM.out.setY
                have n1 : IntKind.i64.wrap ((i : Int) + 1) = (i : Int) + 1 := by rw [IntKind.wrap_i64]; omega
                have t_0 : ((Uy5u6.setCell ⟨yb, 0, none⟩ (.int .i64 (n : Int))).setCell ⟨yb, 1, none⟩ (.slice av3 L3.length cv3)).cell? ⟨yb, 0, none⟩ = some (.int .i64 (n : Int)) := (row2_cells HSn.out.ybx).1
                have t_1 : ((Uy5u6.setCell ⟨yb, 0, none⟩ (.int .i64 (n : Int))).setCell ⟨yb, 1, none⟩ (.slice av3 L3.length cv3)).cell? ⟨yb, 1, none⟩ = some (.slice av3 L3.length cv3) := (row2_cells HSn.out.ybx).2.1
                go_wp2_with fail
                refine (told_any F3 G3 nb n _ L3 B3 _ HSn.out.net HSn.out.doc HSn.out.rel (by have h1 := HL3.out; have h2 := HLl.out; omega)).mono ?_
                rintro e w9 ⟨rfl, hb⟩
                have HS9 : Hid (PyS w yb nb n F3 G3 B3 (.slice av3 L3.length cv3) (.slice av3 L3.length cv3) L3 w9) := HSn.out.below hb
                clear hb HSn t_0 t_1 q_0 q_1 r_0 r_1 r_2 r_3 HM HZr
                go_wp2
                go_roundw
                case rel => exact ⟨i + 1, nb, F3, G3, B3, _, L3, by omega, rfl, by go_num, HS9, (show L3.length ≤ i + 1 by have h1 := HL3.out; have h2 := HLl.out; omega)⟩
                case measure => simp [intOf]; omega
        · have k1 : ¬ (i : Int) < (T.length : Int) := by omega
          have k3 : decide ((i : Int) < (T.length : Int)) = false := decide_eq_false k1
          have HBe : Hid (Below w.heap.size w wr) := HS.out.bel
          clear HS
          go_wp2_with fail
          refine (awake_any _).mono ?_
          rintro e w9 ⟨rfl, hb⟩
          have HBz : Hid (Below w.heap.size w w9) := HBe.out.trans (hb.mono HBe.out.size)
          clear hb HBe
          go_wp2
          go_ret
          exact ⟨rfl, HBz.out⟩

end Go.Proofs.Ytlcnfoljkcfplaa
