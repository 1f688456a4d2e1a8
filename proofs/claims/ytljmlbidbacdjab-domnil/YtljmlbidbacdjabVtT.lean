/- Equality of trees: both Sames. -/
import Derived.Test.YtljmlbidbacdjabVtS
import Derived.Deep.Cut
namespace Go.Proofs.Ytljmlbidbacdjab
open Go.RowKit
set_option linter.unusedVariables false
set_option linter.unusedSimpArgs false

theorem hide9 {p : Prop} (h : p) : Hid p := h
theorem VT.ext {a b : VT} (h1 : a.k = b.k) (h2 : a.tg = b.tg) (h3 : a.tx = b.tx) (h4 : a.at_ = b.at_) (h5 : a.ks = b.ks) : a = b := by rw [a.eta, b.eta, h1, h2, h3, h4, h5]
theorem row6 {W : World} {b : Nat} {x0 x1 x2 x3 x4 x5 : Value} {ty : TypeId} (h : W.heap[b]? = some (.cells #[x0, x1, x2, x3, x4, x5] ty)) : W.cell? ⟨b, 0, none⟩ = some x0 ∧ W.cell? ⟨b, 1, none⟩ = some x1 ∧ W.cell? ⟨b, 2, none⟩ = some x2 ∧ W.cell? ⟨b, 3, none⟩ = some x3 ∧ W.cell? ⟨b, 4, none⟩ = some x4 ∧ W.cell? ⟨b, 5, none⟩ = some x5 := by
  refine ⟨?_, ?_, ?_, ?_, ?_, ?_⟩ <;> (rw [cell_of_row W b _ _ _ _ h]; rfl)
theorem neqSt (c r c2 r2 : Int) (w : World) : (binOp .neq 24 (.agg #[.int .i64 c, .int .i64 r]) (.agg #[.int .i64 c2, .int .i64 r2])).run Try.prog w = .ok (.bool (!decide ((c, r) = (c2, r2)))) w := by
  have h := equalSt (c, r) (c2, r2) w
  have h2 : (Op.equal 24 (.agg #[.int .i64 c, .int .i64 r]) (.agg #[.int .i64 c2, .int .i64 r2])).run Try.prog w = _ := h
  simp only [binOp, Sem.run_bind, h2, Result.andThen_ok]
  rw [show decide ((c2, r2) = (c, r)) = decide ((c, r) = (c2, r2)) from decide_eq_decide.2 eq_comm]
  rfl
/-- What stands while two trees are held against one another. -/
structure SmS (w : World) (G1 G2 : Nat → Prop) (a b : VT) (aa : Option Addr) (ca : Nat) (ak : Option Addr) (ck : Nat) (ba : Option Addr) (cb : Nat) (bk : Option Addr) (dk : Nat) (W : World) : Prop where
  b1 : W.heap[w.heap.size]? = some (.cells #[.int .i64 a.k.1, .int .i64 a.k.2, .string a.tg, .string a.tx, .slice aa a.at_.length ca, .slice ak a.ks.length ck] 42)
  b2 : W.heap[w.heap.size + 1]? = some (.cells #[.int .i64 b.k.1, .int .i64 b.k.2, .string b.tg, .string b.tx, .slice ba b.at_.length cb, .slice bk b.ks.length dk] 42)
  fa : FdIs G1 W (.slice aa a.at_.length ca) (.slice ak a.ks.length ck) a.at_ a.ks
  fb : FdIs G2 W (.slice ba b.at_.length cb) (.slice bk b.ks.length dk) b.at_ b.ks
  bel : Below w.heap.size w W
section
variable {w W W' : World} {G1 G2 : Nat → Prop} {a b : VT} {aa : Option Addr} {ca : Nat} {ak : Option Addr} {ck : Nat} {ba : Option Addr} {cb : Nat} {bk : Option Addr} {dk : Nat}
theorem SmS.below (h : SmS w G1 G2 a b aa ca ak ck ba cb bk dk W) (hb : Below W.heap.size W W') : SmS w G1 G2 a b aa ca ak ck ba cb bk dk W' := ⟨(hb.block _ (row_lt h.b1)).trans h.b1, (hb.block _ (row_lt h.b2)).trans h.b2, h.fa.below hb, h.fb.below hb, h.bel.trans (hb.mono h.bel.size)⟩
theorem SmS.start (fa : FdIs G1 w (.slice aa a.at_.length ca) (.slice ak a.ks.length ck) a.at_ a.ks) (fb : FdIs G2 w (.slice ba b.at_.length cb) (.slice bk b.ks.length dk) b.at_ b.ks) : SmS w G1 G2 a b aa ca ak ck ba cb bk dk ((w.alloc (.cells #[.int .i64 a.k.1, .int .i64 a.k.2, .string a.tg, .string a.tx, .slice aa a.at_.length ca, .slice ak a.ks.length ck] 42)).alloc (.cells #[.int .i64 b.k.1, .int .i64 b.k.2, .string b.tg, .string b.tx, .slice ba b.at_.length cb, .slice bk b.ks.length dk] 42)) := by
  have hb : Below w.heap.size w ((w.alloc (.cells #[.int .i64 a.k.1, .int .i64 a.k.2, .string a.tg, .string a.tx, .slice aa a.at_.length ca, .slice ak a.ks.length ck] 42)).alloc (.cells #[.int .i64 b.k.1, .int .i64 b.k.2, .string b.tg, .string b.tx, .slice ba b.at_.length cb, .slice bk b.ks.length dk] 42)) := ((Below.refl _ _).alloc (Nat.le_refl _) _).alloc (by simp) _
  have h2 := heap_alloc_new (w.alloc (.cells #[.int .i64 a.k.1, .int .i64 a.k.2, .string a.tg, .string a.tx, .slice aa a.at_.length ca, .slice ak a.ks.length ck] 42)) (.cells #[.int .i64 b.k.1, .int .i64 b.k.2, .string b.tg, .string b.tx, .slice ba b.at_.length cb, .slice bk b.ks.length dk] 42)
  rw [show (w.alloc (.cells #[.int .i64 a.k.1, .int .i64 a.k.2, .string a.tg, .string a.tx, .slice aa a.at_.length ca, .slice ak a.ks.length ck] 42)).heap.size = w.heap.size + 1 by simp] at h2
  exact ⟨(Below.heap_alloc _ _ _ (by simp)).trans (heap_alloc_new w _), h2, fa.below hb, fb.below hb, hb⟩
end

set_option maxRecDepth 100000 in
set_option maxHeartbeats 16000000 in
theorem refSame_n (m : Nat) : ∀ (G1 G2 : Nat → Prop) (a b : VT) (va vb : Value) (w : World), a.sz ≤ m → VIs G1 w va a → VIs G2 w vb b →
    Calls Try.prog 11 #[va, vb] w fun e w' => e = .returned (.bool (eqV a b)) ∧ Below w.heap.size w w' := by
  induction m with
  | zero => intro _ _ a _ _ _ _ h; have := a.sz_pos; omega
  | succ m ih =>
    intro G1 G2 a b va vb w hm ha hb
    obtain ⟨aa, ca, ak, ck, e1, fa⟩ := ha.form
    obtain ⟨ba, cb, bk, dk, e2, fb⟩ := hb.form
    subst e1 e2
    have HS := hide9 (SmS.start fa fb)
    have hlk := fa.ks.len
    have hll := fb.ks.len
    clear ha hb fa fb
    by_cases hk : a.k = b.k
    · have hq : ∀ w, (binOp .neq 24 (.agg #[.int .i64 a.k.1, .int .i64 a.k.2]) (.agg #[.int .i64 b.k.1, .int .i64 b.k.2])).run Try.prog w = .ok (.bool false) w := fun w => by (rw [neqSt, decide_eq_true (show (a.k.1, a.k.2) = (b.k.1, b.k.2) from hk)]; rfl)
      have Hk : Hid (a.k = b.k) := hk
      clear hk
      by_cases htg : a.tg = b.tg
      · have tgq : (a.tg.toList == b.tg.toList) = true := (by rw [txt_eq]; exact decide_eq_true htg)
        have Htg : Hid (a.tg = b.tg) := htg
        clear htg
        by_cases htx : a.tx = b.tx
        · have txq : (a.tx.toList == b.tx.toList) = true := (by rw [txt_eq]; exact decide_eq_true htx)
          have Htx : Hid (a.tx = b.tx) := htx
          clear htx
          go_enter Try.func11, Try.ntmps11
          go_wp2_with fail
          refine (sameAttrs_any G1 G2 _ _ _ _ _ HS.out.fa.at_ HS.out.fb.at_).mono ?_
          rintro e w1 ⟨rfl, hb⟩
          replace HS : Hid (SmS w G1 G2 a b aa ca ak ck ba cb bk dk w1) := HS.out.below hb
          clear hb
          by_cases hat : a.at_ = b.at_
          · have Hat : Hid (a.at_ = b.at_) := hat
            rw [decide_eq_true hat]
            clear hat
            obtain ⟨_, _, _, _, _, z1⟩ := row6 HS.out.b1
            obtain ⟨_, _, _, _, _, z2⟩ := row6 HS.out.b2
            by_cases hn : a.ks.length = b.ks.length
            · have hnq : ((a.ks.length : Int) == (b.ks.length : Int)) = true := by (simp; omega)
              obtain ⟨n, en⟩ : ∃ n, n = b.ks.length := ⟨_, rfl⟩
              have HNb : Hid (n = b.ks.length) := en
              have HNa : Hid (n = a.ks.length) := (by show _ = _; rw [hn, en])
              rw [← en] at hll
              rw [hn, ← en] at hlk
              have z5 := (row6 HS.out.b1).2.2.2.2.2
              have zn : (a.ks.length : Int) = (n : Int) := by (rw [hn, en])
              have zm : (b.ks.length : Int) = (n : Int) := by rw [en]
              clear hn en
              go_wp2
              go_loopw [5] (fun iv wr => ∃ (i : Nat), iv = .int .i64 (i : Int) ∧ i ≤ n ∧ Hid (a.ks.take i = b.ks.take i) ∧ Hid (SmS w G1 G2 a b aa ca ak ck ba cb bk dk wr)) (fun iv _ => n - (intOf iv).toNat)
              case atStart => exact ⟨0, rfl, Nat.zero_le _, rfl, HS⟩
              case round =>
                clear HS
                obtain ⟨i, rfl, hil, HT, HS⟩ := hrel
                by_cases hlt : i < n
                · have hia : i < a.ks.length := by rw [← HNa.out]; exact hlt
                  have hib : i < b.ks.length := by rw [← HNb.out]; exact hlt
                  obtain ⟨b1, o1, rfl, _, hl1, hv1⟩ := HS.out.fa.ks.kid hia
                  obtain ⟨b2, o2, rfl, _, hl2, hv2⟩ := HS.out.fb.ks.kid hib
                  have HTk0 := take_next hia hib HT.out
                  have HNe0 : a.ks[i] ≠ b.ks[i] → a ≠ b := fun h e => h (by subst e; rfl)
                  have hsz0 : a.ks[i].sz ≤ m := by have := VT.kid (t := a) hia; omega
                  obtain ⟨x, ex⟩ : ∃ x, x = a.ks[i] := ⟨_, rfl⟩
                  obtain ⟨y, ey⟩ : ∃ y, y = b.ks[i] := ⟨_, rfl⟩
                  rw [← ex] at hv1 HTk0 HNe0 hsz0
                  rw [← ey] at hv2 HTk0 HNe0
                  have Hsz : Hid (x.sz ≤ m) := hsz0
                  have HTk1 : Hid (x = y → a.ks.take (i + 1) = b.ks.take (i + 1)) := HTk0
                  have HNe1 : Hid (x ≠ y → a ≠ b) := HNe0
                  obtain ⟨xa, cx, xk, dx, p0, p1, p2, p3, p4, p5, fx⟩ := hv1.cells
                  obtain ⟨ya, cy, yk, dy, r0, r1, r2, r3, r4, r5, fy⟩ := hv2.cells
                  have HP : Hid (b1 < wr.heap.size ∧ _ ∧ _ ∧ _ ∧ _ ∧ _ ∧ _) := ⟨hl1, p0, p1, p2, p3, p4, p5⟩
                  have HR : Hid (b2 < wr.heap.size ∧ _ ∧ _ ∧ _ ∧ _ ∧ _ ∧ _) := ⟨hl2, r0, r1, r2, r3, r4, r5⟩
                  have HFx : Hid (FdIs G1 wr (.slice xa x.at_.length cx) (.slice xk x.ks.length dx) x.at_ x.ks) := fx
                  have HFy : Hid (FdIs G2 wr (.slice ya y.at_.length cy) (.slice yk y.ks.length dy) y.at_ y.ks) := fy
                  have k1 : (i : Int) < (n : Int) := by omega
                  have k0 : (0 : Int) ≤ (i : Int) := by omega
                  have HQ1 : Hid (w.heap.size < wr.heap.size ∧ wr.cell? ⟨w.heap.size, 5, none⟩ = some (.slice (some ⟨b1, o1, none⟩) n ck)) := ⟨row_lt HS.out.b1, by rw [HNa.out]; exact (row6 HS.out.b1).2.2.2.2.2⟩
                  have HQ2 : Hid (w.heap.size + 1 < wr.heap.size ∧ wr.cell? ⟨w.heap.size + 1, 5, none⟩ = some (.slice (some ⟨b2, o2, none⟩) n dk)) := ⟨row_lt HS.out.b2, by rw [HNb.out]; exact (row6 HS.out.b2).2.2.2.2.2⟩
                  have z5 := HQ1.out.2
                  clear ex ey hv1 hv2 hl1 hl2 HTk0 HNe0 hia hib hsz0 fx fy p0 p1 p2 p3 p4 p5 r0 r1 r2 r3 r4 r5
                  go_upto_region 6 with fail
                  clear z5
                  by_cases he : x = y
                  · have HE : Hid (eqV x y = true) := eqV_true he
                    have HTk : Hid (a.ks.take (i + 1) = b.ks.take (i + 1)) := HTk1.out he
                    clear he HTk1 HNe1
                    refine wp_region_held_drew (S := fun W' => Below wr.heap.size wr W') (by kernel_rfl) (Below.refl _ _).drew (fun hHeld => ?_)
                    obtain ⟨Ua1u0, eW⟩ : ∃ X, X = wr.drew := ⟨_, rfl⟩
                    have hb : Below wr.heap.size wr Ua1u0 := by rw [eW]; exact (Below.refl _ _).drew
                    replace HS : Hid (SmS w G1 G2 a b aa ca (some ⟨b1, o1, none⟩) ck ba cb (some ⟨b2, o2, none⟩) dk Ua1u0) := HS.out.below hb
                    replace HFx : Hid (FdIs G1 Ua1u0 (.slice xa x.at_.length cx) (.slice xk x.ks.length dx) x.at_ x.ks) := HFx.out.below hb
                    replace HFy : Hid (FdIs G2 Ua1u0 (.slice ya y.at_.length cy) (.slice yk y.ks.length dy) y.at_ y.ks) := HFy.out.below hb
                    rw [← eW] at hHeld ⊢
                    clear eW hb
                    refine tkW 0 (some 49) (v := ?_) ?_ hHeld ?_
                    rotate_left
                    · (intro ww _; go_simp; try with_reducible rfl)
                    refine tkW 1 (some 50) (v := ?_) ?_ hHeld ?_
                    rotate_left
                    · (intro ww hSw; (try dsimp only at hSw); have q5 : ww.cell? ⟨w.heap.size, 5, none⟩ = some (.slice (some ⟨b1, o1, none⟩) n ck) := (hSw.cell (p := ⟨w.heap.size, 5, none⟩) HQ1.out.1).trans HQ1.out.2; go_simp; try with_reducible rfl)
                    refine tkW 2 (some 51) (v := ?_) ?_ hHeld ?_
                    rotate_left
                    · (intro ww _; go_simp; try with_reducible rfl)
                    refine tkW 3 (some 52) (v := ?_) ?_ hHeld ?_
                    rotate_left
                    · (intro ww hSw; (try dsimp only at hSw); go_simp; try with_reducible rfl)
                    refine tkW 4 (some 53) (v := ?_) ?_ hHeld ?_
                    rotate_left
                    · (intro ww hSw; (try dsimp only at hSw); have p0 : ww.cell? ⟨b1, o1 + i * 6, none⟩ = some (.int .i64 x.k.1) := (hSw.cell (p := ⟨b1, o1 + i * 6, none⟩) HP.out.1).trans HP.out.2.1; have p1 : ww.cell? ⟨b1, o1 + i * 6 + 1, none⟩ = some (.int .i64 x.k.2) := (hSw.cell (p := ⟨b1, o1 + i * 6 + 1, none⟩) HP.out.1).trans HP.out.2.2.1; have p2 : ww.cell? ⟨b1, o1 + i * 6 + 2, none⟩ = some (.string x.tg) := (hSw.cell (p := ⟨b1, o1 + i * 6 + 2, none⟩) HP.out.1).trans HP.out.2.2.2.1; have p3 : ww.cell? ⟨b1, o1 + i * 6 + 3, none⟩ = some (.string x.tx) := (hSw.cell (p := ⟨b1, o1 + i * 6 + 3, none⟩) HP.out.1).trans HP.out.2.2.2.2.1; have p4 : ww.cell? ⟨b1, o1 + i * 6 + 4, none⟩ = some (.slice xa x.at_.length cx) := (hSw.cell (p := ⟨b1, o1 + i * 6 + 4, none⟩) HP.out.1).trans HP.out.2.2.2.2.2.1; have p5 : ww.cell? ⟨b1, o1 + i * 6 + 5, none⟩ = some (.slice xk x.ks.length dx) := (hSw.cell (p := ⟨b1, o1 + i * 6 + 5, none⟩) HP.out.1).trans HP.out.2.2.2.2.2.2; go_simp; try with_reducible rfl)
                    refine tkW 5 (some 54) (v := ?_) ?_ hHeld ?_
                    rotate_left
                    · (intro ww _; go_simp; try with_reducible rfl)
                    refine tkW 6 (some 55) (v := ?_) ?_ hHeld ?_
                    rotate_left
                    · (intro ww hSw; (try dsimp only at hSw); have q5 : ww.cell? ⟨(w.heap.size + 1), 5, none⟩ = some (.slice (some ⟨b2, o2, none⟩) n dk) := (hSw.cell (p := ⟨(w.heap.size + 1), 5, none⟩) HQ2.out.1).trans HQ2.out.2; go_simp; try with_reducible rfl)
                    refine tkW 7 (some 56) (v := ?_) ?_ hHeld ?_
                    rotate_left
                    · (intro ww _; go_simp; try with_reducible rfl)
                    refine tkW 8 (some 57) (v := ?_) ?_ hHeld ?_
                    rotate_left
                    · (intro ww hSw; (try dsimp only at hSw); go_simp; try with_reducible rfl)
                    refine tkW 9 (some 58) (v := ?_) ?_ hHeld ?_
                    rotate_left
                    · (intro ww hSw; (try dsimp only at hSw); have r0 : ww.cell? ⟨b2, o2 + i * 6, none⟩ = some (.int .i64 y.k.1) := (hSw.cell (p := ⟨b2, o2 + i * 6, none⟩) HR.out.1).trans HR.out.2.1; have r1 : ww.cell? ⟨b2, o2 + i * 6 + 1, none⟩ = some (.int .i64 y.k.2) := (hSw.cell (p := ⟨b2, o2 + i * 6 + 1, none⟩) HR.out.1).trans HR.out.2.2.1; have r2 : ww.cell? ⟨b2, o2 + i * 6 + 2, none⟩ = some (.string y.tg) := (hSw.cell (p := ⟨b2, o2 + i * 6 + 2, none⟩) HR.out.1).trans HR.out.2.2.2.1; have r3 : ww.cell? ⟨b2, o2 + i * 6 + 3, none⟩ = some (.string y.tx) := (hSw.cell (p := ⟨b2, o2 + i * 6 + 3, none⟩) HR.out.1).trans HR.out.2.2.2.2.1; have r4 : ww.cell? ⟨b2, o2 + i * 6 + 4, none⟩ = some (.slice ya y.at_.length cy) := (hSw.cell (p := ⟨b2, o2 + i * 6 + 4, none⟩) HR.out.1).trans HR.out.2.2.2.2.2.1; have r5 : ww.cell? ⟨b2, o2 + i * 6 + 5, none⟩ = some (.slice yk y.ks.length dy) := (hSw.cell (p := ⟨b2, o2 + i * 6 + 5, none⟩) HR.out.1).trans HR.out.2.2.2.2.2.2; go_simp; try with_reducible rfl)
                    refine wpAnyH_ready (rs := [10]) (by kernel_rfl) (by simp) ?_
                    refine AllReadyH.cons (o := ⟨some 59, _, _, _, _, _⟩) rfl (fun K hK => ?_) AllReadyH.nil
                    go_simp
                    refine (ih G1 G2 x y _ _ _ Hsz.out (VIs.of HFx.out) (VIs.of HFy.out)).mono ?_
                    rintro e Ua1u1 ⟨rfl, hb⟩
                    rw [HE.out]
                    (try go_wp2_with fail)
                    refine hK.out _ _ (hHeld.trans (hb.mono hHeld.size)) (fun hHeld2 => ?_)
                    clear hK K hHeld
                    have hHeld := hHeld2
                    clear hHeld2
                    (try simp only [Act.put, List.setIfInBounds_toArray, List.set_cons_zero, List.set_cons_succ])
                    replace HS : Hid (SmS w G1 G2 a b aa ca (some ⟨b1, o1, none⟩) ck ba cb (some ⟨b2, o2, none⟩) dk Ua1u1) := HS.out.below hb
                    replace HFx : Hid (FdIs G1 Ua1u1 (.slice xa x.at_.length cx) (.slice xk x.ks.length dx) x.at_ x.ks) := HFx.out.below hb
                    replace HFy : Hid (FdIs G2 Ua1u1 (.slice ya y.at_.length cy) (.slice yk y.ks.length dy) y.at_ y.ks) := HFy.out.below hb
                    clear hb
                    refine tkW 11 (some 60) (v := ?_) ?_ hHeld ?_
                    rotate_left
                    · (intro ww _; go_simp; try with_reducible rfl)
                    refine wpAnyH_done (by kernel_rfl) ?_ _
                    clear hHeld
                    have n1 : IntKind.i64.wrap ((i : Int) + 1) = (i : Int) + 1 := by rw [IntKind.wrap_i64]; omega
                    obtain ⟨_, _, _, _, _, z5⟩ := row6 HS.out.b1
                    go_wp2
                    go_roundw
                    case rel => exact ⟨i + 1, by go_num, by omega, HTk, HS⟩
                    case measure => simp [intOf]; omega
                  · have HE : Hid (eqV x y = false) := eqV_false he
                    have HNe : Hid (eqV a b = false) := eqV_false (HNe1.out he)
                    clear he HTk1 HNe1
                    refine wp_region_held_drew (S := fun W' => Below wr.heap.size wr W') (by kernel_rfl) (Below.refl _ _).drew (fun hHeld => ?_)
                    obtain ⟨Ub2u0, eW⟩ : ∃ X, X = wr.drew := ⟨_, rfl⟩
                    have hb : Below wr.heap.size wr Ub2u0 := by rw [eW]; exact (Below.refl _ _).drew
                    replace HS : Hid (SmS w G1 G2 a b aa ca (some ⟨b1, o1, none⟩) ck ba cb (some ⟨b2, o2, none⟩) dk Ub2u0) := HS.out.below hb
                    replace HFx : Hid (FdIs G1 Ub2u0 (.slice xa x.at_.length cx) (.slice xk x.ks.length dx) x.at_ x.ks) := HFx.out.below hb
                    replace HFy : Hid (FdIs G2 Ub2u0 (.slice ya y.at_.length cy) (.slice yk y.ks.length dy) y.at_ y.ks) := HFy.out.below hb
                    rw [← eW] at hHeld ⊢
                    clear eW hb
                    refine tkW 0 (some 49) (v := ?_) ?_ hHeld ?_
                    rotate_left
                    · (intro ww _; go_simp; try with_reducible rfl)
                    refine tkW 1 (some 50) (v := ?_) ?_ hHeld ?_
                    rotate_left
                    · (intro ww hSw; (try dsimp only at hSw); have q5 : ww.cell? ⟨w.heap.size, 5, none⟩ = some (.slice (some ⟨b1, o1, none⟩) n ck) := (hSw.cell (p := ⟨w.heap.size, 5, none⟩) HQ1.out.1).trans HQ1.out.2; go_simp; try with_reducible rfl)
                    refine tkW 2 (some 51) (v := ?_) ?_ hHeld ?_
                    rotate_left
                    · (intro ww _; go_simp; try with_reducible rfl)
                    refine tkW 3 (some 52) (v := ?_) ?_ hHeld ?_
                    rotate_left
                    · (intro ww hSw; (try dsimp only at hSw); go_simp; try with_reducible rfl)
                    refine tkW 4 (some 53) (v := ?_) ?_ hHeld ?_
                    rotate_left
                    · (intro ww hSw; (try dsimp only at hSw); have p0 : ww.cell? ⟨b1, o1 + i * 6, none⟩ = some (.int .i64 x.k.1) := (hSw.cell (p := ⟨b1, o1 + i * 6, none⟩) HP.out.1).trans HP.out.2.1; have p1 : ww.cell? ⟨b1, o1 + i * 6 + 1, none⟩ = some (.int .i64 x.k.2) := (hSw.cell (p := ⟨b1, o1 + i * 6 + 1, none⟩) HP.out.1).trans HP.out.2.2.1; have p2 : ww.cell? ⟨b1, o1 + i * 6 + 2, none⟩ = some (.string x.tg) := (hSw.cell (p := ⟨b1, o1 + i * 6 + 2, none⟩) HP.out.1).trans HP.out.2.2.2.1; have p3 : ww.cell? ⟨b1, o1 + i * 6 + 3, none⟩ = some (.string x.tx) := (hSw.cell (p := ⟨b1, o1 + i * 6 + 3, none⟩) HP.out.1).trans HP.out.2.2.2.2.1; have p4 : ww.cell? ⟨b1, o1 + i * 6 + 4, none⟩ = some (.slice xa x.at_.length cx) := (hSw.cell (p := ⟨b1, o1 + i * 6 + 4, none⟩) HP.out.1).trans HP.out.2.2.2.2.2.1; have p5 : ww.cell? ⟨b1, o1 + i * 6 + 5, none⟩ = some (.slice xk x.ks.length dx) := (hSw.cell (p := ⟨b1, o1 + i * 6 + 5, none⟩) HP.out.1).trans HP.out.2.2.2.2.2.2; go_simp; try with_reducible rfl)
                    refine tkW 5 (some 54) (v := ?_) ?_ hHeld ?_
                    rotate_left
                    · (intro ww _; go_simp; try with_reducible rfl)
                    refine tkW 6 (some 55) (v := ?_) ?_ hHeld ?_
                    rotate_left
                    · (intro ww hSw; (try dsimp only at hSw); have q5 : ww.cell? ⟨(w.heap.size + 1), 5, none⟩ = some (.slice (some ⟨b2, o2, none⟩) n dk) := (hSw.cell (p := ⟨(w.heap.size + 1), 5, none⟩) HQ2.out.1).trans HQ2.out.2; go_simp; try with_reducible rfl)
                    refine tkW 7 (some 56) (v := ?_) ?_ hHeld ?_
                    rotate_left
                    · (intro ww _; go_simp; try with_reducible rfl)
                    refine tkW 8 (some 57) (v := ?_) ?_ hHeld ?_
                    rotate_left
                    · (intro ww hSw; (try dsimp only at hSw); go_simp; try with_reducible rfl)
                    refine tkW 9 (some 58) (v := ?_) ?_ hHeld ?_
                    rotate_left
                    · (intro ww hSw; (try dsimp only at hSw); have r0 : ww.cell? ⟨b2, o2 + i * 6, none⟩ = some (.int .i64 y.k.1) := (hSw.cell (p := ⟨b2, o2 + i * 6, none⟩) HR.out.1).trans HR.out.2.1; have r1 : ww.cell? ⟨b2, o2 + i * 6 + 1, none⟩ = some (.int .i64 y.k.2) := (hSw.cell (p := ⟨b2, o2 + i * 6 + 1, none⟩) HR.out.1).trans HR.out.2.2.1; have r2 : ww.cell? ⟨b2, o2 + i * 6 + 2, none⟩ = some (.string y.tg) := (hSw.cell (p := ⟨b2, o2 + i * 6 + 2, none⟩) HR.out.1).trans HR.out.2.2.2.1; have r3 : ww.cell? ⟨b2, o2 + i * 6 + 3, none⟩ = some (.string y.tx) := (hSw.cell (p := ⟨b2, o2 + i * 6 + 3, none⟩) HR.out.1).trans HR.out.2.2.2.2.1; have r4 : ww.cell? ⟨b2, o2 + i * 6 + 4, none⟩ = some (.slice ya y.at_.length cy) := (hSw.cell (p := ⟨b2, o2 + i * 6 + 4, none⟩) HR.out.1).trans HR.out.2.2.2.2.2.1; have r5 : ww.cell? ⟨b2, o2 + i * 6 + 5, none⟩ = some (.slice yk y.ks.length dy) := (hSw.cell (p := ⟨b2, o2 + i * 6 + 5, none⟩) HR.out.1).trans HR.out.2.2.2.2.2.2; go_simp; try with_reducible rfl)
                    refine wpAnyH_ready (rs := [10]) (by kernel_rfl) (by simp) ?_
                    refine AllReadyH.cons (o := ⟨some 59, _, _, _, _, _⟩) rfl (fun K hK => ?_) AllReadyH.nil
                    go_simp
                    refine (ih G1 G2 x y _ _ _ Hsz.out (VIs.of HFx.out) (VIs.of HFy.out)).mono ?_
                    rintro e Ub2u1 ⟨rfl, hb⟩
                    rw [HE.out]
                    (try go_wp2_with fail)
                    refine hK.out _ _ (hHeld.trans (hb.mono hHeld.size)) (fun hHeld2 => ?_)
                    clear hK K hHeld
                    have hHeld := hHeld2
                    clear hHeld2
                    (try simp only [Act.put, List.setIfInBounds_toArray, List.set_cons_zero, List.set_cons_succ])
                    replace HS : Hid (SmS w G1 G2 a b aa ca (some ⟨b1, o1, none⟩) ck ba cb (some ⟨b2, o2, none⟩) dk Ub2u1) := HS.out.below hb
                    replace HFx : Hid (FdIs G1 Ub2u1 (.slice xa x.at_.length cx) (.slice xk x.ks.length dx) x.at_ x.ks) := HFx.out.below hb
                    replace HFy : Hid (FdIs G2 Ub2u1 (.slice ya y.at_.length cy) (.slice yk y.ks.length dy) y.at_ y.ks) := HFy.out.below hb
                    clear hb
                    refine tkW 11 (some 60) (v := ?_) ?_ hHeld ?_
                    rotate_left
                    · (intro ww _; go_simp; try with_reducible rfl)
                    refine wpAnyH_done (by kernel_rfl) ?_ _
                    clear hHeld
                    go_wp2
                    go_ret
                    exact ⟨ret_bool (by rw [HNe.out]), HS.out.bel⟩
                · have HI : Hid (eqV a b = true) := (by have h1 := HT.out; have h2 := HNa.out; have h3 := HNb.out; rw [List.take_of_length_le (by omega), List.take_of_length_le (by omega)] at h1; exact eqV_true (VT.ext Hk.out Htg.out Htx.out Hat.out h1))
                  have z5 := (row6 HS.out.b1).2.2.2.2.2
                  rw [← HNa.out] at z5
                  go_wp2
                  go_ret
                  exact ⟨ret_bool (by rw [HI.out]), HS.out.bel⟩
            · have hnq : ((a.ks.length : Int) == (b.ks.length : Int)) = false := by (simp; omega)
              have HNe : Hid (eqV a b = false) := eqV_false fun e => hn (by rw [e])
              clear hn
              go_wp2
              go_ret
              exact ⟨ret_bool (by rw [HNe.out]), HS.out.bel⟩
          · have HNe : Hid (eqV a b = false) := eqV_false fun e => hat (by rw [e])
            rw [decide_eq_false hat]
            clear hat
            go_wp2
            go_ret
            exact ⟨ret_bool (by rw [HNe.out]), HS.out.bel⟩
        · have txq : (a.tx.toList == b.tx.toList) = false := (by rw [txt_eq]; exact decide_eq_false htx)
          have Htx : Hid (a.tx ≠ b.tx) := htx
          clear htx
          have HNe : Hid (eqV a b = false) := eqV_false fun e => Htx.out (by rw [e])
          go_enter Try.func11, Try.ntmps11
          go_wp2
          go_ret
          exact ⟨ret_bool (by rw [HNe.out]), HS.out.bel⟩
      · have tgq : (a.tg.toList == b.tg.toList) = false := (by rw [txt_eq]; exact decide_eq_false htg)
        have Htg : Hid (a.tg ≠ b.tg) := htg
        clear htg
        have HNe : Hid (eqV a b = false) := eqV_false fun e => Htg.out (by rw [e])
        go_enter Try.func11, Try.ntmps11
        go_wp2
        go_ret
        exact ⟨ret_bool (by rw [HNe.out]), HS.out.bel⟩
    · have hq : ∀ w, (binOp .neq 24 (.agg #[.int .i64 a.k.1, .int .i64 a.k.2]) (.agg #[.int .i64 b.k.1, .int .i64 b.k.2])).run Try.prog w = .ok (.bool true) w := fun w => by (rw [neqSt, decide_eq_false (show ¬ (a.k.1, a.k.2) = (b.k.1, b.k.2) from hk)]; rfl)
      have Hk : Hid (a.k ≠ b.k) := hk
      clear hk
      have HNe : Hid (eqV a b = false) := eqV_false fun e => Hk.out (by rw [e])
      go_enter Try.func11, Try.ntmps11
      go_wp2
      go_ret
      exact ⟨ret_bool (by rw [HNe.out]), HS.out.bel⟩

end Go.Proofs.Ytljmlbidbacdjab
