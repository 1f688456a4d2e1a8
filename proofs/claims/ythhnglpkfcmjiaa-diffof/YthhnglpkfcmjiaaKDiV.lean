/- write: the steps by which a node gets its tag, text and attributes. -/
import Derived.Test.YthhnglpkfcmjiaaKDiZ
import Derived.Test.YthhnglpkfcmjiaaKDiX
import Derived.Deep.CutRange
namespace Go.Proofs.Ythhnglpkfcmjiaa
open Go.RowKit Go.Shelf
set_option linter.unusedVariables false
set_option linter.unusedSimpArgs false
attribute [local go_sem] Oper.semAt_some
def pTg (k : St) (x : ByteArray) : Pa := ⟨6, k, (0, 0), (0, 0), x, ⟨#[]⟩⟩
def pTx (k : St) (x : ByteArray) : Pa := ⟨7, k, (0, 0), (0, 0), ⟨#[]⟩, x⟩
/-- What a node is ahead of its own steps. -/
def oldD (D : List Sd) (n : VT) : VT := match getP skU D n.k with
  | none => .node (0, 0) n.tg ⟨#[]⟩ [] []
  | some y => y.t
def tgR (D : List Sd) (n : VT) : List Pa := if n.tg = (oldD D n).tg then [] else [pTg n.k n.tg]
def txR (D : List Sd) (n : VT) : List Pa := if n.tx = (oldD D n).tx then [] else [pTx n.k n.tx]
/-- A node's own steps. -/
def wrL (D : List Sd) (n : VT) : List Pa := (tgR D n ++ txR D n) ++ wrA n.k (oldD D n).at_ n.at_
theorem tgR_len (D : List Sd) (n : VT) : (tgR D n).length ≤ 1 := by unfold tgR; split <;> simp
theorem txR_len (D : List Sd) (n : VT) : (txR D n).length ≤ 1 := by unfold txR; split <;> simp
/-- What stands while a node's own steps are told: the old node in its box, the row of steps. -/
structure WrS (w : World) (bo : Nat) (oc : VT) (c0 c1 ov okv v : Value) (R : List Pa) (W : World) : Prop where
  box : W.heap[bo]? = some (.cells #[c0, c1, .string oc.tg, .string oc.tx, ov, okv] 27)
  at_ : LsE atCells 2 (fun k => k < w.heap.size) W ov oc.at_
  ow : OwnPa w.heap.size W v R
  bel : Below w.heap.size w W
section
variable {w W W' : World} {bo : Nat} {oc : VT} {c0 c1 ov okv v v' : Value} {R R' : List Pa}
theorem WrS.below (h : WrS w bo oc c0 c1 ov okv v (R) W) (hb : Below W.heap.size W W') : WrS w bo oc c0 c1 ov okv v (R) W' := ⟨(hb.block _ (row_lt h.box)).trans h.box, h.at_.below hb, OwnE.below h.ow hb, h.bel.trans (hb.mono h.bel.size)⟩
theorem WrS.ne (h : WrS w bo oc c0 c1 ov okv v (R) W) : ¬ some bo = v.ownBlock := fun e => by
  obtain ⟨c2, h2⟩ := own_cellsE h.ow e.symm
  rw [h.box] at h2
  injection h2 with h2
  injection h2 with _ h3 _
  exact absurd h3 (by decide)
theorem WrS.push (h : WrS w bo oc c0 c1 ov okv v (R) W) (hg : W.grownBy W' v.ownBlock) (ho : OwnPa w.heap.size W' v' R') : WrS w bo oc c0 c1 ov okv v' (R') W' := by
  have hF : ∀ k, v.ownBlock = some k → w.heap.size ≤ k := fun k e => (OwnE.lt h.ow k e).1
  exact ⟨(hg.block _ (row_lt h.box) h.ne).trans h.box, h.at_.turn hg.size fun k q _ => ⟨q, hg.block k (Nat.lt_of_lt_of_le q h.bel.size) (fun e => by have := hF k e.symm; omega)⟩, ho, h.bel.grown hg h.bel.size hF⟩
end
set_option maxRecDepth 100000 in
set_option maxHeartbeats 8000000 in
theorem write_any (G : Nat → Prop) (D : List Sd) (mb nb no : Nat) (t : VT) (w : World) (hm : MpS w mb D) (hD : ∀ x ∈ D, VAt G w x.t x.b x.o ∧ x.t.at_.length ≤ 524288) (hv : VAt G w t nb no) (hl : t.at_.length ≤ 524288) :
    Calls Try.prog 32 #[.map (some mb), .pointer (some ⟨nb, no, none⟩)] w fun e w' => ∃ v, e = .returned v ∧ OwnPa w.heap.size w' v (wrL D t) ∧ Below w.heap.size w w' := by
  obtain ⟨aa, ca, ak, ck, n0, n1, n2, n3, n4, _, f0⟩ := hv.cells
  have HA : Hid (LsE atCells 2 (fun k => k < w.heap.size) w (.slice aa t.at_.length ca) t.at_) := f0.at_.turn (Nat.le_refl _) fun k _ q => ⟨q, rfl⟩
  have Hn : Hid (nb < w.heap.size) := cell_lt (p := ⟨nb, no, none⟩) n0
  have Hn0 : Hid (w.cell? ⟨nb, no + 0, none⟩ = some (.int .i64 t.k.1)) := n0
  have Hn1 : Hid (w.cell? ⟨nb, no + 1, none⟩ = some (.int .i64 t.k.2)) := n1
  have Hn2 : Hid (w.cell? ⟨nb, no + 2, none⟩ = some (.string t.tg)) := n2
  have Hn3 : Hid (w.cell? ⟨nb, no + 3, none⟩ = some (.string t.tx)) := n3
  have Hn4 : Hid (w.cell? ⟨nb, no + 4, none⟩ = some (.slice aa t.at_.length ca)) := n4
  have Hm := hide9 hm
  have Hl := hide9 hl
  have HD := hide9 hD
  clear f0 hv hm hl hD
  go_enter Try.func32, Try.ntmps32
  have Hz : Hid ((w.alloc (.cells #[.int .i64 0, .int .i64 0, .string ⟨#[]⟩, .string ⟨#[]⟩, .slice none 0 0, .slice none 0 0] 27)).heap[w.heap.size]? = some (.cells #[.int .i64 0, .int .i64 0, .string ⟨#[]⟩, .string ⟨#[]⟩, .slice none 0 0, .slice none 0 0] 27)) := heap_alloc_new _ _
  obtain ⟨W1, eW⟩ : ∃ X, X = (w.alloc (.cells #[.int .i64 0, .int .i64 0, .string ⟨#[]⟩, .string ⟨#[]⟩, .slice none 0 0, .slice none 0 0] 27)).setRow w.heap.size #[.int .i64 0, .int .i64 0, .string t.tg, .string ⟨#[]⟩, .slice none 0 0, .slice none 0 0] := ⟨_, rfl⟩
  have hb9 : Below w.heap.size w W1 := (by rw [eW]; exact ((Below.refl _ _).alloc (Nat.le_refl _) _).grown (grown_setRow _ _ _) (by simp) (fun k e => by cases e; exact Nat.le_refl _))
  obtain ⟨bo, enb⟩ : ∃ b, b = w.heap.size := ⟨_, rfl⟩
  have Hbo : Hid (W1.heap[bo]? = some (.cells #[.int .i64 0, .int .i64 0, .string t.tg, .string ⟨#[]⟩, .slice none 0 0, .slice none 0 0] 27)) := (by show _ = _; rw [eW, enb]; exact setRow_same Hz.out)
  have HE9 := hide9 (And.intro eW enb)
  clear eW enb
  have HS : Hid (WrS w bo (.node (0, 0) t.tg ⟨#[]⟩ [] []) (.int .i64 0) (.int .i64 0) (.slice none 0 0) (.slice none 0 0) (.slice none 0 0) [] W1) := ⟨Hbo.out, LsE.nil _ _ _, OwnE.nil0 _ _, hb9⟩
  have Hbz : Hid (w.heap.size ≤ bo) := (by show _ ≤ _; rw [HE9.out.2]; exact Nat.le_refl _)
  clear hb9 Hbo
  go_wp2_with (refine wpList_store_row rfl 27 (.tmp 5) (.tmp 13) rfl w.heap.size 27 #[.int .i64 0, .int .i64 0, .string ⟨#[]⟩, .string ⟨#[]⟩, .slice none 0 0, .slice none 0 0] #[.int .i64 0, .int .i64 0, .string t.tg, .string ⟨#[]⟩, .slice none 0 0, .slice none 0 0] rfl rfl Hz.out sizeVy rfl (by simp [Value.oneCell']) ?_; refine StpD.to ?_)
  refine StpD.of ?_
  rw [← HE9.out.1, ← HE9.out.2]
  clear HE9 Hz
  clear n0 n1 n2 n3 n4
  obtain ⟨lv, lb, hlk, hbb⟩ := look_sd2 Hm.out t.k
  have Hbb := hide9 hbb
  clear hbb
  have hlk1 := hlk W1 (HS.out.bel.block mb Hm.out.lt)
  clear hlk
  have m0 := (HS.out.bel.cell (p := ⟨nb, no, none⟩) Hn.out).trans Hn0.out
  have m1 := (HS.out.bel.cell (p := ⟨nb, no + 1, none⟩) Hn.out).trans Hn1.out
  obtain ⟨CC, eCC⟩ : ∃ c : Array Value, c = (if lb then #[.pointer (some ⟨lv.b, lv.o, none⟩), .int .i64 lv.a.1, .int .i64 lv.a.2, .int .i64 (lv.i : Int)] else #[.pointer none, .int .i64 0, .int .i64 0, .int .i64 0]) := ⟨_, rfl⟩
  rw [← eCC] at hlk1
  have hC4 : CC.size = 4 := (by rw [eCC]; cases lb <;> rfl)
  have hC1 : CC.all (·.oneCell') = true := (by rw [eCC]; cases lb <;> simp [Value.oneCell'])
  have HCC := hide9 eCC
  clear eCC
  have Hz : Hid ((W1.alloc (.cells #[.pointer none, .int .i64 0, .int .i64 0, .int .i64 0] 64)).heap[W1.heap.size]? = some (.cells #[.pointer none, .int .i64 0, .int .i64 0, .int .i64 0] 64)) := heap_alloc_new _ _
  obtain ⟨W2, eW⟩ : ∃ X, X = (W1.alloc (.cells #[.pointer none, .int .i64 0, .int .i64 0, .int .i64 0] 64)).setRow W1.heap.size CC := ⟨_, rfl⟩
  have hb9 : Below W1.heap.size W1 W2 := (by rw [eW]; exact ((Below.refl _ _).alloc (Nat.le_refl _) _).grown (grown_setRow _ _ _) (by simp) (fun k e => by cases e; exact Nat.le_refl _))
  obtain ⟨pb, enb⟩ : ∃ b, b = W1.heap.size := ⟨_, rfl⟩
  have Hpb : Hid (W2.heap[pb]? = some (.cells CC 64)) := (by show _ = _; rw [eW, enb]; exact setRow_same Hz.out)
  have HE9 := hide9 (And.intro eW enb)
  clear eW enb
  replace HS := hide9 (HS.out.below hb9)
  have HE8 := HE9
  clear hb9 HE9
  go_wp2_with (refine wpList_store_row rfl 64 (.tmp 6) (.tmp 21) rfl W1.heap.size 64 #[.pointer none, .int .i64 0, .int .i64 0, .int .i64 0] CC rfl rfl Hz.out (by rw [hC4]; exact sizeSp) (by rw [hC4]; rfl) hC1 ?_; refine StpD.to ?_)
  refine StpD.of ?_
  rw [← HE8.out.1, ← HE8.out.2]
  clear HE8 Hz
  clear m0 m1 hlk1 hC4 hC1
  go_upto_if 23 with fail
  go_cut [5] from 9 (fun v W => v = .pointer (some ⟨bo, 0, none⟩) ∧ ∃ c0 c1 ov okv, Hid (WrS w bo (oldD D t) c0 c1 ov okv (.slice none 0 0) [] W))
  case first =>
    cases lb with
    | false =>
      have hoc : oldD D t = .node (0, 0) t.tg ⟨#[]⟩ [] [] := (by unfold oldD; rw [Hbb.out]; rfl)
      have HS9 : Hid (∃ c0 c1 ov okv, Hid (WrS w bo (oldD D t) c0 c1 ov okv (.slice none 0 0) [] W2)) := ⟨_, _, _, _, by rw [hoc]; exact HS⟩
      clear hoc HS
      go_wp2
      go_meet
      case rel => exact ⟨rfl, HS9.out⟩
    | true =>
      have hoc : oldD D t = lv.t := (by unfold oldD; rw [Hbb.out]; rfl)
      have hmem : lv ∈ D := (getP_key (Hbb.out.trans rfl)).1
      obtain ⟨xa, cx, xk, dx, p0, p1, p2, p3, p4, p5, fx⟩ := (HD.out lv hmem).1.cells
      have hlx := cell_lt (p := ⟨lv.b, lv.o, none⟩) p0
      have q0 := (HS.out.bel.cell (p := ⟨lv.b, lv.o, none⟩) hlx).trans p0
      have q1 := (HS.out.bel.cell (p := ⟨lv.b, lv.o + 1, none⟩) hlx).trans p1
      have q2 := (HS.out.bel.cell (p := ⟨lv.b, lv.o + 2, none⟩) hlx).trans p2
      have q3 := (HS.out.bel.cell (p := ⟨lv.b, lv.o + 3, none⟩) hlx).trans p3
      have q4 := (HS.out.bel.cell (p := ⟨lv.b, lv.o + 4, none⟩) hlx).trans p4
      have q5 := (HS.out.bel.cell (p := ⟨lv.b, lv.o + 5, none⟩) hlx).trans p5
      obtain ⟨z0, z1, z2, z3⟩ := row4 (show W2.heap[pb]? = some (.cells #[.pointer (some ⟨lv.b, lv.o, none⟩), .int .i64 lv.a.1, .int .i64 lv.a.2, .int .i64 (lv.i : Int)] 64) from by rw [Hpb.out, HCC.out]; rfl)
      obtain ⟨W3, eW3⟩ : ∃ X, X = W2.setRow bo #[.int .i64 lv.t.k.1, .int .i64 lv.t.k.2, .string lv.t.tg, .string lv.t.tx, .slice xa lv.t.at_.length cx, .slice xk lv.t.ks.length dx] := ⟨_, rfl⟩
      have hg := grown_setRow W2 bo #[.int .i64 lv.t.k.1, .int .i64 lv.t.k.2, .string lv.t.tg, .string lv.t.tx, .slice xa lv.t.at_.length cx, .slice xk lv.t.ks.length dx]
      rw [← eW3] at hg
      have HE7 := hide9 eW3
      have hFb : w.heap.size ≤ bo := Hbz.out
      have HS9 : Hid (∃ c0 c1 ov okv, Hid (WrS w bo (oldD D t) c0 c1 ov okv (.slice none 0 0) [] W3)) := ⟨_, _, _, _, (by rw [hoc]; exact ⟨by rw [eW3]; exact setRow_same HS.out.box, (fx.at_.turn (G' := fun k => k < w.heap.size) (Nat.le_trans HS.out.bel.size hg.size) fun k q l => ⟨l, (hg.block k (Nat.lt_of_lt_of_le l HS.out.bel.size) (fun e => by injection e with e; omega)).trans (HS.out.bel.block k l)⟩), OwnE.nil0 _ _, HS.out.bel.grown hg HS.out.bel.size (fun k e => by cases e; exact hFb)⟩)⟩
      have HB9 := hide9 HS.out.box
      clear hoc hmem hlx p0 p1 p2 p3 p4 p5 fx eW3 hg hFb HS
      go_wp2_with (refine wpList_store_row rfl 27 (.tmp 5) (.tmp 27) rfl bo 27 _ #[.int .i64 lv.t.k.1, .int .i64 lv.t.k.2, .string lv.t.tg, .string lv.t.tx, .slice xa lv.t.at_.length cx, .slice xk lv.t.ks.length dx] rfl rfl HB9.out sizeVy rfl (by simp [Value.oneCell']) ?_; refine StpD.to ?_)
      refine StpD.of ?_
      rw [← HE7.out]
      clear HE7 HB9 z0 z1 z2 z3 q0 q1 q2 q3 q4 q5
      go_wp2
      go_meet
      case rel => exact ⟨rfl, HS9.out⟩
  case rest =>
    obtain ⟨rfl, c0, c1, ov, okv, HS⟩ := hcut
    clear Hpb Hbb HCC
    obtain ⟨oc, eoc⟩ : ∃ x, x = oldD D t := ⟨_, rfl⟩
    rw [← eoc] at HS
    have Hoc : Hid (oldD D t = oc) := eoc.symm
    have Hol : Hid (oc.at_.length ≤ 524288) := (by show _ ≤ _; rw [eoc]; unfold oldD; cases h9 : getP skU D t.k with | none => exact Nat.zero_le _ | some y => exact (HD.out y (getP_key h9).1).2)
    clear eoc HD
    obtain ⟨oa, oq, eo⟩ := HS.out.at_.form
    subst eo
    have Hll : Hid (([] : List Pa).length ≤ 4) := Nat.zero_le _
    obtain ⟨eq9, eeq⟩ : ∃ b, b = decide (t.tg = oc.tg) := ⟨_, rfl⟩
    have Heq : Hid (decide (t.tg = oc.tg) = eq9) := eeq.symm
    clear eeq
    go_upto_region 6 with fail
    have HS0 : Hid (WrS w bo oc c0 c1 (.slice oa oc.at_.length oq) okv (.slice none 0 0) (([] : List Pa)) wc) := HS
    have HKl : Hid (∀ (j : Nat) (u : Value), w.cell? ⟨nb, no + j, none⟩ = some u → wc.cell? ⟨nb, no + j, none⟩ = some u) := (fun j u h => (HS.out.bel.cell (p := ⟨nb, no + j, none⟩) Hn.out).trans h)
    refine wp_region_held_drew (S := fun W' => KeepsS (fun j => j < w.heap.size ∨ j = bo) wc W') (by kernel_rfl) (KeepsS.of_below (Below.refl wc.heap.size wc).drew (fun j q => by rcases q with q | rfl; exact Nat.lt_of_lt_of_le q HS0.out.bel.size; exact row_lt HS0.out.box)) (fun hHeld => ?_)
    obtain ⟨Uf4u0, eW⟩ : ∃ X, X = wc.drew := ⟨_, rfl⟩
    have hb : Below wc.heap.size wc Uf4u0 := by rw [eW]; exact (Below.refl _ _).drew
    replace HS : Hid (WrS w bo oc c0 c1 (.slice oa oc.at_.length oq) okv (.slice none 0 0) (([] : List Pa)) Uf4u0) := HS.out.below hb
    rw [← eW] at hHeld ⊢
    clear eW hb
    refine tkW 0 (some 28) (v := ?_) ?_ hHeld ?_
    rotate_left
    · (intro ww _; go_simp; try with_reducible rfl)
    refine tkW 1 (some 29) (v := ?_) ?_ hHeld ?_
    rotate_left
    · (intro ww hSw; (try dsimp only at hSw); go_simp; try with_reducible rfl)
    refine tkW 2 (some 30) (v := ?_) ?_ hHeld ?_
    rotate_left
    · (intro ww _; go_simp; try with_reducible rfl)
    refine tkW 3 (some 31) (v := ?_) ?_ hHeld ?_
    rotate_left
    · (intro ww hSw; (try dsimp only at hSw); have q2 := (hSw.cell (p := ⟨nb, no + 2, none⟩) (.inl Hn.out)).trans (HKl.out 2 _ Hn2.out); go_simp; try with_reducible rfl)
    refine tkW 4 (some 32) (v := ?_) ?_ hHeld ?_
    rotate_left
    · (intro ww _; go_simp; try with_reducible rfl)
    refine tkW 5 (some 33) (v := ?_) ?_ hHeld ?_
    rotate_left
    · (intro ww hSw; (try dsimp only at hSw); obtain ⟨y0, y1, y2, y3, y4, y5⟩ := row6d ((hSw.2 bo (.inr rfl)).trans HS0.out.box); go_simp; try with_reducible rfl)
    refine tkW 6 (some 34) (v := .bool (!eq9)) ?_ hHeld ?_
    · (intro ww hSw; (try dsimp only at hSw); have hT9 := txtD t.tg oc.tg; rw [Heq.out] at hT9; go_simp; first | done | simpa using hT9 | simp [hT9])
    refine wpAnyH_done (by kernel_rfl) ?_ _
    clear hHeld HS0 HKl
    go_upto_if 34 with fail
    go_cut [8] from 28 (fun v W => ∃ (R : List Pa) (aR : Option Addr) (cR : Nat), v = .slice aR R.length cR ∧ Hid (R = tgR D t) ∧ Hid (WrS w bo oc c0 c1 (.slice oa oc.at_.length oq) okv (.slice aR R.length cR) R W))
    case first =>
      cases eq9 with
      | true =>
        go_wp2
        go_meet
        case rel => exact ⟨([] : List Pa), _, _, rfl, hide9 (by unfold tgR; rw [Hoc.out, if_pos (of_decide_eq_true Heq.out)]; (try simp)), HS⟩
      | false =>
        go_upto_region 7 with fail
        have HS0 : Hid (WrS w bo oc c0 c1 (.slice oa oc.at_.length oq) okv (.slice none 0 0) (([] : List Pa)) Uf4u0) := HS
        have HKl : Hid (∀ (j : Nat) (u : Value), w.cell? ⟨nb, no + j, none⟩ = some u → Uf4u0.cell? ⟨nb, no + j, none⟩ = some u) := (fun j u h => (HS.out.bel.cell (p := ⟨nb, no + j, none⟩) Hn.out).trans h)
        refine wp_region_held_drew (S := fun W' => KeepsS (fun j => j < w.heap.size ∨ j = bo) Uf4u0 W') (by kernel_rfl) (KeepsS.of_below (Below.refl Uf4u0.heap.size Uf4u0).drew (fun j q => by rcases q with q | rfl; exact Nat.lt_of_lt_of_le q HS0.out.bel.size; exact row_lt HS0.out.box)) (fun hHeld => ?_)
        obtain ⟨Ufa5u0, eW⟩ : ∃ X, X = Uf4u0.drew := ⟨_, rfl⟩
        have hb : Below Uf4u0.heap.size Uf4u0 Ufa5u0 := by rw [eW]; exact (Below.refl _ _).drew
        replace HS : Hid (WrS w bo oc c0 c1 (.slice oa oc.at_.length oq) okv (.slice none 0 0) (([] : List Pa)) Ufa5u0) := HS.out.below hb
        rw [← eW] at hHeld ⊢
        clear eW hb
        refine tkW 0 (some 35) (v := ?_) ?_ hHeld ?_
        rotate_left
        · (intro ww _; go_simp; try with_reducible rfl)
        refine tkW 1 (some 36) (v := ?_) ?_ hHeld ?_
        rotate_left
        · (intro ww _; go_simp; try with_reducible rfl)
        refine tkW 2 (some 37) (v := ?_) ?_ hHeld ?_
        rotate_left
        · (intro ww hSw; (try dsimp only at hSw); go_simp; try with_reducible rfl)
        refine tkW 3 (some 38) (v := ?_) ?_ hHeld ?_
        rotate_left
        · (intro ww _; go_simp; try with_reducible rfl)
        refine tkW 4 (some 39) (v := ?_) ?_ hHeld ?_
        rotate_left
        · (intro ww hSw; (try dsimp only at hSw); have q0 := (hSw.cell (p := ⟨nb, no, none⟩) (.inl Hn.out)).trans (HKl.out 0 _ Hn0.out); have q1 := (hSw.cell (p := ⟨nb, no + 1, none⟩) (.inl Hn.out)).trans (HKl.out 1 _ Hn1.out); go_simp; try with_reducible rfl)
        refine tkW 5 (some 40) (v := ?_) ?_ hHeld ?_
        rotate_left
        · (intro ww _; go_simp; try with_reducible rfl)
        refine tkW 6 (some 41) (v := ?_) ?_ hHeld ?_
        rotate_left
        · (intro ww hSw; (try dsimp only at hSw); go_simp; try with_reducible rfl)
        refine tkW 7 (some 42) (v := ?_) ?_ hHeld ?_
        rotate_left
        · (intro ww _; go_simp; try with_reducible rfl)
        refine tkW 8 (some 43) (v := ?_) ?_ hHeld ?_
        rotate_left
        · (intro ww hSw; (try dsimp only at hSw); have q2 := (hSw.cell (p := ⟨nb, no + 2, none⟩) (.inl Hn.out)).trans (HKl.out 2 _ Hn2.out); go_simp; try with_reducible rfl)
        refine tkW 9 (some 44) (v := ?_) ?_ hHeld ?_
        rotate_left
        · (intro ww hSw; (try dsimp only at hSw); go_simp; try with_reducible rfl)
        refine wpAnyH_ready (rs := [10]) (by kernel_rfl) (by simp) ?_
        refine AllReadyH.cons (o := ⟨some 45, _, _, _, _, _⟩) rfl (fun K hK => ?_) AllReadyH.nil
        have hbx : Below Ufa5u0.heap.size Ufa5u0 (Ufa5u0.alloc (.cells #[.int .i64 6, .int .i64 t.k.1, .int .i64 t.k.2, .int .i64 0, .int .i64 0, .int .i64 0, .int .i64 0, .string t.tg, .string ⟨#[]⟩] 45)) := (Below.refl _ _).alloc (Nat.le_refl _) _
        go_simp
        refine hK.out _ _ (hHeld.trans (KeepsS.of_below hbx (fun j q => by rcases q with q | rfl; exact Nat.lt_of_lt_of_le q HS.out.bel.size; exact row_lt HS.out.box))) (fun hHeld2 => ?_)
        clear hK K hHeld
        have hHeld := hHeld2
        clear hHeld2
        (try simp only [Act.put, List.setIfInBounds_toArray, List.set_cons_zero, List.set_cons_succ])
        obtain ⟨Ufa5u1, eW⟩ : ∃ X, X = Ufa5u0.alloc (.cells #[.int .i64 6, .int .i64 t.k.1, .int .i64 t.k.2, .int .i64 0, .int .i64 0, .int .i64 0, .int .i64 0, .string t.tg, .string ⟨#[]⟩] 45) := ⟨_, rfl⟩
        have hb : Below Ufa5u0.heap.size Ufa5u0 Ufa5u1 := by rw [eW]; exact (Below.refl _ _).alloc (Nat.le_refl _) _
        replace HS : Hid (WrS w bo oc c0 c1 (.slice oa oc.at_.length oq) okv (.slice none 0 0) (([] : List Pa)) Ufa5u1) := HS.out.below hb
        clear hbx
        have HVb : Hid (Ufa5u1.heap[Ufa5u0.heap.size]? = some (.cells (paCells (pTg t.k t.tg)).toArray 45)) := by rw [eW]; exact heap_alloc_new _ _
        rw [← eW] at hHeld ⊢
        clear eW
        obtain ⟨qb, eqb⟩ : ∃ b, b = Ufa5u0.heap.size := ⟨_, rfl⟩
        rw [← eqb] at HVb ⊢
        clear eqb
        clear hb
        refine wpAnyH_ready (rs := [11]) (by kernel_rfl) (by simp) ?_
        refine AllReadyH.cons (o := ⟨some 46, _, _, _, _, _⟩) rfl (fun K hK => ?_) AllReadyH.nil
        refine step_app1 rfl _ _ (by rfl) w.heap.size (.slice none 0 0) (([] : List Pa)) (by rfl) HS.out.ow qb (pTg t.k t.tg) (by rfl) HVb.out (by have := Hll.out; omega) HS.out.bel.size ?_
        intro g3 c3 Ufa5u2 ho3 hg3
        have h1 := HS.out.push hg3 ho3
        have hkp : KeepsS (fun j => j < w.heap.size ∨ j = bo) Uf4u0 Ufa5u2 := hHeld.trans ⟨hg3.size, fun j q => by rcases q with q | rfl; exact hg3.block j (Nat.lt_of_lt_of_le q HS.out.bel.size) (fun e => by have := (OwnE.lt HS.out.ow j e.symm).1; omega); exact hg3.block _ (row_lt HS.out.box) HS.out.ne⟩
        have HS2 := hide9 h1
        clear h1 ho3 hg3
        refine hK.out _ _ (hkp) (fun hHeld2 => ?_)
        clear hK K hHeld
        have hHeld := hHeld2
        clear hHeld2
        (try simp only [Act.put, List.setIfInBounds_toArray, List.set_cons_zero, List.set_cons_succ])
        clear hkp HS HVb
        refine tkW 12 (some 8) (v := ?_) ?_ hHeld ?_
        rotate_left
        · (intro ww _; go_simp; try with_reducible rfl)
        refine wpAnyH_done (by kernel_rfl) ?_ _
        clear hHeld HS0 HKl
        have HS := HS2
        clear HS2
        go_wp2
        go_meet
        case rel => exact ⟨([] : List Pa) ++ [pTg t.k t.tg], some ⟨g3, 0, none⟩, c3, (by first | rfl | simp), hide9 (by unfold tgR; rw [Hoc.out, if_neg (of_decide_eq_false Heq.out)]; (try simp)), (by first | exact HS | (rw [List.length_append]; exact HS))⟩
    case rest =>
      obtain ⟨R, aR, cR, rfl, HR, HS⟩ := hcut
      clear Heq Hll
      have Hll : Hid (R.length ≤ 4) := (by show _ ≤ _; rw [HR.out]; exact Nat.le_trans (tgR_len D t) (by decide))
      obtain ⟨eq9, eeq⟩ : ∃ b, b = decide (t.tx = oc.tx) := ⟨_, rfl⟩
      have Heq : Hid (decide (t.tx = oc.tx) = eq9) := eeq.symm
      clear eeq
      go_upto_region 8 with fail
      have HS0 : Hid (WrS w bo oc c0 c1 (.slice oa oc.at_.length oq) okv (.slice aR R.length cR) (R) wc) := HS
      have HKl : Hid (∀ (j : Nat) (u : Value), w.cell? ⟨nb, no + j, none⟩ = some u → wc.cell? ⟨nb, no + j, none⟩ = some u) := (fun j u h => (HS.out.bel.cell (p := ⟨nb, no + j, none⟩) Hn.out).trans h)
      refine wp_region_held_drew (S := fun W' => KeepsS (fun j => j < w.heap.size ∨ j = bo) wc W') (by kernel_rfl) (KeepsS.of_below (Below.refl wc.heap.size wc).drew (fun j q => by rcases q with q | rfl; exact Nat.lt_of_lt_of_le q HS0.out.bel.size; exact row_lt HS0.out.box)) (fun hHeld => ?_)
      obtain ⟨Uh2u0, eW⟩ : ∃ X, X = wc.drew := ⟨_, rfl⟩
      have hb : Below wc.heap.size wc Uh2u0 := by rw [eW]; exact (Below.refl _ _).drew
      replace HS : Hid (WrS w bo oc c0 c1 (.slice oa oc.at_.length oq) okv (.slice aR R.length cR) (R) Uh2u0) := HS.out.below hb
      rw [← eW] at hHeld ⊢
      clear eW hb
      refine tkW 0 (some 47) (v := ?_) ?_ hHeld ?_
      rotate_left
      · (intro ww _; go_simp; try with_reducible rfl)
      refine tkW 1 (some 48) (v := ?_) ?_ hHeld ?_
      rotate_left
      · (intro ww hSw; (try dsimp only at hSw); go_simp; try with_reducible rfl)
      refine tkW 2 (some 49) (v := ?_) ?_ hHeld ?_
      rotate_left
      · (intro ww _; go_simp; try with_reducible rfl)
      refine tkW 3 (some 50) (v := ?_) ?_ hHeld ?_
      rotate_left
      · (intro ww hSw; (try dsimp only at hSw); have q3 := (hSw.cell (p := ⟨nb, no + 3, none⟩) (.inl Hn.out)).trans (HKl.out 3 _ Hn3.out); go_simp; try with_reducible rfl)
      refine tkW 4 (some 51) (v := ?_) ?_ hHeld ?_
      rotate_left
      · (intro ww _; go_simp; try with_reducible rfl)
      refine tkW 5 (some 52) (v := ?_) ?_ hHeld ?_
      rotate_left
      · (intro ww hSw; (try dsimp only at hSw); obtain ⟨y0, y1, y2, y3, y4, y5⟩ := row6d ((hSw.2 bo (.inr rfl)).trans HS0.out.box); go_simp; try with_reducible rfl)
      refine tkW 6 (some 53) (v := .bool (!eq9)) ?_ hHeld ?_
      · (intro ww hSw; (try dsimp only at hSw); have hT9 := txtD t.tx oc.tx; rw [Heq.out] at hT9; go_simp; first | done | simpa using hT9 | simp [hT9])
      refine wpAnyH_done (by kernel_rfl) ?_ _
      clear hHeld HS0 HKl
      go_upto_if 53 with fail
      go_cut [8] from 47 (fun v W => ∃ (R : List Pa) (aR : Option Addr) (cR : Nat), v = .slice aR R.length cR ∧ Hid (R = tgR D t ++ txR D t) ∧ Hid (WrS w bo oc c0 c1 (.slice oa oc.at_.length oq) okv (.slice aR R.length cR) R W))
      case first =>
        cases eq9 with
        | true =>
          go_wp2
          go_meet
          case rel => exact ⟨R, _, _, rfl, hide9 (by rw [HR.out]; unfold txR; rw [Hoc.out, if_pos (of_decide_eq_true Heq.out)]; (try simp)), HS⟩
        | false =>
          go_upto_region 9 with fail
          have HS0 : Hid (WrS w bo oc c0 c1 (.slice oa oc.at_.length oq) okv (.slice aR R.length cR) (R) Uh2u0) := HS
          have HKl : Hid (∀ (j : Nat) (u : Value), w.cell? ⟨nb, no + j, none⟩ = some u → Uh2u0.cell? ⟨nb, no + j, none⟩ = some u) := (fun j u h => (HS.out.bel.cell (p := ⟨nb, no + j, none⟩) Hn.out).trans h)
          refine wp_region_held_drew (S := fun W' => KeepsS (fun j => j < w.heap.size ∨ j = bo) Uh2u0 W') (by kernel_rfl) (KeepsS.of_below (Below.refl Uh2u0.heap.size Uh2u0).drew (fun j q => by rcases q with q | rfl; exact Nat.lt_of_lt_of_le q HS0.out.bel.size; exact row_lt HS0.out.box)) (fun hHeld => ?_)
          obtain ⟨Uha3u0, eW⟩ : ∃ X, X = Uh2u0.drew := ⟨_, rfl⟩
          have hb : Below Uh2u0.heap.size Uh2u0 Uha3u0 := by rw [eW]; exact (Below.refl _ _).drew
          replace HS : Hid (WrS w bo oc c0 c1 (.slice oa oc.at_.length oq) okv (.slice aR R.length cR) (R) Uha3u0) := HS.out.below hb
          rw [← eW] at hHeld ⊢
          clear eW hb
          refine tkW 0 (some 54) (v := ?_) ?_ hHeld ?_
          rotate_left
          · (intro ww _; go_simp; try with_reducible rfl)
          refine tkW 1 (some 55) (v := ?_) ?_ hHeld ?_
          rotate_left
          · (intro ww _; go_simp; try with_reducible rfl)
          refine tkW 2 (some 56) (v := ?_) ?_ hHeld ?_
          rotate_left
          · (intro ww hSw; (try dsimp only at hSw); go_simp; try with_reducible rfl)
          refine tkW 3 (some 57) (v := ?_) ?_ hHeld ?_
          rotate_left
          · (intro ww _; go_simp; try with_reducible rfl)
          refine tkW 4 (some 58) (v := ?_) ?_ hHeld ?_
          rotate_left
          · (intro ww hSw; (try dsimp only at hSw); have q0 := (hSw.cell (p := ⟨nb, no, none⟩) (.inl Hn.out)).trans (HKl.out 0 _ Hn0.out); have q1 := (hSw.cell (p := ⟨nb, no + 1, none⟩) (.inl Hn.out)).trans (HKl.out 1 _ Hn1.out); go_simp; try with_reducible rfl)
          refine tkW 5 (some 59) (v := ?_) ?_ hHeld ?_
          rotate_left
          · (intro ww _; go_simp; try with_reducible rfl)
          refine tkW 6 (some 60) (v := ?_) ?_ hHeld ?_
          rotate_left
          · (intro ww hSw; (try dsimp only at hSw); go_simp; try with_reducible rfl)
          refine tkW 7 (some 61) (v := ?_) ?_ hHeld ?_
          rotate_left
          · (intro ww _; go_simp; try with_reducible rfl)
          refine tkW 8 (some 62) (v := ?_) ?_ hHeld ?_
          rotate_left
          · (intro ww hSw; (try dsimp only at hSw); have q3 := (hSw.cell (p := ⟨nb, no + 3, none⟩) (.inl Hn.out)).trans (HKl.out 3 _ Hn3.out); go_simp; try with_reducible rfl)
          refine tkW 9 (some 63) (v := ?_) ?_ hHeld ?_
          rotate_left
          · (intro ww hSw; (try dsimp only at hSw); go_simp; try with_reducible rfl)
          refine wpAnyH_ready (rs := [10]) (by kernel_rfl) (by simp) ?_
          refine AllReadyH.cons (o := ⟨some 64, _, _, _, _, _⟩) rfl (fun K hK => ?_) AllReadyH.nil
          have hbx : Below Uha3u0.heap.size Uha3u0 (Uha3u0.alloc (.cells #[.int .i64 7, .int .i64 t.k.1, .int .i64 t.k.2, .int .i64 0, .int .i64 0, .int .i64 0, .int .i64 0, .string ⟨#[]⟩, .string t.tx] 45)) := (Below.refl _ _).alloc (Nat.le_refl _) _
          go_simp
          refine hK.out _ _ (hHeld.trans (KeepsS.of_below hbx (fun j q => by rcases q with q | rfl; exact Nat.lt_of_lt_of_le q HS.out.bel.size; exact row_lt HS.out.box))) (fun hHeld2 => ?_)
          clear hK K hHeld
          have hHeld := hHeld2
          clear hHeld2
          (try simp only [Act.put, List.setIfInBounds_toArray, List.set_cons_zero, List.set_cons_succ])
          obtain ⟨Uha3u1, eW⟩ : ∃ X, X = Uha3u0.alloc (.cells #[.int .i64 7, .int .i64 t.k.1, .int .i64 t.k.2, .int .i64 0, .int .i64 0, .int .i64 0, .int .i64 0, .string ⟨#[]⟩, .string t.tx] 45) := ⟨_, rfl⟩
          have hb : Below Uha3u0.heap.size Uha3u0 Uha3u1 := by rw [eW]; exact (Below.refl _ _).alloc (Nat.le_refl _) _
          replace HS : Hid (WrS w bo oc c0 c1 (.slice oa oc.at_.length oq) okv (.slice aR R.length cR) (R) Uha3u1) := HS.out.below hb
          clear hbx
          have HVb : Hid (Uha3u1.heap[Uha3u0.heap.size]? = some (.cells (paCells (pTx t.k t.tx)).toArray 45)) := by rw [eW]; exact heap_alloc_new _ _
          rw [← eW] at hHeld ⊢
          clear eW
          obtain ⟨qb, eqb⟩ : ∃ b, b = Uha3u0.heap.size := ⟨_, rfl⟩
          rw [← eqb] at HVb ⊢
          clear eqb
          clear hb
          refine wpAnyH_ready (rs := [11]) (by kernel_rfl) (by simp) ?_
          refine AllReadyH.cons (o := ⟨some 65, _, _, _, _, _⟩) rfl (fun K hK => ?_) AllReadyH.nil
          refine step_app1 rfl _ _ (by rfl) w.heap.size (.slice aR R.length cR) (R) (by rfl) HS.out.ow qb (pTx t.k t.tx) (by rfl) HVb.out (by have := Hll.out; omega) HS.out.bel.size ?_
          intro g3 c3 Uha3u2 ho3 hg3
          have h1 := HS.out.push hg3 ho3
          have hkp : KeepsS (fun j => j < w.heap.size ∨ j = bo) Uh2u0 Uha3u2 := hHeld.trans ⟨hg3.size, fun j q => by rcases q with q | rfl; exact hg3.block j (Nat.lt_of_lt_of_le q HS.out.bel.size) (fun e => by have := (OwnE.lt HS.out.ow j e.symm).1; omega); exact hg3.block _ (row_lt HS.out.box) HS.out.ne⟩
          have HS2 := hide9 h1
          clear h1 ho3 hg3
          refine hK.out _ _ (hkp) (fun hHeld2 => ?_)
          clear hK K hHeld
          have hHeld := hHeld2
          clear hHeld2
          (try simp only [Act.put, List.setIfInBounds_toArray, List.set_cons_zero, List.set_cons_succ])
          clear hkp HS HVb
          refine tkW 12 (some 8) (v := ?_) ?_ hHeld ?_
          rotate_left
          · (intro ww _; go_simp; try with_reducible rfl)
          refine wpAnyH_done (by kernel_rfl) ?_ _
          clear hHeld HS0 HKl
          have HS := HS2
          clear HS2
          go_wp2
          go_meet
          case rel => exact ⟨R ++ [pTx t.k t.tx], some ⟨g3, 0, none⟩, c3, (by first | rfl | simp), hide9 (by rw [HR.out]; unfold txR; rw [Hoc.out, if_neg (of_decide_eq_false Heq.out)]; (try simp)), (by first | exact HS | (rw [List.length_append]; exact HS))⟩
      case rest =>
        obtain ⟨R2, aS, cS, rfl, HR2, HS⟩ := hcut
        clear Heq Hll HR
        have Hll : Hid (R2.length ≤ 2) := (by show _ ≤ _; rw [HR2.out, List.length_append]; have := tgR_len D t; have := txR_len D t; omega)
        go_upto_region 10 with fail
        have HS0 : Hid (WrS w bo oc c0 c1 (.slice oa oc.at_.length oq) okv (.slice aS R2.length cS) (R2) wc) := HS
        have HKl : Hid (∀ (j : Nat) (u : Value), w.cell? ⟨nb, no + j, none⟩ = some u → wc.cell? ⟨nb, no + j, none⟩ = some u) := (fun j u h => (HS.out.bel.cell (p := ⟨nb, no + j, none⟩) Hn.out).trans h)
        refine wp_region_held_drew (S := fun W' => KeepsS (fun j => j < w.heap.size ∨ j = bo) wc W') (by kernel_rfl) (KeepsS.of_below (Below.refl wc.heap.size wc).drew (fun j q => by rcases q with q | rfl; exact Nat.lt_of_lt_of_le q HS0.out.bel.size; exact row_lt HS0.out.box)) (fun hHeld => ?_)
        obtain ⟨Uk1u0, eW⟩ : ∃ X, X = wc.drew := ⟨_, rfl⟩
        have hb : Below wc.heap.size wc Uk1u0 := by rw [eW]; exact (Below.refl _ _).drew
        replace HS : Hid (WrS w bo oc c0 c1 (.slice oa oc.at_.length oq) okv (.slice aS R2.length cS) (R2) Uk1u0) := HS.out.below hb
        rw [← eW] at hHeld ⊢
        clear eW hb
        refine tkW 0 (some 66) (v := ?_) ?_ hHeld ?_
        rotate_left
        · (intro ww _; go_simp; try with_reducible rfl)
        refine tkW 1 (some 67) (v := ?_) ?_ hHeld ?_
        rotate_left
        · (intro ww _; go_simp; try with_reducible rfl)
        refine tkW 2 (some 68) (v := ?_) ?_ hHeld ?_
        rotate_left
        · (intro ww hSw; (try dsimp only at hSw); go_simp; try with_reducible rfl)
        refine tkW 3 (some 69) (v := ?_) ?_ hHeld ?_
        rotate_left
        · (intro ww _; go_simp; try with_reducible rfl)
        refine tkW 4 (some 70) (v := ?_) ?_ hHeld ?_
        rotate_left
        · (intro ww hSw; (try dsimp only at hSw); have q0 := (hSw.cell (p := ⟨nb, no, none⟩) (.inl Hn.out)).trans (HKl.out 0 _ Hn0.out); have q1 := (hSw.cell (p := ⟨nb, no + 1, none⟩) (.inl Hn.out)).trans (HKl.out 1 _ Hn1.out); go_simp; try with_reducible rfl)
        refine tkW 5 (some 71) (v := ?_) ?_ hHeld ?_
        rotate_left
        · (intro ww _; go_simp; try with_reducible rfl)
        refine tkW 6 (some 72) (v := ?_) ?_ hHeld ?_
        rotate_left
        · (intro ww hSw; (try dsimp only at hSw); obtain ⟨y0, y1, y2, y3, y4, y5⟩ := row6d ((hSw.2 bo (.inr rfl)).trans HS0.out.box); go_simp; try with_reducible rfl)
        refine tkW 7 (some 73) (v := ?_) ?_ hHeld ?_
        rotate_left
        · (intro ww _; go_simp; try with_reducible rfl)
        refine tkW 8 (some 74) (v := ?_) ?_ hHeld ?_
        rotate_left
        · (intro ww hSw; (try dsimp only at hSw); go_simp; try with_reducible rfl)
        refine tkW 9 (some 75) (v := ?_) ?_ hHeld ?_
        rotate_left
        · (intro ww _; go_simp; try with_reducible rfl)
        refine tkW 10 (some 76) (v := ?_) ?_ hHeld ?_
        rotate_left
        · (intro ww hSw; (try dsimp only at hSw); have q4 := (hSw.cell (p := ⟨nb, no + 4, none⟩) (.inl Hn.out)).trans (HKl.out 4 _ Hn4.out); go_simp; try with_reducible rfl)
        refine wpAnyH_ready (rs := [11]) (by kernel_rfl) (by simp) ?_
        refine AllReadyH.cons (o := ⟨some 77, _, _, _, _, _⟩) rfl (fun K hK => ?_) AllReadyH.nil
        go_simp
        refine (writeAttrs_any _ _ t.k _ _ oc.at_ t.at_ _ HS.out.at_ (HA.out.turn HS.out.bel.size fun k q l => ⟨l, HS.out.bel.block k l⟩) (by have := Hol.out; have := Hl.out; omega)).mono ?_
        rintro e Uk1u1 ⟨av, rfl, ho9, hb⟩
        have hkp : KeepsS (fun j => j < w.heap.size ∨ j = bo) wc Uk1u1 := hHeld.trans (KeepsS.of_below hb (fun j q => by rcases q with q | rfl; exact Nat.lt_of_lt_of_le q HS.out.bel.size; exact row_lt HS.out.box))
        have HO : Hid (OwnPa w.heap.size Uk1u1 av (wrA t.k oc.at_ t.at_)) := OwnE.low ho9 HS.out.bel.size
        have HAp : Hid (∀ k, av.ownBlock = some k → ¬ some k = (Value.slice aS R2.length cS).ownBlock) := (fun k e e2 => by have h1 := (OwnE.lt HS.out.ow k e2.symm).2; have h2 := (OwnE.lt ho9 k e).1; omega)
        replace HS := hide9 (HS.out.below hb)
        clear ho9 hb
        (try go_wp2_with fail)
        refine hK.out _ _ (hkp) (fun hHeld2 => ?_)
        clear hK K hHeld
        have hHeld := hHeld2
        clear hHeld2
        (try simp only [Act.put, List.setIfInBounds_toArray, List.set_cons_zero, List.set_cons_succ])
        clear hkp
        refine wpAnyH_ready (rs := [12]) (by kernel_rfl) (by simp) ?_
        refine AllReadyH.cons (o := ⟨some 78, _, _, _, _, _⟩) rfl (fun K hK => ?_) AllReadyH.nil
        refine step_appPs rfl _ _ (by rfl) w.heap.size (.slice aS R2.length cS) av R2 (wrA t.k oc.at_ t.at_) (by rfl) HS.out.ow (by rfl) (OwnE.lsE pzLen HO.out (Nat.le_trans (wrA_len _ _ _ _ (Nat.le_refl _)) (by have := Hol.out; have := Hl.out; omega)) (fun _ _ => trivial : ∀ k, _ → (fun _ => True) k)) (by have := wrA_len t.k _ oc.at_ t.at_ (Nat.le_refl _); have := Hol.out; have := Hl.out; have := Hll.out; omega) HS.out.bel.size ?_
        intro vv Uk1u2 hov hgv
        have HOv := hide9 hov
        have h1 := HS.out.push hgv hov
        have hkp : KeepsS (fun j => j < w.heap.size ∨ j = bo) wc Uk1u2 := hHeld.trans ⟨hgv.size, fun j q => by rcases q with q | rfl; exact hgv.block j (Nat.lt_of_lt_of_le q HS.out.bel.size) (fun e => by have := (OwnE.lt HS.out.ow j e.symm).1; omega); exact hgv.block _ (row_lt HS.out.box) HS.out.ne⟩
        have HS2 := hide9 h1
        clear h1 hov hgv
        refine hK.out _ _ (hkp) (fun hHeld2 => ?_)
        clear hK K hHeld
        have hHeld := hHeld2
        clear hHeld2
        (try simp only [Act.put, List.setIfInBounds_toArray, List.set_cons_zero, List.set_cons_succ])
        clear hkp HS HO HAp
        refine tkW 13 (some 4) (v := ?_) ?_ hHeld ?_
        rotate_left
        · (intro ww _; go_simp; try with_reducible rfl)
        refine wpAnyH_done (by kernel_rfl) ?_ _
        clear hHeld HS0 HKl
        go_wp2
        (try rw [Exit.noGoto_ret])
        go_ret
        exact ⟨vv, rfl, (by unfold wrL; rw [← HR2.out, Hoc.out]; exact HOv.out), HS2.out.bel⟩
end Go.Proofs.Ythhnglpkfcmjiaa
