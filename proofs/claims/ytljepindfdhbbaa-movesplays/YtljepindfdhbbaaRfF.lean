/- The document's Where, Above. -/
import Derived.Test.YtljepindfdhbbaaRfE
import Derived.Test.YtljepindfdhbbaaSrtA
namespace Go.Proofs.Ytljepindfdhbbaa
open Go.RowKit
set_option linter.unusedVariables false
set_option linter.unusedSimpArgs false

theorem nextW {T : List Pl} {i : Nat} {x : Pl} {s : St} (h : ∀ j y, T[j]? = some y → j < i → y.nd ≠ s) (hx : T[i]? = some x) (hn : x.nd ≠ s) : ∀ j y, T[j]? = some y → j < i + 1 → y.nd ≠ s := fun j y hj hji => by
  rcases Nat.lt_or_ge j i with h1 | h1
  · exact h j y hj h1
  · obtain rfl : j = i := by omega
    rw [hj] at hx
    cases hx
    exact hn
set_option maxRecDepth 100000 in
set_option maxHeartbeats 4000000 in
theorem refWhere_any (G : Nat → Prop) (v : Value) (T : List Pl) (s : St) (w : World) (h : LsE plCells 6 G w v T) (hs : SrtT T) :
    Calls Try.prog 18 #[v, .agg #[.int .i64 s.1, .int .i64 s.2]] w fun e w' => ∃ z : Int, e = .returned (.int .i64 z) ∧ ((z = -1 ∧ whT T s = none) ∨ ∃ (q : Nat) (p : Pl), z = (q : Int) ∧ T[q]? = some p ∧ whT T s = some p) ∧ Below w.heap.size w w' := by
  obtain ⟨W0, eW⟩ : ∃ X, X = w.alloc (.cells (stCells s).toArray 27) := ⟨_, rfl⟩
  have hb0 : Below w.heap.size w W0 := by rw [eW]; exact (Below.refl _ _).alloc (Nat.le_refl _) _
  obtain ⟨bx, ebx⟩ : ∃ b, b = w.heap.size := ⟨_, rfl⟩
  have hr0 : W0.heap[bx]? = some (.cells (stCells s).toArray 27) := by (rw [ebx, eW]; exact heap_alloc_new _ _)
  have HBl : Hid (bx < W0.heap.size) := row_lt hr0
  have HB0 : Hid (W0.cell? ⟨bx, 0, none⟩ = some (.int .i64 s.1)) := by (show _ = _; rw [cell_of_row W0 _ 0 _ _ _ hr0]; rfl)
  have HB1 : Hid (W0.cell? ⟨bx, 1, none⟩ = some (.int .i64 s.2)) := by (show _ = _; rw [cell_of_row W0 _ 1 _ _ _ hr0]; rfl)
  have HBe : Hid (Below w.heap.size w W0) := hb0
  have HLs : Hid (LsE plCells 6 G W0 v T) := h.below hb0
  have HSr : Hid (SrtT T) := hs
  have hlen := h.len
  obtain ⟨a1, c1, e1⟩ := h.form
  subst e1
  have HeW : Hid (W0 = w.alloc (.cells #[.int .i64 s.1, .int .i64 s.2] 27)) := eW
  have HeB : Hid (bx = w.heap.size) := ebx
  clear h hs hb0 hr0 eW ebx
  go_enter Try.func18, Try.ntmps18
  go_wp2
  rw [← HeW.out, ← HeB.out]
  clear HeW
  go_loopw [5] (fun iv wr => ∃ i : Nat, iv = .int .i64 (i : Int) ∧ i ≤ T.length ∧ Hid (∀ j y, T[j]? = some y → j < i → y.nd ≠ s) ∧ Hid (Below W0.heap.size W0 wr)) (fun iv _ => T.length - (intOf iv).toNat)
  case atStart => exact ⟨0, rfl, Nat.zero_le _, fun j y _ h => absurd h (Nat.not_lt_zero _), Below.refl _ _⟩
  case round =>
    obtain ⟨i, rfl, hi, HNe, HB⟩ := hrel
    by_cases hil : i < T.length
    · obtain ⟨b, o, cap, ev, hcap, hgb, hlt, hrow⟩ := HLs.out.at (i := i) hil
      injection ev with ev1 ev2 ev3
      subst ev1
      subst ev3
      obtain ⟨x, ex⟩ : ∃ x, x = T[i] := ⟨_, rfl⟩
      rw [← ex] at hrow
      have HXi : Hid (T[i]? = some x) := by (show _ = _; rw [List.getElem?_eq_getElem hil, ex])
      have HGl : Hid (b < W0.heap.size) := hlt
      have HX0 : Hid (W0.cell? ⟨b, o + i * 6, none⟩ = some (.int .i64 x.nd.1)) := hrow 0 _ rfl
      have HX1 : Hid (W0.cell? ⟨b, o + i * 6 + 1, none⟩ = some (.int .i64 x.nd.2)) := hrow 1 _ rfl
      have k1 : (i : Int) < (T.length : Int) := by omega
      have k0 : (0 : Int) ≤ (i : Int) := by omega
      clear ex hrow hlt hgb HLs ev2
      go_wp2_with fail
      refine wp_region_held_drew (S := fun W' => Below W0.heap.size W0 W') (by kernel_rfl) HB.out.drew (fun hHeld => ?_)
      obtain ⟨Ua1u0, eW⟩ : ∃ X, X = wr.drew := ⟨_, rfl⟩
      have hb : Below wr.heap.size wr Ua1u0 := by rw [eW]; exact (Below.refl _ _).drew
      rw [← eW] at hHeld ⊢
      clear eW hb
      refine tkW 0 (some 12) (v := ?_) ?_ hHeld ?_
      rotate_left
      · (intro ww _; go_simp; try with_reducible rfl)
      refine tkW 1 (some 13) (v := ?_) ?_ hHeld ?_
      rotate_left
      · (intro ww _; go_simp; try with_reducible rfl)
      refine tkW 2 (some 14) (v := ?_) ?_ hHeld ?_
      rotate_left
      · (intro ww hSw; (try dsimp only at hSw); have hbw := hSw; have b0 := (hbw.cell (p := ⟨bx, 0, none⟩) HBl.out).trans HB0.out; have b1 := (hbw.cell (p := ⟨bx, 1, none⟩) HBl.out).trans HB1.out; have r0 := (hbw.cell (p := ⟨b, o + i * 6, none⟩) HGl.out).trans HX0.out; have r1 := (hbw.cell (p := ⟨b, o + i * 6 + 1, none⟩) HGl.out).trans HX1.out; go_simp; try with_reducible rfl)
      refine tkW 3 (some 15) (v := ?_) ?_ hHeld ?_
      rotate_left
      · (intro ww _; go_simp; try with_reducible rfl)
      refine tkW 4 (some 16) (v := ?_) ?_ hHeld ?_
      rotate_left
      · (intro ww hSw; (try dsimp only at hSw); have hbw := hSw; have b0 := (hbw.cell (p := ⟨bx, 0, none⟩) HBl.out).trans HB0.out; have b1 := (hbw.cell (p := ⟨bx, 1, none⟩) HBl.out).trans HB1.out; have r0 := (hbw.cell (p := ⟨b, o + i * 6, none⟩) HGl.out).trans HX0.out; have r1 := (hbw.cell (p := ⟨b, o + i * 6 + 1, none⟩) HGl.out).trans HX1.out; go_simp; try with_reducible rfl)
      refine tkW 5 (some 17) (v := ?_) ?_ hHeld ?_
      rotate_left
      · (intro ww hSw; (try dsimp only at hSw); have hbw := hSw; have b0 := (hbw.cell (p := ⟨bx, 0, none⟩) HBl.out).trans HB0.out; have b1 := (hbw.cell (p := ⟨bx, 1, none⟩) HBl.out).trans HB1.out; have r0 := (hbw.cell (p := ⟨b, o + i * 6, none⟩) HGl.out).trans HX0.out; have r1 := (hbw.cell (p := ⟨b, o + i * 6 + 1, none⟩) HGl.out).trans HX1.out; go_simp; try with_reducible rfl)
      refine tkW 6 (some 18) (v := .bool (decide ((x.nd.1, x.nd.2) = (s.1, s.2)))) ?_ hHeld ?_
      · (intro ww hSw; (try dsimp only at hSw); have hbw := hSw; have b0 := (hbw.cell (p := ⟨bx, 0, none⟩) HBl.out).trans HB0.out; have b1 := (hbw.cell (p := ⟨bx, 1, none⟩) HBl.out).trans HB1.out; have r0 := (hbw.cell (p := ⟨b, o + i * 6, none⟩) HGl.out).trans HX0.out; have r1 := (hbw.cell (p := ⟨b, o + i * 6 + 1, none⟩) HGl.out).trans HX1.out; go_simp; by_cases e1 : x.nd.1 = s.1 <;> by_cases e2 : x.nd.2 = s.2 <;> simp [e1, e2])
      refine wpAnyH_done (by kernel_rfl) ?_ _
      by_cases hxm : x.nd = s
      · have hxd : decide ((x.nd.1, x.nd.2) = (s.1, s.2)) = true := decide_eq_true hxm
        have HWh : Hid (whT T s = some x) := by (rw [← hxm]; exact whT_mem HSr.out (List.mem_of_getElem? HXi.out))
        have HB9 : Hid (Below W0.heap.size W0 Ua1u0) := hHeld
        clear hHeld hxm
        rw [hxd]
        clear hxd
        go_wp2
        go_ret
        exact ⟨_, rfl, .inr ⟨i, x, rfl, HXi.out, HWh.out⟩, HBe.out.trans (HB9.out.mono HBe.out.size)⟩
      · have hxd : decide ((x.nd.1, x.nd.2) = (s.1, s.2)) = false := decide_eq_false hxm
        have HNx : Hid (∀ j y, T[j]? = some y → j < i + 1 → y.nd ≠ s) := nextW HNe.out HXi.out hxm
        have HB9 : Hid (Below W0.heap.size W0 Ua1u0) := hHeld
        clear hHeld hxm
        rw [hxd]
        clear hxd
        go_wp2
        go_roundw
        case rel => exact ⟨i + 1, by go_num, by omega, HNx, HB9⟩
        case measure => simp [intOf]; omega
    · obtain rfl : i = T.length := by omega
      have HWh : Hid (whT T s = none) := whT_none.2 fun p hp => by
        obtain ⟨j, hj, rfl⟩ := List.mem_iff_getElem.1 hp
        exact HNe.out j _ (List.getElem?_eq_getElem hj) hj
      go_wp2
      go_ret
      exact ⟨_, rfl, .inl ⟨rfl, HWh.out⟩, HBe.out.trans (HB.out.mono HBe.out.size)⟩

/-- The state of Above. -/
structure RaS (w : World) (bx : Nat) (n : St) (ov : Value) (D : List St) (W : World) : Prop where
  bel : Below w.heap.size w W
  lo : w.heap.size ≤ bx
  row : W.heap[bx]? = some (.cells (stCells n).toArray 27)
  own : OwnE stCells 2 27 w.heap.size W ov D
  nb : ov.ownBlock ≠ some bx
section
variable {w W W' : World} {bx : Nat} {n m : St} {ov : Value} {D : List St}
theorem RaS.below (h : RaS w bx n ov D W) (hb : Below W.heap.size W W') : RaS w bx n ov D W' := ⟨h.bel.trans (hb.mono h.bel.size), h.lo, (hb.block _ (row_lt h.row)).trans h.row, h.own.below hb, h.nb⟩
theorem RaS.b0 (h : RaS w bx n ov D W) : W.cell? ⟨bx, 0, none⟩ = some (.int .i64 n.1) := by rw [cell_of_row W _ 0 _ _ _ h.row]; rfl
theorem RaS.b1 (h : RaS w bx n ov D W) : W.cell? ⟨bx, 1, none⟩ = some (.int .i64 n.2) := by rw [cell_of_row W _ 1 _ _ _ h.row]; rfl
theorem RaS.z (h : RaS w bx n ov D W) (j : Nat) : W.frozen? ⟨bx, j, none⟩ = false := frozen_of_row W bx j _ _ h.row
theorem RaS.put (h : RaS w bx n ov D W) : RaS w bx m ov D ((W.setCell ⟨bx, 0, none⟩ (.int .i64 m.1)).setCell ⟨bx, 1, none⟩ (.int .i64 m.2)) := by
  have h1 := heap_setCell_same W bx 0 _ _ (.int .i64 m.1) h.row
  have h2 := heap_setCell_same (W.setCell ⟨bx, 0, none⟩ (.int .i64 m.1)) bx 1 _ _ (.int .i64 m.2) h1
  have hg := (grownBy_setCell W bx 0 (.int .i64 m.1)).trans (grownBy_setCell (W.setCell ⟨bx, 0, none⟩ (.int .i64 m.1)) bx 1 (.int .i64 m.2))
  refine ⟨h.bel.grown hg h.bel.size (fun k e => by cases e; exact h.lo), h.lo, ?_, h.own.keep (fun k e => hg.block k (h.own.lt k e).2 (fun e2 => h.nb (by rw [e, e2]))), h.nb⟩
  rw [h2]
  rfl
theorem RaS.push (h : RaS w bx n ov D W) {v : Value} {x : St} (ho : W'.ownsRow w.heap.size 27 2 v (D.length + 1) (flatE stCells D ++ stCells x)) (hg : W.grownBy W' ov.ownBlock) (ha : v.ownBlock = ov.ownBlock ∨ v.ownBlock = some W.heap.size) : RaS w bx n v (D ++ [x]) W' :=
  ⟨h.bel.grown hg h.bel.size (fun k e => (h.own.lt k e).1), h.lo, (hg.block _ (row_lt h.row) (fun e => h.nb e.symm)).trans h.row, OwnE.snoc rfl ho, fun e => by
    rcases ha with h1 | h1
    · exact h.nb (h1 ▸ e)
    · rw [h1] at e; injection e with e; have := row_lt h.row; omega⟩
end

set_option maxRecDepth 100000 in
set_option maxHeartbeats 4000000 in
theorem refAbove_any (G : Nat → Prop) (v : Value) (T : List Pl) (s : St) (w : World) (h : LsE plCells 6 G w v T) (hg : GoodT T) (hl : T.length ≤ 4096) :
    Calls Try.prog 21 #[v, .agg #[.int .i64 s.1, .int .i64 s.2]] w fun e w' => ∃ v', e = .returned v' ∧ OwnE stCells 2 27 w.heap.size w' v' (upL T s) ∧ Below w.heap.size w w' := by
  obtain ⟨ist, hist, hz0st, hz1st, hz2st⟩ := info_parts S.infoStamp
  obtain ⟨W1, eW1⟩ : ∃ X, X = w.alloc (.cells (stCells s).toArray 27) := ⟨_, rfl⟩
  have hb1 : Below w.heap.size w W1 := by rw [eW1]; exact (Below.refl _ _).alloc (Nat.le_refl _) _
  have hz1 : W1.heap.size = w.heap.size + 1 := by rw [eW1]; simp
  obtain ⟨W2, eW2⟩ : ∃ X, X = W1.alloc (.cells #[] 27) := ⟨_, rfl⟩
  have hb2 : Below W1.heap.size W1 W2 := by rw [eW2]; exact (Below.refl _ _).alloc (Nat.le_refl _) _
  obtain ⟨bx, ebx⟩ : ∃ b, b = w.heap.size := ⟨_, rfl⟩
  have hr1 : W1.heap[bx]? = some (.cells (stCells s).toArray 27) := by (rw [ebx, eW1]; exact heap_alloc_new _ _)
  have HR0 : Hid (RaS w bx s (.slice (some ⟨bx + 1, 0, none⟩) 0 0) [] W2) := ⟨hb1.trans (hb2.mono hb1.size), by omega, (hb2.block _ (row_lt hr1)).trans hr1, by (have h9 := ownE_empty (enc := stCells) (n := 2) (T := 27) W1 w.heap.size (by omega); rw [hz1, ← ebx, ← eW2] at h9; rw [← ebx]; exact h9), by (show (some (bx + 1) : Option Nat) ≠ some bx; intro e; injection e with e; omega)⟩
  have HeW : Hid (W2 = (w.alloc (.cells #[.int .i64 s.1, .int .i64 s.2] 27)).alloc (.cells #[] 27)) := by (rw [eW2, eW1]; exact rfl)
  have HeB : Hid (bx = w.heap.size) := ebx
  have HLs : Hid (LsE plCells 6 G w v T) := h
  have HG : Hid (GoodT T) := hg
  have HU0 : Hid (([] : List St).length = 0 ∧ ∃ l, Up T s l ∧ upL T s = [] ++ l) := ⟨rfl, _, hg.acy.up s, rfl⟩
  have HUs : Hid ((upL T s).length ≤ T.length) := (hg.acy.up s).short
  obtain ⟨a1, c1, e1⟩ := h.form
  subst e1
  clear h hg hb1 hz1 hb2 hr1 eW1 eW2 ebx
  go_enter Try.func21, Try.ntmps21
  go_wp2
  rw [← HeW.out, ← HeB.out]
  clear HeW
  go_loopw [5, 6] (fun ov kv wr => ∃ (k : Nat) (n : St) (D : List St), kv = .int .i64 (k : Int) ∧ k ≤ T.length ∧ Hid (RaS w bx n ov D wr) ∧ Hid (D.length = k ∧ ∃ l, Up T n l ∧ upL T s = D ++ l)) (fun _ kv _ => T.length - (intOf kv).toNat)
  case atStart => exact ⟨0, s, [], rfl, Nat.zero_le _, HR0, HU0⟩
  case round =>
    clear HR0 HU0
    obtain ⟨k, n, D, rfl, hk, HR, HU⟩ := hrel
    obtain ⟨a0, c0, e0⟩ := HR.out.own.form
    subst e0
    have hDl : D.length ≤ 4096 := by rw [HU.out.1]; omega
    have b0 := HR.out.b0
    have b1 := HR.out.b1
    have k1 : (k : Int) ≤ (T.length : Int) := by omega
    go_wp2_with fail
    clear b0 b1
    refine (refWhere_any G (.slice a1 T.length c1) T n _ (HLs.out.below HR.out.bel) HG.out.srt).mono ?_
    rintro e w5 ⟨z, rfl, hz, hb⟩
    replace HR : Hid (RaS w bx n (.slice a0 D.length c0) D w5) := HR.out.below hb
    clear hb
    rcases hz with ⟨rfl, hwh⟩ | ⟨q, p, rfl, hq, hwh⟩
    · have HUe : Hid (upL T s = D) := by (show _ = _; obtain ⟨_, l, h1, h2⟩ := HU.out; have h3 := h1.uniq (.top hwh); rw [h3] at h2; simpa using h2)
      clear hwh
      go_wp2
      go_ret
      exact ⟨_, rfl, by (rw [HUe.out]; exact HR.out.own), HR.out.bel⟩
    · have hql : q < T.length := (List.getElem?_eq_some_iff.1 hq).1
      have HUn : Hid ((D ++ [p.pr]).length = k + 1 ∧ ∃ l, Up T p.pr l ∧ upL T s = (D ++ [p.pr]) ++ l) := by
        obtain ⟨h0, l, h1, h2⟩ := HU.out
        cases h1 with
        | top h3 => rw [hwh] at h3; cases h3
        | step h3 h4 => rw [hwh] at h3; cases h3; exact ⟨by simp [h0], _, h4, by rw [h2]; simp⟩
      have hk2 : k + 1 ≤ T.length := by
        obtain ⟨h0, l, h1, h2⟩ := HUn.out
        have h3 := HUs.out
        rw [h2, List.length_append, h0] at h3
        omega
      obtain ⟨b, o, cap, ev, hcap, hgb, hlt, hrow⟩ := (HLs.out.below HR.out.bel).at (i := q) hql
      injection ev with ev1 ev2 ev3
      subst ev1
      subst ev3
      have hqe : T[q] = p := by (have h9 := List.getElem?_eq_some_iff.1 hq; exact h9.2)
      rw [hqe] at hrow
      have r2 : w5.cell? ⟨b, o + q * 6 + 2, none⟩ = some (.int .i64 p.pr.1) := hrow 2 _ rfl
      have r3 : w5.cell? ⟨b, o + q * 6 + 3, none⟩ = some (.int .i64 p.pr.2) := hrow 3 _ rfl
      have q1 : (q : Int) < (T.length : Int) := by omega
      have q0 : (0 : Int) ≤ (q : Int) := by omega
      have q2 : ¬ (q : Int) < 0 := by omega
      have b0 := HR.out.b0
      have b1 := HR.out.b1
      have z0 := HR.out.z 0
      have z1 := HR.out.z 1
      obtain ⟨w6, ew6⟩ : ∃ X, X = (w5.setCell ⟨bx, 0, none⟩ (.int .i64 p.pr.1)).setCell ⟨bx, 1, none⟩ (.int .i64 p.pr.2) := ⟨_, rfl⟩
      have hR6 : RaS w bx p.pr (.slice a0 D.length c0) D w6 := by rw [ew6]; exact HR.out.put
      have hs6 : w6.heap.size = w5.heap.size := by rw [ew6]; simp [World.setCell]
      have hal : Below w6.heap.size w6 (w6.alloc (.cells #[.int .i64 p.pr.1, .int .i64 p.pr.2] 27)) := (Below.refl _ _).alloc (Nat.le_refl _) _
      have HRa : Hid (RaS w bx p.pr (.slice a0 D.length c0) D (w6.alloc (.cells #[.int .i64 p.pr.1, .int .i64 p.pr.2] 27))) := hR6.below hal
      have HNw : Hid (∀ j u, ([.int .i64 p.pr.1, .int .i64 p.pr.2] : List Value)[j]? = some u → (w6.alloc (.cells #[.int .i64 p.pr.1, .int .i64 p.pr.2] 27)).cell? ((⟨w5.heap.size, 0, none⟩ : Addr).add j) = some u) := fun j u hj => (by rw [← hs6, Addr.add_lit, cell_of_row _ _ _ _ _ _ (heap_alloc_new w6 _)]; simpa using hj)
      have hsz : w.heap.size ≤ (w6.alloc (.cells #[.int .i64 p.pr.1, .int .i64 p.pr.2] 27)).heap.size := HRa.out.bel.size
      have HeW : Hid (w6 = (w5.setCell ⟨bx, 0, none⟩ (.int .i64 p.pr.1)).setCell ⟨bx, 1, none⟩ (.int .i64 p.pr.2)) := ew6
      clear hrow hlt hgb ev2 hqe hq hwh hR6 hal ew6 hs6 hcap
      go_wp2_with (at_builtin; rw [← HeW.out]; refine wpList_append_own_at _ rfl _ _ 48 rfl w.heap.size 27 ist (.agg #[.int .i64 0, .int .i64 0]) 2 16 Try.underlying48 hist hz0st hz1st hz2st rfl (by decide) _ _ _ rfl HRa.out.own ⟨w5.heap.size, 0, none⟩ 1 1 [.int .i64 p.pr.1, .int .i64 p.pr.2] rfl rfl HNw.out (stCells_one p.pr) (by unfold maxLen; omega) (by omega) hsz ?_; intro v3 w8 hown3 hgrow3 hnil3 hat3; obtain ⟨g3, c3, e3⟩ := own_succ hown3; subst e3; have HR8 : Hid (RaS w bx p.pr (.slice (some ⟨g3, 0, none⟩) (D.length + 1) c3) (D ++ [p.pr]) w8) := HRa.out.push hown3 hgrow3 hat3; clear hown3 hgrow3 hnil3 hat3 HRa HNw hsz HeW b0 b1 z0 z1 r2 r3)
      go_roundw
      case rel => exact ⟨k + 1, p.pr, D ++ [p.pr], by go_num, by omega, HR8, HUn⟩
      case measure => simp [intOf]; omega

end Go.Proofs.Ytljepindfdhbbaa
