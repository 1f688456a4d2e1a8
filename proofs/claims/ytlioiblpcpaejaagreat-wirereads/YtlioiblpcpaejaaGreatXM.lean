/- The document's Same, of two changes with the same fields; the walk of ChangeBack. -/
import Derived.Test.YtlioiblpcpaejaaGreatXG
import Derived.Test.YtlioiblpcpaejaaGreatXH
import Derived.Test.YtlioiblpcpaejaaGreatXA
import Derived.Test.YtlioiblpcpaejaaGreatXL
import Derived.Test.YtlioiblpcpaejaaGreatXD
import Derived.Test.YtlioiblpcpaejaaGreatXK
namespace Go.Proofs.YtlioiblpcpaejaaGreat
open Go.RowKit
set_option linter.unusedVariables false
set_option linter.unusedSimpArgs false

set_option maxRecDepth 100000 in
set_option maxHeartbeats 8000000 in
theorem refSameCh_eq (ac ar sq : Int) (v1 v2 : Value) (kd nc nr pc pr fc fr : Int) (nm vl : ByteArray) (ds : List Int) (w : World) (h1 : IsI w v1 ds) (h2 : IsI w v2 ds) :
    Calls Tryz.prog 52 #[.agg #[.int .i64 ac, .int .i64 ar, .int .i64 sq, v1, .int .i64 kd, .int .i64 nc, .int .i64 nr, .int .i64 pc, .int .i64 pr, .int .i64 fc, .int .i64 fr, .string nm, .string vl], .agg #[.int .i64 ac, .int .i64 ar, .int .i64 sq, v2, .int .i64 kd, .int .i64 nc, .int .i64 nr, .int .i64 pc, .int .i64 pr, .int .i64 fc, .int .i64 fr, .string nm, .string vl]] w fun e w' => e = .returned (.bool true) ∧ Below w.heap.size w w' := by
  obtain ⟨a1, c1, e1⟩ := h1.form
  subst e1
  obtain ⟨a2, c2, e2⟩ := h2.form
  subst e2
  have K0 := KeptC.start w [.int .i64 ac, .int .i64 ar, .int .i64 sq, .slice a1 ds.length c1, .int .i64 kd, .int .i64 nc, .int .i64 nr, .int .i64 pc, .int .i64 pr, .int .i64 fc, .int .i64 fr, .string nm, .string vl] 57
  have M0 := KeptC.start (w.alloc (.cells #[.int .i64 ac, .int .i64 ar, .int .i64 sq, .slice a1 ds.length c1, .int .i64 kd, .int .i64 nc, .int .i64 nr, .int .i64 pc, .int .i64 pr, .int .i64 fc, .int .i64 fr, .string nm, .string vl] 57)) [.int .i64 ac, .int .i64 ar, .int .i64 sq, .slice a2 ds.length c2, .int .i64 kd, .int .i64 nc, .int .i64 nr, .int .i64 pc, .int .i64 pr, .int .i64 fc, .int .i64 fr, .string nm, .string vl] 57
  rw [show (w.alloc (.cells #[.int .i64 ac, .int .i64 ar, .int .i64 sq, .slice a1 ds.length c1, .int .i64 kd, .int .i64 nc, .int .i64 nr, .int .i64 pc, .int .i64 pr, .int .i64 fc, .int .i64 fr, .string nm, .string vl] 57)).heap.size = w.heap.size + 1 by simp] at M0
  have K1 := K0.step M0.2.2
  have H1 : Hid (IsI _ (.slice a1 ds.length c1) ds) := h1.below K1.2.2
  have H2 : Hid (IsI _ (.slice a2 ds.length c2) ds) := h2.below K1.2.2
  clear h1 h2
  go_enter Tryz.func52, Tryz.ntmps52
  go_wp2_with fail
  refine (sameI_any _ _ ds ds _ H1.out H2.out).mono ?_
  rintro e w1 ⟨rfl, hb1⟩
  have d0 : decide (ds = ds) = true := by simp
  rw [d0]
  have K2 := K1.step hb1
  have M2 := M0.step hb1
  obtain ⟨k_0, k_1, k_2, k_3, k_4, k_5, k_6, k_7, k_8, k_9, k_10, k_11, k_12⟩ := K2.all
  obtain ⟨m_0, m_1, m_2, m_3, m_4, m_5, m_6, m_7, m_8, m_9, m_10, m_11, m_12⟩ := M2.all
  have q1 : (nm.toList == nm.toList) = true := by simp
  have q2 : (vl.toList == vl.toList) = true := by simp
  go_wp2
  go_ret
  exact ⟨rfl, K2.2.2⟩

end Go.Proofs.YtlioiblpcpaejaaGreat

namespace Go.Proofs.YtlioiblpcpaejaaGreat
open Go.RowKit
set_option linter.unusedVariables false
set_option linter.unusedSimpArgs false

/-- The reader, the frame's box, the box of the result. -/
def RF (w : World) (L : Nat → Prop) (g gx : Nat) (p : List UInt8) (k : Nat) (y : Int) (cs : Array Value) (W : World) : Prop :=
  RdIs L W g p k y ∧ W.heap[gx]? = some (.cells cs 26) ∧ W.heap[w.heap.size]? = some (.cells #[.int .i64 0, .int .i64 0, .slice none 0 0, .bool false, .slice none 0 0] 26) ∧ Below w.heap.size w W ∧ ¬ L gx ∧ ¬ L w.heap.size ∧ w.heap.size < gx ∧ w.heap.size ≤ g ∧ ∀ j, L j → j < W.heap.size
theorem RF.call {w : World} {L : Nat → Prop} {g gx : Nat} {p : List UInt8} {k k' : Nat} {y y' : Int} {cs : Array Value} {W W' : World} (h : RF w L g gx p k y cs W) (hr : RdIs L W' g p k' y') (hg : W.grownBy W' (some g)) : RF w L g gx p k' y' cs W' := by
  obtain ⟨h1, h2, h3, h4, h5, h6, h7, h8, h9⟩ := h
  exact ⟨hr, row_grown h2 hg (fun e => by injection e with e; exact h5 (e ▸ h1.low)), row_grown h3 hg (fun e => by injection e with e; exact h6 (e ▸ h1.low)), h4.trans (grownBy.below hg h8 h4.size), h5, h6, h7, h8, fun j hj => Nat.lt_of_lt_of_le (h9 j hj) hg.size⟩
theorem RF.set {w : World} {L : Nat → Prop} {g gx : Nat} {p : List UInt8} {k : Nat} {y : Int} {cs : Array Value} {W : World} (h : RF w L g gx p k y cs W) (i : Nat) (v : Value) : RF w L g gx p k y (cs.setIfInBounds i v) (W.setCell ⟨gx, i, none⟩ v) := by
  obtain ⟨h1, h2, h3, h4, h5, h6, h7, h8, h9⟩ := h
  refine ⟨h1.set h5 i v, heap_setCell_same W gx i _ _ v h2, ?_, h4.setCell (p := ⟨gx, i, none⟩) (Nat.le_of_lt h7) _, h5, h6, h7, h8, fun j hj => by simpa [World.setCell] using h9 j hj⟩
  rw [heap_setCell_other W ⟨gx, i, none⟩ w.heap.size v (by show w.heap.size ≠ gx; omega)]
  exact h3
theorem RF.free {w : World} {L : Nat → Prop} {g gx : Nat} {p : List UInt8} {k : Nat} {y : Int} {cs : Array Value} {W : World} (h : RF w L g gx p k y cs W) : ∀ i, W.frozen? ⟨gx, i, none⟩ = false := fun i => frozen_of_row W gx i _ _ h.2.1
theorem RF.cells {w : World} {L : Nat → Prop} {g gx : Nat} {p : List UInt8} {k : Nat} {y : Int} {v0 v1 v2 v3 v4 : Value} {W : World} (h : RF w L g gx p k y #[v0, v1, v2, v3, v4] W) : W.cell? ⟨gx, 0, none⟩ = some v0 ∧ W.cell? ⟨gx, 1, none⟩ = some v1 ∧ W.cell? ⟨gx, 2, none⟩ = some v2 ∧ W.cell? ⟨gx, 3, none⟩ = some v3 ∧ W.cell? ⟨gx, 4, none⟩ = some v4 := by
  have h := h.2.1
  exact ⟨cell_of_row W gx 0 _ _ _ h, cell_of_row W gx 1 _ _ _ h, cell_of_row W gx 2 _ _ _ h, cell_of_row W gx 3 _ _ _ h, cell_of_row W gx 4 _ _ _ h⟩
/-- The clock that was read, in a row behind the boxes. -/
def DF (N g gx : Nat) (W : World) (v : Value) (ds : List Int) : Prop := OwnI N W v ds ∧ g < N ∧ gx < N
theorem DF.call {N g gx : Nat} {W W' : World} {v : Value} {ds : List Int} (h : DF N g gx W v ds) (hg : W.grownBy W' (some g)) : DF N g gx W' v ds :=
  ⟨h.1.grown hg (fun j e => by injection e with e; have := h.2.1; omega), h.2⟩
theorem DF.set {N g gx : Nat} {W : World} {v : Value} {ds : List Int} (h : DF N g gx W v ds) (i : Nat) (u : Value) : DF N g gx (W.setCell ⟨gx, i, none⟩ u) v ds :=
  ⟨h.1.keep fun j hj _ => heap_setCell_other W ⟨gx, i, none⟩ j u (by have := h.2.2; show j ≠ gx; omega), h.2⟩
/-- The changes that were read, in rows behind the boxes. -/
def CF (M : Nat) (W : World) (v : Value) (D : List (Ch × Value)) : Prop := OwnH M W v D ∧ ∀ x ∈ D, OwnI M W x.2 x.1.deps ∧ Sized x.1
theorem CF.keep {M : Nat} {W W' : World} {v : Value} {D : List (Ch × Value)} (h : CF M W v D) (hk : ∀ j, M ≤ j → j < W.heap.size → W'.heap[j]? = W.heap[j]?) : CF M W' v D := by
  refine ⟨⟨h.1.1, ?_⟩, fun x hx => ⟨(h.2 x hx).1.keep hk, (h.2 x hx).2⟩⟩
  rcases h.1.2 with hn | ⟨q, cap, cur, hv, hq, hc, rest⟩
  · exact .inl hn
  · refine .inr ⟨q, cap, cur, hv, hq, ?_, rest⟩
    rw [hk q hq (Array.getElem?_eq_some_iff.1 hc).1]
    exact hc
theorem CF.below {M : Nat} {W W' : World} {v : Value} {D : List (Ch × Value)} (h : CF M W v D) (hb : Below W.heap.size W W') : CF M W' v D := h.keep fun j _ hj => hb.block j hj
theorem CF.isH {M : Nat} {W : World} {v : Value} {D : List (Ch × Value)} (h : CF M W v D) (hl : D.length ≤ 64) (hd : ∀ x ∈ D, x.1.deps.length ≤ 17592186044416) : IsH W v (D.map Prod.fst) := h.1.isH (by omega) fun x hx => ⟨(h.2 x hx).1.isI (hd x hx), (h.2 x hx).2⟩
def GotFr (f : Fr) (k : Int) (w : World) (e : Ending) (w' : World) : Prop := ∃ a1 c1 a2 c2, e = .returned (.tuple #[.agg #[.int .i64 f.kind, .int .i64 f.from_, .slice a1 f.clock.length c1, .bool f.more, .slice a2 f.changes.length c2], .int .i64 k]) ∧ IsI w' (.slice a1 f.clock.length c1) f.clock ∧ IsH w' (.slice a2 f.changes.length c2) f.changes ∧ Below w.heap.size w w'
theorem GotFr.zero {k : Int} {w w' : World} (h : Below w.heap.size w w') : GotFr Fr.none k w (.returned (.tuple #[.agg #[.int .i64 0, .int .i64 0, .slice none 0 0, .bool false, .slice none 0 0], .int .i64 k])) w' := ⟨none, 0, none, 0, rfl, IsI.non 0, IsH.non 0, h⟩
theorem chs_deps {m : Int} {p : List UInt8} {k : Nat} {y : Int} {l : List Ch} {k' : Nat} {y' : Int} (h : chsR m p k y = (l, k', y')) (h0 : y' = 0) (h1 : 1000 ≤ m) (h2 : m < 9223372036854775808) : ∀ c ∈ l, checkCh c = 0 := by
  have hy : y = 0 := (chsR_strict m h1 h2).zero (p := p) (k := k) (by rw [h]; exact h0)
  subst hy
  have := (chsR_strict m h1 h2).sound p k (by rw [h]; exact h0)
  rw [h] at this
  exact this.2.2

set_option maxRecDepth 100000 in
set_option maxHeartbeats 8000000 in
theorem read_any (v : Value) (p : List UInt8) (w : World) (h1 : IsB w v p) :
    Calls Tryz.prog 4 #[v] w fun e w' => GotFr (readF p).1 (readF p).2 w e w' := by
  have HB0 : Hid (Below w.heap.size w (w.alloc (.cells #[.int .i64 0, .int .i64 0, .slice none 0 0, .bool false, .slice none 0 0] 26))) := (Below.refl _ _).alloc (Nat.le_refl _) _
  have HR0 : Hid ((w.alloc (.cells #[.int .i64 0, .int .i64 0, .slice none 0 0, .bool false, .slice none 0 0] 26)).heap[w.heap.size]? = some (.cells #[.int .i64 0, .int .i64 0, .slice none 0 0, .bool false, .slice none 0 0] 26)) := heap_alloc_new _ _
  have H1 : Hid (IsB (w.alloc (.cells #[.int .i64 0, .int .i64 0, .slice none 0 0, .bool false, .slice none 0 0] 26)) v p) := h1.below HB0.out
  clear h1
  go_enter Tryz.func4, Tryz.ntmps4
  go_wp2_with fail
  refine (open_any v p _ H1.out).mono ?_
  rintro e w1 ⟨v1, rfl, o1, hb1⟩
  have HR1 : Hid (w1.heap[w.heap.size]? = some (.cells #[.int .i64 0, .int .i64 0, .slice none 0 0, .bool false, .slice none 0 0] 26)) := (hb1.block _ (by simp)).trans HR0.out
  have HB1 : Hid (Below w.heap.size w w1) := HB0.out.trans (hb1.mono (by simp))
  have hz1 : w.heap.size < w1.heap.size := row_lt HR1.out
  have HO1 : Hid (OwnB (w.alloc (.cells #[.int .i64 0, .int .i64 0, .slice none 0 0, .bool false, .slice none 0 0] 26)).heap.size w1 v1 (openL p).2.1) := o1
  clear o1 hb1 H1 HR0 HB0
  by_cases ho : (openL p).2.2 = 0
  · skip
    obtain ⟨hk1, hk2, hlo, _, eo, _⟩ := seal_open ho
    obtain ⟨⟨kn, load, z⟩, eR⟩ : ∃ r, openL p = r := ⟨_, rfl⟩
    rw [eR] at ho hk1 hk2 hlo HO1 ⊢
    simp only at ho hk1 hk2 hlo HO1 ⊢
    subst ho
    obtain ⟨⟨fm, k1, y1⟩, e1⟩ : ∃ r, numR load 0 0 = r := ⟨_, rfl⟩
    obtain ⟨⟨cl, k2, y2⟩, e2⟩ : ∃ r, numsR load k1 y1 = r := ⟨_, rfl⟩
    obtain ⟨⟨mo, k3, y3⟩, e3⟩ : ∃ r, rdC load k2 y2 1 = r := ⟨_, rfl⟩
    obtain ⟨⟨lc, k4, y4⟩, e4⟩ : ∃ r, chsR 65536 load k3 y3 = r := ⟨_, rfl⟩
    have ES : frR 65536 load 0 0 = ((fm, cl, mo, lc), k4, y4) := by unfold frR seqR; simp only [e1, e2, e3, e4]
    have HQ : Hid (readF p = if doneL load k4 y4 = 0 ∧ headFr ⟨(kn : Int), fm, cl, decide (mo = 1), lc⟩ = 0 then (⟨(kn : Int), fm, cl, decide (mo = 1), lc⟩, 0) else (Fr.none, 2)) := by
      show _ = _
      unfold readF
      rw [eR, if_pos rfl]
      simp only
      unfold loadF
      rw [ES]
      rfl
    have C1 : Hid (∀ L g W, RdIs L W g load 0 0 → Calls Tryz.prog 10 #[.pointer (some ⟨g, 0, none⟩)] W fun e w' => e = .returned (.int .i64 fm) ∧ RdIs L w' g load k1 y1 ∧ W.grownBy w' (some g)) := fun L g W hW => by
      have := num_rd L g load 0 0 W hW; unfold numR at e1; rw [e1] at this; exact this
    have C2 : Hid (∀ L g W, RdIs L W g load k1 y1 → (∀ j, L j → j < W.heap.size) → Calls Tryz.prog 11 #[.pointer (some ⟨g, 0, none⟩)] W fun e w' => ∃ v, e = .returned v ∧ OwnI W.heap.size w' v cl ∧ RdIs L w' g load k2 y2 ∧ W.grownBy w' (some g)) := fun L g W hW hj => by
      have := readNumbers_rd L g load k1 y1 W hW hj; rw [e2] at this; exact this
    have C3 : Hid (∀ L g W, RdIs L W g load k2 y2 → Calls Tryz.prog 12 #[.pointer (some ⟨g, 0, none⟩), .int .i64 1] W fun e w' => e = .returned (.int .i64 mo) ∧ RdIs L w' g load k3 y3 ∧ W.grownBy w' (some g)) := fun L g W hW => by
      have := count_rd L g load k2 y2 1 W hW; rw [e3] at this; exact this
    have C4 : Hid (∀ L g W, RdIs L W g load k3 y3 → (∀ j, L j → j < W.heap.size) → Calls Tryz.prog 14 #[.pointer (some ⟨g, 0, none⟩)] W fun e w' => ∃ v ee D, e = .returned (.tuple #[v, .int .i64 ee]) ∧ OwnH W.heap.size w' v D ∧ (∀ x ∈ D, OwnI W.heap.size w' x.2 x.1.deps ∧ Sized x.1) ∧ D.length ≤ 64 ∧ W.grownBy w' (some g) ∧ ∃ k' y', RdIs L w' g load k' y' ∧ ((ee = 0 ∧ (lc, k4, y4) = (D.map Prod.fst, k', y')) ∨ (ee ≠ 0 ∧ y4 ≠ 0))) := fun L g W hW hj => by
      have := readChanges_any L g load k3 y3 W hW hj; rw [e4] at this; exact this
    have hcl64 : cl.length ≤ 64 := by
      have h0 : (numsR load k1 y1).1.length ≤ 64 := by
        show (manyOf numR (rdC load k1 y1 64).1.toNat load (rdC load k1 y1 64).2.1 (rdC load k1 y1 64).2.2).1.length ≤ 64
        rw [manyOf_len]
        have := rdC_nat load k1 y1 64
        omega
      rw [e2] at h0
      exact h0
    have HDEP : Hid (y4 = 0 → ∀ c ∈ lc, checkCh c = 0) := fun h0 => chs_deps e4 h0 (by decide) (by decide)
    clear e1 e2 e3 e4 ES eR
    have I1 : Hid (IsB w1 v1 load) := HO1.out.isB (by omega)
    have hl47 : load.length ≤ 140737488355328 := by omega
    go_wp2_with fail
    refine (new_any v1 load _ I1.out hl47).mono ?_
    rintro e w2 ⟨g, rfl, r2, hb2⟩
    have HL : Hid (RdIs (fun j => w1.heap.size ≤ j ∧ j < w2.heap.size) w2 g load 0 0) := r2
    have hgl : w1.heap.size ≤ g := r2.low.1
    have hgl2 : g < w2.heap.size := r2.low.2
    have HR2 : Hid (w2.heap[w.heap.size]? = some (.cells #[.int .i64 0, .int .i64 0, .slice none 0 0, .bool false, .slice none 0 0] 26)) := (hb2.block _ hz1).trans HR1.out
    have HB2 : Hid (Below w.heap.size w w2) := HB1.out.trans (hb2.mono (by omega))
    have hz2 : w1.heap.size ≤ w2.heap.size := hb2.size
    clear r2 hb2 HR1 HB1 HO1 I1
    have BX : Hid (Below w2.heap.size w2 (w2.alloc (.cells #[.int .i64 (kn : Int), .int .i64 0, .slice none 0 0, .bool false, .slice none 0 0] 26))) := (Below.refl _ _).alloc (Nat.le_refl _) _
    have R1 : Hid (RF w (fun j => w1.heap.size ≤ j ∧ j < w2.heap.size) g w2.heap.size load 0 0 #[.int .i64 (kn : Int), .int .i64 0, .slice none 0 0, .bool false, .slice none 0 0] (w2.alloc (.cells #[.int .i64 (kn : Int), .int .i64 0, .slice none 0 0, .bool false, .slice none 0 0] 26))) := ⟨HL.out.below BX.out, heap_alloc_new _ _, (BX.out.block _ (by omega)).trans HR2.out, HB2.out.trans (BX.out.mono (by omega)), fun h => Nat.lt_irrefl _ h.2, fun h => by have := h.1; omega, by omega, by omega, fun j hj => by have := hj.2; simp; omega⟩
    clear HL HR2 HB2 BX
    generalize hLL : (fun j => w1.heap.size ≤ j ∧ j < w2.heap.size) = LL at *
    clear hLL
    go_wp2_with fail
    refine (C1.out _ g _ R1.out.1).mono ?_
    rintro e w3 ⟨rfl, r3, g3⟩
    have Ra : Hid (RF w LL g w2.heap.size load k1 y1 #[.int .i64 (kn : Int), .int .i64 0, .slice none 0 0, .bool false, .slice none 0 0] w3) := R1.out.call r3 g3
    clear r3 g3 R1 C1
    generalize w2.heap.size = gx at *
    clear hz2 hgl2 hgl
    obtain ⟨c_0, c_1, c_2, c_3, c_4⟩ := Ra.out.cells
    have f_1 := Ra.out.free 1
    have R2 : Hid (RF w LL g gx load k1 y1 #[.int .i64 (kn : Int), .int .i64 fm, .slice none 0 0, .bool false, .slice none 0 0] (w3.setCell ⟨gx, 1, none⟩ (.int .i64 fm))) := by
      have h0 := Ra.out.set 1 (.int .i64 fm)
      simp only [List.setIfInBounds_toArray, List.set_cons_zero, List.set_cons_succ] at h0
      exact h0
    clear Ra c_0 c_2 c_3 c_4
    go_wp2_with fail
    clear c_1 f_1
    refine (C2.out _ g _ R2.out.1 R2.out.2.2.2.2.2.2.2.2).mono ?_
    rintro e w4 ⟨v4, rfl, o4, r4, g4⟩
    obtain ⟨ac, cc, ev⟩ := o4.form
    subst ev
    have Ra : Hid (RF w LL g gx load k2 y2 #[.int .i64 (kn : Int), .int .i64 fm, .slice none 0 0, .bool false, .slice none 0 0] w4) := R2.out.call r4 g4
    have hN1 : gx < (w3.setCell ⟨gx, 1, none⟩ (.int .i64 fm)).heap.size := row_lt R2.out.2.1
    have hN2 : g < (w3.setCell ⟨gx, 1, none⟩ (.int .i64 fm)).heap.size := R2.out.1.lt
    have hN3 : w.heap.size < (w3.setCell ⟨gx, 1, none⟩ (.int .i64 fm)).heap.size := row_lt R2.out.2.2.1
    have Da : Hid (DF (w3.setCell ⟨gx, 1, none⟩ (.int .i64 fm)).heap.size g gx w4 (.slice ac cl.length cc) cl) := ⟨o4, hN2, hN1⟩
    clear R2 r4 g4 o4 C2 hN1 hN2
    generalize (w3.setCell ⟨gx, 1, none⟩ (.int .i64 fm)).heap.size = N at *
    obtain ⟨c_0, c_1, c_2, c_3, c_4⟩ := Ra.out.cells
    have f_2 := Ra.out.free 2
    have R3 : Hid (RF w LL g gx load k2 y2 #[.int .i64 (kn : Int), .int .i64 fm, .slice ac cl.length cc, .bool false, .slice none 0 0] (w4.setCell ⟨gx, 2, none⟩ (.slice ac cl.length cc))) := by
      have h0 := Ra.out.set 2 (.slice ac cl.length cc)
      simp only [List.setIfInBounds_toArray, List.set_cons_zero, List.set_cons_succ] at h0
      exact h0
    have D3 : Hid (DF N g gx (w4.setCell ⟨gx, 2, none⟩ (.slice ac cl.length cc)) (.slice ac cl.length cc) cl) := Da.out.set 2 _
    clear Da
    clear Ra c_0 c_1 c_3 c_4
    go_wp2_with fail
    clear c_2 f_2
    refine (flag_any true _).mono ?_
    rintro e w' ⟨rfl, hw⟩
    replace hw := hw.symm
    subst hw
    rw [show flagI true = 1 from rfl]
    go_wp2_with fail
    refine (C3.out _ g _ R3.out.1).mono ?_
    rintro e w5 ⟨rfl, r5, g5⟩
    have Ra : Hid (RF w LL g gx load k3 y3 #[.int .i64 (kn : Int), .int .i64 fm, .slice ac cl.length cc, .bool false, .slice none 0 0] w5) := R3.out.call r5 g5
    have Da : Hid (DF N g gx w5 (.slice ac cl.length cc) cl) := D3.out.call g5
    clear r5 g5 R3 D3 C3
    go_wp2_with fail
    refine (flag_any true _).mono ?_
    rintro e w' ⟨rfl, hw⟩
    replace hw := hw.symm
    subst hw
    rw [show flagI true = 1 from rfl]
    obtain ⟨c_0, c_1, c_2, c_3, c_4⟩ := Ra.out.cells
    have f_3 := Ra.out.free 3
    have R4 : Hid (RF w LL g gx load k3 y3 #[.int .i64 (kn : Int), .int .i64 fm, .slice ac cl.length cc, .bool (decide (mo = 1)), .slice none 0 0] (w5.setCell ⟨gx, 3, none⟩ (.bool (decide (mo = 1))))) := by
      have h0 := Ra.out.set 3 (.bool (decide (mo = 1)))
      simp only [List.setIfInBounds_toArray, List.set_cons_zero, List.set_cons_succ] at h0
      exact h0
    have D4 : Hid (DF N g gx (w5.setCell ⟨gx, 3, none⟩ (.bool (decide (mo = 1)))) (.slice ac cl.length cc) cl) := Da.out.set 3 _
    clear Da
    clear Ra c_0 c_1 c_2 c_4
    have hbm : (mo == 1) = decide (mo = 1) := by rw [Bool.eq_iff_iff]; simp
    generalize hMB : decide (mo = 1) = mb at *
    clear hMB
    go_wp2_with fail
    clear c_3 f_3 hbm
    refine (C4.out _ g _ R4.out.1 R4.out.2.2.2.2.2.2.2.2).mono ?_
    rintro e w6 ⟨v6, ee, D, rfl, o6, d6, l6, g6, k', y', r6, hor⟩
    obtain ⟨ah, ch, ev⟩ := o6.form
    obtain ⟨FD, eFD⟩ : ∃ FD, FD = D.map Prod.fst := ⟨_, rfl⟩
    have hlm : D.length = FD.length := by rw [eFD]; simp
    rw [hlm] at ev
    rw [← eFD] at hor
    have HFD : Hid (FD = D.map Prod.fst) := eFD
    clear hlm eFD
    subst ev
    have Ra : Hid (RF w LL g gx load k' y' #[.int .i64 (kn : Int), .int .i64 fm, .slice ac cl.length cc, .bool (mb), .slice none 0 0] w6) := R4.out.call r6 g6
    have Da : Hid (DF N g gx w6 (.slice ac cl.length cc) cl) := D4.out.call g6
    have hM1 : gx < (w5.setCell ⟨gx, 3, none⟩ (.bool mb)).heap.size := row_lt R4.out.2.1
    have hM3 : w.heap.size < (w5.setCell ⟨gx, 3, none⟩ (.bool mb)).heap.size := row_lt R4.out.2.2.1
    have HCF : Hid (CF (w5.setCell ⟨gx, 3, none⟩ (.bool mb)).heap.size w6 (.slice ah FD.length ch) D) := ⟨o6, d6⟩
    have HOR : Hid ((ee = 0 ∧ (lc, k4, y4) = (FD, k', y')) ∨ (ee ≠ 0 ∧ y4 ≠ 0)) := hor
    clear R4 D4 r6 g6 o6 d6 C4 hor
    generalize (w5.setCell ⟨gx, 3, none⟩ (.bool mb)).heap.size = M at *
    obtain ⟨c_0, c_1, c_2, c_3, c_4⟩ := Ra.out.cells
    have f_4 := Ra.out.free 4
    have R5 : Hid (RF w LL g gx load k' y' #[.int .i64 (kn : Int), .int .i64 fm, .slice ac cl.length cc, .bool (mb), .slice ah FD.length ch] (w6.setCell ⟨gx, 4, none⟩ (.slice ah FD.length ch))) := by
      have h0 := Ra.out.set 4 (.slice ah FD.length ch)
      simp only [List.setIfInBounds_toArray, List.set_cons_zero, List.set_cons_succ] at h0
      exact h0
    have D5 : Hid (DF N g gx (w6.setCell ⟨gx, 4, none⟩ (.slice ah FD.length ch)) (.slice ac cl.length cc) cl) := Da.out.set 4 _
    clear Da
    clear Ra c_0 c_1 c_2 c_3
    have HC5 : Hid (CF M (w6.setCell ⟨gx, 4, none⟩ (.slice ah FD.length ch)) (.slice ah FD.length ch) D) := HCF.out.keep fun j hj _ => heap_setCell_other w6 ⟨gx, 4, none⟩ j _ (by show j ≠ gx; omega)
    clear HCF
    by_cases hee : ee = 0
    · subst hee
      obtain ⟨hlc, hk', hy'⟩ : lc = FD ∧ k4 = k' ∧ y4 = y' := by
        rcases HOR.out with h2 | h2
        · have := h2.2; simpa using this
        · exact absurd rfl h2.1
      replace hlc := hlc.symm
      subst hlc
      subst hk'
      subst hy'
      clear HOR
      go_wp2_with fail
      clear c_4 f_4
      refine (done_any _ g load k4 y4 _ R5.out.1).mono ?_
      rintro e w7 ⟨rfl, m, rfl⟩
      have HRR : Hid (((w6.setCell ⟨gx, 4, none⟩ (.slice ah FD.length ch)).drewN m).heap[w.heap.size]? = some (.cells #[.int .i64 0, .int .i64 0, .slice none 0 0, .bool false, .slice none 0 0] 26) ∧ ((w6.setCell ⟨gx, 4, none⟩ (.slice ah FD.length ch)).drewN m).heap[gx]? = some (.cells #[.int .i64 (kn : Int), .int .i64 fm, .slice ac cl.length cc, .bool (mb), .slice ah FD.length ch] 26) ∧ Below w.heap.size w ((w6.setCell ⟨gx, 4, none⟩ (.slice ah FD.length ch)).drewN m)) := ⟨R5.out.2.2.1, R5.out.2.1, below_drewN R5.out.2.2.2.1 m⟩
      have HDD : Hid (OwnI N ((w6.setCell ⟨gx, 4, none⟩ (.slice ah FD.length ch)).drewN m) (.slice ac cl.length cc) cl ∧ CF M ((w6.setCell ⟨gx, 4, none⟩ (.slice ah FD.length ch)).drewN m) (.slice ah FD.length ch) D) := ⟨D5.out.1.drewN m, HC5.out.keep fun _ _ _ => rfl⟩
      clear R5 D5 HC5
      generalize ((w6.setCell ⟨gx, 4, none⟩ (.slice ah FD.length ch)).drewN m) = W7 at *
      by_cases hd : doneL load k4 y4 = 0
      · rw [hd]
        have hy0 : y4 = 0 := (done_zero hd).1
        have HDL : Hid (∀ x ∈ D, x.1.deps.length ≤ 64) := fun x hx => by
          have := HDEP.out hy0 x.1 (by rw [HFD.out]; exact List.mem_map_of_mem hx)
          exact (clock_lays (fine _ this).deps).1
        have IC : Hid (IsI W7 (.slice ac cl.length cc) cl) := HDD.out.1.isI (by omega)
        have c0 := cell_of_row _ _ 0 _ _ _ HRR.out.2.1
        have c1 := cell_of_row _ _ 1 _ _ _ HRR.out.2.1
        have c2 := cell_of_row _ _ 2 _ _ _ HRR.out.2.1
        have c3 := cell_of_row _ _ 3 _ _ _ HRR.out.2.1
        have c4 := cell_of_row _ _ 4 _ _ _ HRR.out.2.1
        simp only [List.getElem?_toArray, List.getElem?_cons_zero, List.getElem?_cons_succ] at c0 c1 c2 c3 c4
        go_wp2_with fail
        clear c0 c1 c2 c3 c4
        refine (checkHead_any (kn : Int) fm ac cl cc mb ah FD ch _ IC.out).mono ?_
        rintro e w8 ⟨rfl, hb8⟩
        have HR8 : Hid (w8.heap[w.heap.size]? = some (.cells #[.int .i64 0, .int .i64 0, .slice none 0 0, .bool false, .slice none 0 0] 26) ∧ w8.heap[gx]? = some (.cells #[.int .i64 (kn : Int), .int .i64 fm, .slice ac cl.length cc, .bool (mb), .slice ah FD.length ch] 26) ∧ Below w.heap.size w w8) := ⟨(hb8.block _ (row_lt HRR.out.1)).trans HRR.out.1, (hb8.block _ (row_lt HRR.out.2.1)).trans HRR.out.2.1, HRR.out.2.2.trans (hb8.mono HRR.out.2.2.size)⟩
        have HD8 : Hid (OwnI N w8 (.slice ac cl.length cc) cl ∧ CF M w8 (.slice ah FD.length ch) D) := ⟨HDD.out.1.below hb8, HDD.out.2.below hb8⟩
        clear HRR HDD IC hb8
        by_cases hh : headFr ⟨(kn : Int), fm, cl, mb, FD⟩ = 0
        · have HE : Hid (readF p = (⟨(kn : Int), fm, cl, mb, FD⟩, 0)) := by show _ = _; rw [HQ.out, if_pos ⟨hd, hh⟩]
          rw [hh]
          clear hh hd
          go_upto_region 12 with fail
          go_step
          refine wpList_load_row rfl 26 (.tmp 8) rfl gx _ _ _ rfl HR8.out.2.1 Tryz.underlying26 rfl sizeFrame ?_
          (try simp only [Act.put, List.setIfInBounds_toArray, List.set_cons_zero, List.set_cons_succ])
          refine wpList_store_row rfl 26 (.tmp 2) (.tmp 54) rfl w.heap.size _ _ #[.int .i64 (kn : Int), .int .i64 fm, .slice ac cl.length cc, .bool (mb), .slice ah FD.length ch] rfl rfl HR8.out.1 sizeFrame rfl (by simp [Value.oneCell']) ?_
          (try simp only [Act.put, List.setIfInBounds_toArray, List.set_cons_zero, List.set_cons_succ])
          go_wp2
          (try simp only [Exit.inBlock, Exit.then])
          refine bodyPost_ret (v := .tuple #[.agg #[.int .i64 (kn : Int), .int .i64 fm, .slice ac cl.length cc, .bool (mb), .slice ah FD.length ch], .int .i64 0]) ?res4 rfl ?post4
          case res4 => exact results_cell_row2 rfl _ _ w.heap.size _ _ _ _ rfl (setRow_same HR8.out.1) Tryz.underlying26 rfl (by kernel_rfl) rfl
          rw [HE.out]
          refine ⟨ac, cc, ah, ch, rfl, ?_, ?_, below_setRow HR8.out.2.2 (Nat.le_refl _) _⟩
          · exact (HD8.out.1.keep fun j hj _ => setRow_other w8 w.heap.size j _ (by omega)).isI (by omega)
          · show IsH _ (.slice ah FD.length ch) FD
            have hI : ∀ X, IsH (w8.setRow w.heap.size X) (.slice ah FD.length ch) FD := fun X => by
              have h0 := CF.isH (HD8.out.2.keep (W' := w8.setRow w.heap.size X) fun j hj _ => setRow_other w8 w.heap.size j X (by omega)) l6 (fun x hx => by have := HDL.out x hx; omega)
              rw [← HFD.out] at h0
              exact h0
            exact hI _
        · have HE : Hid (readF p = (Fr.none, 2)) := by show _ = _; rw [HQ.out, if_neg (fun h => hh h.2)]
          have q : (headFr ⟨(kn : Int), fm, cl, mb, FD⟩ != 0) = true := by simp [hh]
          clear hh
          generalize headFr ⟨(kn : Int), fm, cl, mb, FD⟩ = z at *
          go_upto_region 11 with fail
          go_step
          refine wpList_plain rfl (fun K hK => ?_)
          go_simp
          refine hK _ _ ?_
          clear hK K
          refine wpList_store_row rfl 26 (.tmp 2) (.tmp 53) rfl w.heap.size _ _ #[.int .i64 0, .int .i64 0, .slice none 0 0, .bool false, .slice none 0 0] rfl rfl HR8.out.1 sizeFrame rfl (by simp [Value.oneCell']) ?_
          (try simp only [Act.put, List.setIfInBounds_toArray, List.set_cons_zero, List.set_cons_succ])
          go_wp2
          (try simp only [Exit.inBlock, Exit.then])
          refine bodyPost_ret (v := .tuple #[.agg #[.int .i64 0, .int .i64 0, .slice none 0 0, .bool false, .slice none 0 0], .int .i64 2]) ?res3 rfl ?post3
          case res3 => exact results_cell_row2 rfl _ _ w.heap.size _ _ _ _ rfl (setRow_same HR8.out.1) Tryz.underlying26 rfl (by kernel_rfl) rfl
          rw [HE.out]
          exact GotFr.zero (below_setRow HR8.out.2.2 (Nat.le_refl _) _)
      · have HE : Hid (readF p = (Fr.none, 2)) := by show _ = _; rw [HQ.out, if_neg (fun h => hd h.1)]
        have q : (doneL load k4 y4 != 0) = true := by simp [hd]
        clear hd
        generalize doneL load k4 y4 = z at *
        go_upto_region 11 with fail
        go_step
        refine wpList_plain rfl (fun K hK => ?_)
        go_simp
        refine hK _ _ ?_
        clear hK K
        refine wpList_store_row rfl 26 (.tmp 2) (.tmp 53) rfl w.heap.size _ _ #[.int .i64 0, .int .i64 0, .slice none 0 0, .bool false, .slice none 0 0] rfl rfl HRR.out.1 sizeFrame rfl (by simp [Value.oneCell']) ?_
        (try simp only [Act.put, List.setIfInBounds_toArray, List.set_cons_zero, List.set_cons_succ])
        go_wp2
        (try simp only [Exit.inBlock, Exit.then])
        refine bodyPost_ret (v := .tuple #[.agg #[.int .i64 0, .int .i64 0, .slice none 0 0, .bool false, .slice none 0 0], .int .i64 2]) ?res2 rfl ?post2
        case res2 => exact results_cell_row2 rfl _ _ w.heap.size _ _ _ _ rfl (setRow_same HRR.out.1) Tryz.underlying26 rfl (by kernel_rfl) rfl
        rw [HE.out]
        exact GotFr.zero (below_setRow HRR.out.2.2 (Nat.le_refl _) _)
    · have HE : Hid (readF p = (Fr.none, 2)) := by
        show _ = _
        rw [HQ.out, if_neg]
        intro h
        rcases HOR.out with h2 | h2
        · exact hee h2.1
        · exact h2.2 (done_zero h.1).1
      have q : (ee != 0) = true := by simp [hee]
      clear hee
      go_upto_region 11 with fail
      clear c_4 f_4
      go_step
      refine wpList_plain rfl (fun K hK => ?_)
      go_simp
      refine hK _ _ ?_
      clear hK K
      refine wpList_store_row rfl 26 (.tmp 2) (.tmp 53) rfl w.heap.size _ _ #[.int .i64 0, .int .i64 0, .slice none 0 0, .bool false, .slice none 0 0] rfl rfl R5.out.2.2.1 sizeFrame rfl (by simp [Value.oneCell']) ?_
      (try simp only [Act.put, List.setIfInBounds_toArray, List.set_cons_zero, List.set_cons_succ])
      go_wp2
      (try simp only [Exit.inBlock, Exit.then])
      refine bodyPost_ret (v := .tuple #[.agg #[.int .i64 0, .int .i64 0, .slice none 0 0, .bool false, .slice none 0 0], .int .i64 2]) ?res1 rfl ?post1
      case res1 => exact results_cell_row2 rfl _ _ w.heap.size _ _ _ _ rfl (setRow_same R5.out.2.2.1) Tryz.underlying26 rfl (by kernel_rfl) rfl
      rw [HE.out]
      exact GotFr.zero (below_setRow R5.out.2.2.2.1 (Nat.le_refl _) _)
  · skip
    have HE : Hid (readF p = (Fr.none, (openL p).2.2)) := by show _ = _; unfold readF; rw [if_neg ho]
    have q : ((openL p).2.2 != 0) = true := by simp [ho]
    clear ho
    generalize openL p = r at *
    obtain ⟨r1, r2, r3⟩ := r
    simp only at q HE ⊢
    go_upto_region 3 with fail
    go_step
    refine wpList_plain rfl (fun K hK => ?_)
    go_simp
    refine hK _ _ ?_
    clear hK K
    refine wpList_plain rfl (fun K hK => ?_)
    go_simp
    refine hK _ _ ?_
    clear hK K
    refine wpList_store_row rfl 26 (.tmp 2) (.tmp 17) rfl w.heap.size _ _ #[.int .i64 0, .int .i64 0, .slice none 0 0, .bool false, .slice none 0 0] rfl rfl HR1.out sizeFrame rfl (by simp [Value.oneCell']) ?_
    (try simp only [Act.put, List.setIfInBounds_toArray, List.set_cons_zero, List.set_cons_succ])
    go_wp2
    (try simp only [Exit.inBlock, Exit.then])
    refine bodyPost_ret (v := .tuple #[.agg #[.int .i64 0, .int .i64 0, .slice none 0 0, .bool false, .slice none 0 0], .int .i64 r3]) ?res0 rfl ?post0
    case res0 => exact results_cell_row2 rfl _ _ w.heap.size _ _ _ _ rfl (setRow_same HR1.out) Tryz.underlying26 rfl (by kernel_rfl) rfl
    rw [HE.out]
    exact GotFr.zero (below_setRow HB1.out (Nat.le_refl _) _)

end Go.Proofs.YtlioiblpcpaejaaGreat

namespace Go.Proofs.YtlioiblpcpaejaaGreat
open Go.RowKit
set_option linter.unusedVariables false
set_option linter.unusedSimpArgs false

theorem rangeAt_below {w W : World} {b o : Nat} {c : Ch} {dv : Value} (h : w.rangeAt b o (chCells c dv)) (hb : Below w.heap.size w W) : W.rangeAt b o (chCells c dv) := fun j v hj => by
  have h0 := h 0 _ rfl
  have hlt : b < w.heap.size := by
    rcases Nat.lt_or_ge b w.heap.size with h' | h'
    · exact h'
    · simp [World.cell?, h'] at h0
  exact (hb.cell (p := ⟨b, o + j, none⟩) hlt).trans (h j v hj)

set_option maxRecDepth 100000 in
set_option maxHeartbeats 4000000 in
theorem sameAll_eq (v1 v2 : Value) (L : List Ch) (w : World) (h1 : IsH w v1 L) (h2 : IsH w v2 L) :
    Calls Tryz.prog 25 #[v1, v2] w fun e w' => e = .returned (.bool true) ∧ Below w.heap.size w w' := by
  obtain ⟨a1, c1, rfl, hc1, hl1, r1⟩ := h1
  obtain ⟨a2, c2, rfl, hc2, hl2, r2⟩ := h2
  have R1 : Hid (L = [] ∨ ∃ b o, a1 = some ⟨b, o, none⟩ ∧ ChsAt w b o L) := r1
  have R2 : Hid (L = [] ∨ ∃ b o, a2 = some ⟨b, o, none⟩ ∧ ChsAt w b o L) := r2
  have q : ((L.length : Int) != (L.length : Int)) = false := by simp
  clear r1 r2
  go_enter Tryz.func25, Tryz.ntmps25
  go_wp2
  go_loopw [5] (fun i wr => ∃ k : Nat, k ≤ L.length ∧ i = .int .i64 (k : Int) ∧ Below w.heap.size w wr) (fun i _ => L.length - (intOf i).toNat)
  case atStart => exact ⟨0, Nat.zero_le _, rfl, Below.refl _ _⟩
  case round =>
    obtain ⟨k, hk, rfl, hb⟩ := hrel
    by_cases hlt : k < L.length
    · obtain ⟨b1, o1, rfl, g1⟩ := R1.out.resolve_left (by intro e; subst e; simp at hlt)
      obtain ⟨b2, o2, rfl, g2⟩ := R2.out.resolve_left (by intro e; subst e; simp at hlt)
      obtain ⟨a3, c3, i3, hs3, x3⟩ := (g1 k hlt).open
      obtain ⟨a4, c4, i4, hs4, x4⟩ := (g2 k hlt).open
      have k1 : (k : Int) < (L.length : Int) := by omega
      have k0 : (0 : Int) ≤ (k : Int) := by omega
      generalize L[k] = c at *
      have X3 : Hid (w.rangeAt b1 (o1 + k * 13) (chCells c (.slice a3 c.deps.length c3))) := x3
      have X4 : Hid (w.rangeAt b2 (o2 + k * 13) (chCells c (.slice a4 c.deps.length c4))) := x4
      have I3 : Hid (IsI w (.slice a3 c.deps.length c3) c.deps) := i3
      have I4 : Hid (IsI w (.slice a4 c.deps.length c4) c.deps) := i4
      have HB : Hid (Below w.heap.size w wr) := hb
      have hsw := hb.size
      clear g1 g2 i3 i4 hs3 hs4 x3 x4 hb
      go_upto_region 6 with fail
      refine wp_region_held_drew (S := fun W' => Below w.heap.size w W') (by kernel_rfl) (below_drewN HB.out 1) (fun hHeld => ?_)
      obtain ⟨Ua0, eW⟩ : ∃ X, X = wr.drew := ⟨_, rfl⟩
      rw [← eW] at hHeld ⊢
      clear eW
      refine wpAnyH_take (i := 0) (oi := ⟨some 17, _, _, _, _, _⟩) (v := ?vax0) rfl (by kernel_rfl) (by kernel_rfl) (by kernel_rfl) (fun _ _ _ h => h) (Or.inl ⟨by rfl, ?hyax0⟩) hHeld ?restax0
      case hyax0 => (intro w hSw; (try dsimp only at hSw); go_simp; try with_reducible rfl)
      simp only [Act.put, List.setIfInBounds_toArray, List.set_cons_zero, List.set_cons_succ]
      refine wpAnyH_take (i := 1) (oi := ⟨some 18, _, _, _, _, _⟩) (v := ?vax1) rfl (by kernel_rfl) (by kernel_rfl) (by kernel_rfl) (fun _ _ _ h => h) (Or.inl ⟨by rfl, ?hyax1⟩) hHeld ?restax1
      case hyax1 => (intro w hSw; (try dsimp only at hSw); go_simp; try with_reducible rfl)
      simp only [Act.put, List.setIfInBounds_toArray, List.set_cons_zero, List.set_cons_succ]
      refine wpAnyH_take (i := 2) (oi := ⟨some 19, _, _, _, _, _⟩) (v := ?vax2) rfl (by kernel_rfl) (by kernel_rfl) (by kernel_rfl) (fun _ _ _ h => h) (Or.inl ⟨by rfl, ?hyax2⟩) hHeld ?restax2
      case hyax2 => (intro w hSw; (try dsimp only at hSw); go_simp; try with_reducible rfl)
      simp only [Act.put, List.setIfInBounds_toArray, List.set_cons_zero, List.set_cons_succ]
      refine wpAnyH_take (i := 3) (oi := ⟨some 20, _, _, _, _, _⟩) (v := .agg (chCells c (.slice a3 c.deps.length c3)).toArray) rfl (by kernel_rfl) (by kernel_rfl) (by kernel_rfl) (fun _ _ _ h => h) (yieldsIf_load_mid (by rfl) 57 (.tmp 19) rfl b1 (o1 + k * 13) rfl (chCells c (.slice a3 c.deps.length c3)) _ (fun W hS => rangeAt_below X3.out hS) Tryz.underlying57 rfl sizeChange) hHeld ?_
      simp only [Act.put, List.setIfInBounds_toArray, List.set_cons_zero, List.set_cons_succ]
      refine wpAnyH_take (i := 4) (oi := ⟨some 21, _, _, _, _, _⟩) (v := ?vax4) rfl (by kernel_rfl) (by kernel_rfl) (by kernel_rfl) (fun _ _ _ h => h) (Or.inl ⟨by rfl, ?hyax4⟩) hHeld ?restax4
      case hyax4 => (intro w hSw; (try dsimp only at hSw); go_simp; try with_reducible rfl)
      simp only [Act.put, List.setIfInBounds_toArray, List.set_cons_zero, List.set_cons_succ]
      refine wpAnyH_take (i := 5) (oi := ⟨some 22, _, _, _, _, _⟩) (v := ?vax5) rfl (by kernel_rfl) (by kernel_rfl) (by kernel_rfl) (fun _ _ _ h => h) (Or.inl ⟨by rfl, ?hyax5⟩) hHeld ?restax5
      case hyax5 => (intro w hSw; (try dsimp only at hSw); go_simp; try with_reducible rfl)
      simp only [Act.put, List.setIfInBounds_toArray, List.set_cons_zero, List.set_cons_succ]
      refine wpAnyH_take (i := 6) (oi := ⟨some 23, _, _, _, _, _⟩) (v := ?vax6) rfl (by kernel_rfl) (by kernel_rfl) (by kernel_rfl) (fun _ _ _ h => h) (Or.inl ⟨by rfl, ?hyax6⟩) hHeld ?restax6
      case hyax6 => (intro w hSw; (try dsimp only at hSw); go_simp; try with_reducible rfl)
      simp only [Act.put, List.setIfInBounds_toArray, List.set_cons_zero, List.set_cons_succ]
      refine wpAnyH_take (i := 7) (oi := ⟨some 24, _, _, _, _, _⟩) (v := .agg (chCells c (.slice a4 c.deps.length c4)).toArray) rfl (by kernel_rfl) (by kernel_rfl) (by kernel_rfl) (fun _ _ _ h => h) (yieldsIf_load_mid (by rfl) 57 (.tmp 23) rfl b2 (o2 + k * 13) rfl (chCells c (.slice a4 c.deps.length c4)) _ (fun W hS => rangeAt_below X4.out hS) Tryz.underlying57 rfl sizeChange) hHeld ?_
      simp only [Act.put, List.setIfInBounds_toArray, List.set_cons_zero, List.set_cons_succ]
      refine wpAnyH_ready (rs := [8]) (by kernel_rfl) (by simp) ?_
      refine AllReadyH.cons (o := ⟨some 25, _, _, _, _, _⟩) rfl (fun K hK => ?_) AllReadyH.nil
      go_simp
      refine (refSameCh_eq c.ac c.ar c.seq (.slice a3 c.deps.length c3) (.slice a4 c.deps.length c4) c.kind c.nc c.nr c.pc c.pr c.fc c.fr c.name c.value c.deps _ (I3.out.below hHeld) (I4.out.below hHeld)).mono ?_
      rintro e Va1 ⟨rfl, hb⟩
      (try go_wp2_with fail)
      refine hK.out _ _ (hHeld.trans (hb.mono hHeld.size)) (fun hHeld2 => ?_)
      clear hK K hHeld
      have hHeld := hHeld2
      clear hHeld2
      (try simp only [Act.put, List.setIfInBounds_toArray, List.set_cons_zero, List.set_cons_succ])
      clear hb
      refine wpAnyH_take (i := 9) (oi := ⟨some 26, _, _, _, _, _⟩) (v := ?va_8x9) rfl (by kernel_rfl) (by kernel_rfl) (by kernel_rfl) (fun _ _ _ h => h) (Or.inl ⟨by rfl, ?hya_8x9⟩) hHeld ?resta_8x9
      case hya_8x9 => (intro w hSw; (try dsimp only at hSw); go_simp; try with_reducible rfl)
      simp only [Act.put, List.setIfInBounds_toArray, List.set_cons_zero, List.set_cons_succ]
      refine wpAnyH_done (by kernel_rfl) ?_ _
      have HZ := hHeld
      clear hHeld
      go_wp2
      go_roundw
      case rel => exact ⟨k + 1, by omega, by go_num, HZ⟩
      case measure => simp [intOf]; omega
    · go_wp2
      go_ret
      exact ⟨rfl, hb⟩

set_option maxRecDepth 100000 in
set_option maxHeartbeats 2000000 in
theorem sameFr_eq (kd fm : Int) (a1 : Option Addr) (cl : List Int) (c1 : Nat) (mo : Bool) (a2 : Option Addr) (L : List Ch) (c2 : Nat) (a3 : Option Addr) (c3 : Nat) (a4 : Option Addr) (c4 : Nat) (w : World) (h1 : IsI w (.slice a1 cl.length c1) cl) (h2 : IsH w (.slice a2 L.length c2) L) (h3 : IsI w (.slice a3 cl.length c3) cl) (h4 : IsH w (.slice a4 L.length c4) L) :
    Calls Tryz.prog 6 #[.agg #[.int .i64 kd, .int .i64 fm, .slice a1 cl.length c1, .bool mo, .slice a2 L.length c2], .agg #[.int .i64 kd, .int .i64 fm, .slice a3 cl.length c3, .bool mo, .slice a4 L.length c4]] w fun e w' => e = .returned (.bool true) ∧ Below w.heap.size w w' := by
  have K0 := KeptC.start w [.int .i64 kd, .int .i64 fm, .slice a1 cl.length c1, .bool mo, .slice a2 L.length c2] 26
  obtain ⟨W1, eW1⟩ : ∃ W1, W1 = w.alloc (.cells #[.int .i64 kd, .int .i64 fm, .slice a1 cl.length c1, .bool mo, .slice a2 L.length c2] 26) := ⟨_, rfl⟩
  have hz1 : W1.heap.size = w.heap.size + 1 := by rw [eW1]; simp
  have K1 : KeptC w w.heap.size [.int .i64 kd, .int .i64 fm, .slice a1 cl.length c1, .bool mo, .slice a2 L.length c2] W1 := by rw [eW1]; exact K0
  have B1 := (Below.refl W1.heap.size W1).alloc (Nat.le_refl _) (.cells #[.int .i64 kd, .int .i64 fm, .slice a3 cl.length c3, .bool mo, .slice a4 L.length c4] 26)
  have KA := K1.step B1
  have KB := KeptC.start W1 [.int .i64 kd, .int .i64 fm, .slice a3 cl.length c3, .bool mo, .slice a4 L.length c4] 26
  rw [hz1] at KB
  rw [eW1] at KA KB
  clear K0 K1 B1 hz1 eW1
  clear W1
  have H1 : Hid (IsI w (.slice a1 cl.length c1) cl) := h1
  have H2 : Hid (IsH w (.slice a2 L.length c2) L) := h2
  have H3 : Hid (IsI w (.slice a3 cl.length c3) cl) := h3
  have H4 : Hid (IsH w (.slice a4 L.length c4) L) := h4
  clear h1 h2 h3 h4
  obtain ⟨k_0, k_1, k_2, k_3, k_4⟩ := KA.five
  obtain ⟨j_0, j_1, j_2, j_3, j_4⟩ := KB.five
  have q1 : (kd == kd) = true := by simp
  have q2 : (fm == fm) = true := by simp
  go_enter Tryz.func6, Tryz.ntmps6
  go_wp2_with fail
  refine (sameI_any _ _ cl cl _ (H1.out.below KA.2.2) (H3.out.below KA.2.2)).mono ?_
  rintro e w1 ⟨rfl, hb1⟩
  have KA1 := KA.step hb1
  have KB1 := KB.step hb1
  rw [show decide (cl = cl) = true by simp]
  clear k_0 k_1 k_2 k_3 k_4 j_0 j_1 j_2 j_3 j_4 hb1
  obtain ⟨k_0, k_1, k_2, k_3, k_4⟩ := KA1.five
  obtain ⟨j_0, j_1, j_2, j_3, j_4⟩ := KB1.five
  have q3 : (mo == mo) = true := by simp
  go_wp2_with fail
  refine (sameAll_eq _ _ L _ (H2.out.below KA1.2.2) (H4.out.below KA1.2.2)).mono ?_
  rintro e w2 ⟨rfl, hb2⟩
  have KA2 := KA1.step hb2
  go_wp2
  go_ret
  exact ⟨rfl, KA2.2.2⟩

theorem wake_ok : checkFr ⟨2, 2, [1, 0, 3], false, []⟩ = 0 := by decide
theorem wake_len : (frameL 2 (loadFr ⟨2, 2, [1, 0, 3], false, []⟩)).length = 16 := by
  rw [frameL_length]
  decide

set_option maxRecDepth 100000 in
set_option maxHeartbeats 2000000 in
theorem wawake_any (w : World) : Calls Tryz.prog 7 #[] w fun e w' => e = .returned (.bool true) ∧ Below w.heap.size w w' := by
  have BA : Hid (Below w.heap.size w (w.alloc (.cells #[.int .i64 1, .int .i64 0, .int .i64 3] 3))) := (Below.refl _ _).alloc (Nat.le_refl _) _
  have I0 : Hid (IsI (w.alloc (.cells #[.int .i64 1, .int .i64 0, .int .i64 3] 3)) (.slice (some ⟨w.heap.size, 0, none⟩) ([1, 0, 3] : List Int).length 3) [1, 0, 3]) := by
    refine ⟨_, 3, rfl, by simp, by simp, .inr ⟨w.heap.size, 0, rfl, fun i hi => ?_⟩⟩
    rw [cell_of_row _ _ _ _ _ _ (heap_alloc_new w _)]
    rcases show i = 0 ∨ i = 1 ∨ i = 2 by simp at hi; omega with rfl | rfl | rfl <;> rfl
  have CW : Hid (∀ W, IsI W (.slice (some ⟨w.heap.size, 0, none⟩) 3 3) [1, 0, 3] → Calls Tryz.prog 26 #[.agg #[.int .i64 2, .int .i64 2, .slice (some ⟨w.heap.size, 0, none⟩) 3 3, .bool false, .slice none 0 0]] W fun e w' => ∃ v, e = .returned (.tuple #[v, .int .i64 0]) ∧ OwnB W.heap.size w' v (frameL 2 (loadFr ⟨2, 2, [1, 0, 3], false, []⟩)) ∧ Below W.heap.size W w') := fun W hI => writeOk_any 2 2 (some ⟨w.heap.size, 0, none⟩) [1, 0, 3] 3 false none [] 0 W hI (IsH.non 0) wake_ok
  have HR : Hid (readF (frameL 2 (loadFr ⟨2, 2, [1, 0, 3], false, []⟩)) = (⟨2, 2, [1, 0, 3], false, []⟩, 0)) := readF_full wake_ok
  have HLn : Hid ((frameL 2 (loadFr ⟨2, 2, [1, 0, 3], false, []⟩)).length = 16) := wake_len
  go_enter Tryz.func7, Tryz.ntmps7
  go_wp2_with fail
  refine (CW.out _ I0.out).mono ?_
  rintro e w1 ⟨v1, rfl, o1, hb1⟩
  have I1 : Hid (IsB w1 v1 (frameL 2 (loadFr ⟨2, 2, [1, 0, 3], false, []⟩))) := o1.isB (by rw [HLn.out]; omega)
  have B1 : Hid (Below w.heap.size w w1) := BA.out.trans (hb1.mono (by simp))
  obtain ⟨a1, c1, e1⟩ := I1.out.form
  rw [HLn.out] at e1
  subst e1
  clear o1 hb1 BA I0 CW
  go_wp2_with fail
  refine (read_any _ _ _ I1.out).mono ?_
  rw [HR.out]
  rintro e w2 ⟨a3, c3, a4, c4, rfl, _, _, hb2⟩
  have B2 : Hid (Below w.heap.size w w2) := B1.out.trans (hb2.mono B1.out.size)
  have hz2 := B2.out.size
  clear hb2 B1
  go_wp2
  go_ret
  exact ⟨rfl, B2.out.alloc hz2 _⟩

end Go.Proofs.YtlioiblpcpaejaaGreat
