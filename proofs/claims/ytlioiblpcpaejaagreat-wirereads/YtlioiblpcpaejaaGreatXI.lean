/- What wire's readStamp and readNumbers do with a reader. -/
import Derived.Test.YtlioiblpcpaejaaGreatXE
import Derived.Deep.Cut
import Derived.Test.YtlioiblpcpaejaaGreatXH
import Derived.Laws.CopyOwn
namespace Go.Proofs.YtlioiblpcpaejaaGreat
open Go.RowKit
set_option linter.unusedVariables false
set_option linter.unusedSimpArgs false

theorem OwnI.grown {B : Nat} {w w' : World} {v : Value} {D : List Int} {r : Option Nat} (h : OwnI B w v D) (hb : w.grownBy w' r) (hr : ∀ j, r = some j → j < B) : OwnI B w' v D := by
  refine ⟨h.1, ?_⟩
  rcases h.2 with hn | ⟨g, cap, cur, hv, hg, hc, rest⟩
  · exact .inl hn
  · refine .inr ⟨g, cap, cur, hv, hg, ?_, rest⟩
    have hlt : g < w.heap.size := (Array.getElem?_eq_some_iff.1 hc).1
    rw [hb.block g hlt (fun e => by have := hr g e.symm; omega)]
    exact hc
theorem row_grown {k : Nat} {W W' : World} {r : Option Nat} {cs : Array Value} {t : TypeId} (h : W.heap[k]? = some (.cells cs t)) (hb : W.grownBy W' r) (hne : some k ≠ r) : W'.heap[k]? = some (.cells cs t) :=
  (hb.block k (Array.getElem?_eq_some_iff.1 h).1 hne).trans h
theorem RdIs.set {L : Nat → Prop} {w : World} {g : Nat} {p : List UInt8} {k : Nat} {y : Int} (h : RdIs L w g p k y) {b : Nat} (hb : ¬ L b) (i : Nat) (u : Value) : RdIs L (w.setCell ⟨b, i, none⟩ u) g p k y :=
  h.kept fun j hj _ => heap_setCell_other w ⟨b, i, none⟩ j u (fun e => hb (by have e2 : j = b := e; exact e2 ▸ hj))
theorem RdIs.grown {L : Nat → Prop} {w w' : World} {g : Nat} {p : List UInt8} {k : Nat} {y : Int} (h : RdIs L w g p k y) {r : Option Nat} (hb : w.grownBy w' r) (hr : ∀ j, r = some j → ¬ L j) : RdIs L w' g p k y :=
  h.kept fun j hj hs => hb.block j hs (fun e => hr j e.symm hj)
theorem grownBy.setNew {a b : World} {r : Option Nat} (h : a.grownBy b r) {k : Nat} (hk : a.heap.size ≤ k) (i : Nat) (u : Value) : a.grownBy (b.setCell ⟨k, i, none⟩ u) r :=
  ⟨h.os, h.tape, h.output, by simpa [World.setCell] using h.size, fun j hj hne => (heap_setCell_other b ⟨k, i, none⟩ j u (by show j ≠ k; omega)).trans (h.block j hj hne)⟩
theorem grownBy.more {a b c : World} {r : Option Nat} (h : a.grownBy b r) (k : Below b.heap.size b c) : a.grownBy c r := grownBy.trans2 h (grownBy.ofBelow k r)
theorem grownBy.own {a b c : World} {r s : Option Nat} (h : a.grownBy b r) (k : b.grownBy c s) (hs : ∀ j, s = some j → a.heap.size ≤ j) : a.grownBy c r :=
  ⟨k.os.trans h.os, k.tape.trans h.tape, k.output.trans h.output, Nat.le_trans h.size k.size, fun j hj hne => (k.block j (Nat.lt_of_lt_of_le hj h.size) (fun e => by have := hs j e.symm; omega)).trans (h.block j hj hne)⟩
theorem grownBy.below {a b : World} {g : Nat} (h : a.grownBy b (some g)) {n : Nat} (hn : n ≤ g) (hna : n ≤ a.heap.size) : Below n a b :=
  ⟨h.os, h.tape, h.output, h.size, fun j hj => h.block j (Nat.lt_of_lt_of_le hj hna) (fun e => by injection e with e; omega)⟩

set_option maxHeartbeats 2000000 in
theorem readStamp_rd (L : Nat → Prop) (g : Nat) (p : List UInt8) (k : Nat) (y : Int) (w : World) (h : RdIs L w g p k y) (hL : ∀ j, L j → j < w.heap.size) :
    Calls Tryz.prog 84 #[.pointer (some ⟨g, 0, none⟩)] w fun e w' => e = .returned (.agg #[.int .i64 (stampR p k y).1.1, .int .i64 (stampR p k y).1.2]) ∧ RdIs L w' g p (stampR p k y).2.1 (stampR p k y).2.2 ∧ w.grownBy w' (some g) := by
  obtain ⟨⟨n1, k1, y1⟩, e1⟩ : ∃ r, rdC p k y 9223372036854775807 = r := ⟨_, rfl⟩
  obtain ⟨⟨n2, k2, y2⟩, e2⟩ : ∃ r, rdC p k1 y1 9223372036854775807 = r := ⟨_, rfl⟩
  have ES : stampR p k y = ((n1, n2), k2, y2) := by unfold stampR seqR numR; simp only [e1, e2]
  rw [ES]
  have C1 : Hid (∀ W, RdIs L W g p k y → Calls Tryz.prog 10 #[.pointer (some ⟨g, 0, none⟩)] W fun e w' => e = .returned (.int .i64 n1) ∧ RdIs L w' g p k1 y1 ∧ W.grownBy w' (some g)) := fun W hW => by
    have := num_rd L g p k y W hW; rw [e1] at this; exact this
  have C2 : Hid (∀ W, RdIs L W g p k1 y1 → Calls Tryz.prog 10 #[.pointer (some ⟨g, 0, none⟩)] W fun e w' => e = .returned (.int .i64 n2) ∧ RdIs L w' g p k2 y2 ∧ W.grownBy w' (some g)) := fun W hW => by
    have := num_rd L g p k1 y1 W hW; rw [e2] at this; exact this
  have hng : ¬ L w.heap.size := fun e => Nat.lt_irrefl _ (hL _ e)
  have hne : some w.heap.size ≠ (some g : Option Nat) := fun e => by injection e with e; exact hng (e.symm ▸ h.low)
  have HB0 : Hid (Below w.heap.size w (w.alloc (.cells #[.int .i64 0, .int .i64 0] 55))) := (Below.refl _ _).alloc (Nat.le_refl _) _
  have H : Hid (RdIs L (w.alloc (.cells #[.int .i64 0, .int .i64 0] 55)) g p k y) := h.below HB0.out
  have HR0 : Hid ((w.alloc (.cells #[.int .i64 0, .int .i64 0] 55)).heap[w.heap.size]? = some (.cells #[.int .i64 0, .int .i64 0] 55)) := heap_alloc_new _ _
  have HN : Hid (¬ L w.heap.size) := hng
  have HNE : Hid (some w.heap.size ≠ (some g : Option Nat)) := hne
  clear h e1 e2 ES hng hne hL
  go_enter Tryz.func84, Tryz.ntmps84
  go_wp2_with fail
  refine (C1.out _ H.out).mono ?_
  rintro e w1 ⟨rfl, r1, g1⟩
  have H1 : Hid (RdIs L w1 g p k1 y1) := r1
  have HG1 : Hid (w.grownBy w1 (some g)) := grownBy.trans2 (grownBy.ofBelow HB0.out _) g1
  have HR1 : Hid (w1.heap[w.heap.size]? = some (.cells #[.int .i64 0, .int .i64 0] 55)) := row_grown HR0.out g1 HNE.out
  clear r1 g1 H
  go_wp2_with fail
  refine (C2.out _ H1.out).mono ?_
  rintro e w2 ⟨rfl, r2, g2⟩
  have H2 : Hid (RdIs L w2 g p k2 y2) := r2
  have HG2 : Hid (w.grownBy w2 (some g)) := grownBy.trans2 HG1.out g2
  have HR2 : Hid (w2.heap[w.heap.size]? = some (.cells #[.int .i64 0, .int .i64 0] 55)) := row_grown HR1.out g2 HNE.out
  clear r2 g2 H1 HG1 HR1
  have k0 := cell_of_row _ _ 0 _ _ _ HR2.out
  have k1 := cell_of_row _ _ 1 _ _ _ HR2.out
  have f0 := frozen_of_row _ _ 0 _ _ HR2.out
  have f1 := frozen_of_row _ _ 1 _ _ HR2.out
  simp only [List.getElem?_toArray, List.getElem?_cons_zero, List.getElem?_cons_succ] at k0 k1
  have HR4 : Hid (((w2.setCell ⟨w.heap.size, 0, none⟩ (.int .i64 n1)).setCell ⟨w.heap.size, 1, none⟩ (.int .i64 n2)).heap[w.heap.size]? = some (.cells #[.int .i64 n1, .int .i64 n2] 55)) := heap_setCell_same _ _ 1 _ _ (.int .i64 n2) (heap_setCell_same w2 _ 0 _ _ (.int .i64 n1) HR2.out)
  go_wp2
  (try simp only [Exit.inBlock, Exit.then])
  refine bodyPost_ret (v := .agg #[.int .i64 n1, .int .i64 n2]) ?res rfl ?post
  case res => exact results_cell_row rfl _ _ w.heap.size _ _ _ _ rfl HR4.out Tryz.underlying55 rfl (by kernel_rfl)
  exact ⟨rfl, (H2.out.set HN.out 0 _).set HN.out 1 _, grownBy.setNew (grownBy.setNew HG2.out (Nat.le_refl _) 0 _) (Nat.le_refl _) 1 _⟩

theorem manyOf_succ {α : Type} (f : Rdr α) (n : Nat) (p : List UInt8) (k : Nat) (y : Int) {l : List α} {k1 : Nat} {y1 : Int} {a : α} {k2 : Nat} {y2 : Int} (h1 : manyOf f n p k y = (l, k1, y1)) (h2 : f p k1 y1 = (a, k2, y2)) : manyOf f (n + 1) p k y = (l ++ [a], k2, y2) := by
  show ((manyOf f n p k y).1 ++ [(f p (manyOf f n p k y).2.1 (manyOf f n p k y).2.2).1], (f p (manyOf f n p k y).2.1 (manyOf f n p k y).2.2).2) = _
  rw [h1]
  show (l ++ [(f p k1 y1).1], (f p k1 y1).2) = _
  rw [h2]
theorem manyOf_len {α : Type} (f : Rdr α) (n : Nat) (p : List UInt8) (k : Nat) (y : Int) : (manyOf f n p k y).1.length = n := by
  induction n with
  | zero => rfl
  | succ n ih =>
    show ((manyOf f n p k y).1 ++ [_]).length = n + 1
    rw [List.length_append, ih]; rfl
theorem rdC_nat (p : List UInt8) (k : Nat) (y m : Int) : 0 ≤ (rdC p k y m).1 ∧ ((rdC p k y m).1 ≤ m ∨ (rdC p k y m).1 = 0) := by
  unfold rdC cntL
  split
  · cases numL (p.drop k) with
    | none => simp
    | some x =>
      obtain ⟨n, s⟩ := x
      simp only
      split
      · simp
      · simp only [if_pos]
        constructor
        · omega
        · left; omega
  · simp

set_option maxRecDepth 100000 in
set_option maxHeartbeats 2000000 in
theorem readNumbers_rd (L : Nat → Prop) (g : Nat) (p : List UInt8) (k : Nat) (y : Int) (w : World) (h : RdIs L w g p k y) (hL : ∀ j, L j → j < w.heap.size) :
    Calls Tryz.prog 11 #[.pointer (some ⟨g, 0, none⟩)] w fun e w' => ∃ v, e = .returned v ∧ OwnI w.heap.size w' v (numsR p k y).1 ∧ RdIs L w' g p (numsR p k y).2.1 (numsR p k y).2.2 ∧ w.grownBy w' (some g) := by
  obtain ⟨⟨n1, k1, y1⟩, e1⟩ : ∃ r, rdC p k y 64 = r := ⟨_, rfl⟩
  have hn1 : 0 ≤ n1 ∧ n1 ≤ 64 := by have := rdC_nat p k y 64; rw [e1] at this; simp only at this; omega
  obtain ⟨m, rfl⟩ : ∃ m : Nat, n1 = (m : Int) := ⟨n1.toNat, by omega⟩
  have hm : m ≤ 64 := by omega
  clear hn1
  have ES : numsR p k y = manyOf numR m p k1 y1 := by unfold numsR countOf; rw [e1]; simp
  rw [ES]
  have C1 : Hid (∀ W, RdIs L W g p k y → Calls Tryz.prog 12 #[.pointer (some ⟨g, 0, none⟩), .int .i64 64] W fun e w' => e = .returned (.int .i64 (m : Int)) ∧ RdIs L w' g p k1 y1 ∧ W.grownBy w' (some g)) := fun W hW => by
    have := count_rd L g p k y 64 W hW; rw [e1] at this; exact this
  have hlow : Hid (¬ ∃ j, L j ∧ w.heap.size ≤ j) := fun ⟨j, hj, hs⟩ => by have := hL j hj; omega
  have hg := hL g h.low
  have H : Hid (RdIs L w g p k y) := h
  obtain ⟨i0, hi, hz0, hz1, hz2⟩ := info_parts infoInt
  have HI : Hid (Tryz.prog.info? 3 = some i0 ∧ i0.zero = some (.int .i64 0) ∧ i0.size = 1 ∧ i0.bytes = 8) := ⟨hi, hz0, hz1, hz2⟩
  clear h e1 ES hL hi hz0 hz1 hz2
  go_enter Tryz.func11, Tryz.ntmps11
  go_wp2_with fail
  refine (C1.out _ H.out).mono ?_
  rintro e w1 ⟨rfl, r1, g1⟩
  have H1 : Hid (RdIs L w1 g p k1 y1) := r1
  have HG1 : Hid (w.grownBy w1 (some g)) := g1
  clear r1 g1 H
  go_wp2
  go_loopw [3, 6] (fun u i wr => ∃ j : Nat, j ≤ m ∧ i = .int .i64 (j : Int) ∧ Hid (OwnI w.heap.size wr u (manyOf numR j p k1 y1).1 ∧ RdIs L wr g p (manyOf numR j p k1 y1).2.1 (manyOf numR j p k1 y1).2.2 ∧ w.grownBy wr (some g))) (fun _ i _ => m - (intOf i).toNat)
  case atStart => exact ⟨0, Nat.zero_le _, rfl, OwnI.nil0 _ _, H1.out, HG1.out⟩
  case round =>
    obtain ⟨j, hj, rfl, HO⟩ := hrel
    by_cases hlt : j < m
    · have j1 : (j : Int) < (m : Int) := by omega
      obtain ⟨⟨l, k2, y2⟩, e2⟩ : ∃ r, manyOf numR j p k1 y1 = r := ⟨_, rfl⟩
      obtain ⟨⟨n3, k3, y3⟩, e3⟩ : ∃ r, numR p k2 y2 = r := ⟨_, rfl⟩
      have HE3 : Hid (manyOf numR (j + 1) p k1 y1 = (l ++ [n3], k3, y3)) := manyOf_succ numR j p k1 y1 e2 e3
      have hl : l.length = j := by have := manyOf_len numR j p k1 y1; rw [e2] at this; exact this
      rw [e2] at HO
      have C3 : Hid (∀ W, RdIs L W g p k2 y2 → Calls Tryz.prog 10 #[.pointer (some ⟨g, 0, none⟩)] W fun e w' => e = .returned (.int .i64 n3) ∧ RdIs L w' g p k3 y3 ∧ W.grownBy w' (some g)) := fun W hW => by
        have := num_rd L g p k2 y2 W hW; unfold numR at e3; rw [e3] at this; exact this
      have HLL : Hid (l.length = j) := hl
      clear e2 e3 hl
      go_wp2_with fail
      refine (C3.out _ HO.out.2.1).mono ?_
      rintro e w3 ⟨rfl, r3, g3⟩
      have H3 : Hid (OwnI w.heap.size w3 u3 l ∧ RdIs L w3 g p k3 y3 ∧ w.grownBy w3 (some g)) := ⟨HO.out.1.grown g3 (fun z hz => by injection hz with hz; omega), r3, grownBy.trans2 HO.out.2.2 g3⟩
      clear r3 g3 HO C3
      have hl2 : l.length ≤ 64 := by have := HLL.out; omega
      have hs3 := H3.out.2.2.size
      have HAL : Hid (Below w3.heap.size w3 (w3.alloc (.cells #[.int .i64 n3] 3))) := (Below.refl _ _).alloc (Nat.le_refl _) _
      go_wp2_with (at_builtin; refine wpList_append_own _ rfl _ _ 23 rfl w.heap.size 3 i0 (.int .i64 0) 1 8 Tryz.underlying23 HI.out.1 HI.out.2.1 HI.out.2.2.1 HI.out.2.2.2 rfl (by decide) _ _ _ rfl (World.ownsRow.alloc H3.out.1 _) ⟨w3.heap.size, 0, none⟩ 1 1 [.int .i64 n3] rfl rfl (cell_one_new _ _ _) (fun x hx => by simp at hx; subst hx; rfl) (by unfold maxLen; omega) (by omega) (by simp; omega) ?_; intro v4 w4 hown4 hgrow4 hnil4)
      have HN4 : Hid (OwnI w.heap.size w4 v4 (manyOf numR (j + 1) p k1 y1).1 ∧ RdIs L w4 g p (manyOf numR (j + 1) p k1 y1).2.1 (manyOf numR (j + 1) p k1 y1).2.2 ∧ w.grownBy w4 (some g)) := by
        show _ ∧ _
        rw [HE3.out]
        exact ⟨OwnI.snoc hown4, (H3.out.2.1.below HAL.out).grown hgrow4 (fun z hz hLz => hlow.out ⟨z, hLz, H3.out.1.block z hz⟩), grownBy.own (grownBy.more H3.out.2.2 HAL.out) hgrow4 (fun z hz => H3.out.1.block z hz)⟩
      clear hown4 hgrow4 hnil4 H3 HE3 HAL
      go_wp2
      go_roundw
      case rel => exact ⟨j + 1, by omega, by go_num, HN4⟩
      case measure => simp [intOf]; omega
    · obtain rfl : j = m := by omega
      go_wp2
      go_ret
      exact ⟨_, rfl, HO.out⟩

end Go.Proofs.YtlioiblpcpaejaaGreat

namespace Go.Proofs.YtlioiblpcpaejaaGreat
open Go.RowKit
set_option linter.unusedVariables false

theorem wp_store_row {P : Program} {op : Oper} {a : Act} {w : World} {K : Act → World → Prop} {Q : Exit → Act → World → Prop} (ty : TypeId) (x y : Operand) (ho : op.op = .store ty x y)
    (b : Nat) (t : TypeId) (c c' : Array Value) (hx : a.eval x = .pointer (some ⟨b, 0, none⟩)) (hy : a.eval y = .agg c') (hr : w.heap[b]? = some (.cells c t))
    (hi : (P.info? ty).map (·.size) = some c'.size) (hs : c.size = c'.size) (h1 : c'.all (·.oneCell') = true)
    (h : K (a.put op.dst undef) (w.setRow b c')) : op.wp P a w K Q := by
  unfold Oper.wp execOp
  simp only [ho, hx, hy, Instr.storeAt, Instr.sureAddr, Sem.run_bind, Sem.run_pure, Result.andThen_ok, run_storeVar_row w b t ty c c' hr hi hs h1]
  exact h
theorem wpList_store_row {P : Program} {ops : Array Oper} {rest : List Oper} {op : Oper} {a : Act} {w : World} {Q : Exit → Act → World → Prop} (hgd : op.guard = none) (ty : TypeId) (x y : Operand) (ho : op.op = .store ty x y)
    (b : Nat) (t : TypeId) (c c' : Array Value) (hx : a.eval x = .pointer (some ⟨b, 0, none⟩)) (hy : a.eval y = .agg c') (hr : w.heap[b]? = some (.cells c t))
    (hi : (P.info? ty).map (·.size) = some c'.size) (hs : c.size = c'.size) (h1 : c'.all (·.oneCell') = true)
    (h : wpList P ops Q rest (a.put op.dst undef) (w.setRow b c')) : wpList P ops Q (op :: rest) a w :=
  wpList_plain hgd fun _ hK => wp_store_row ty x y ho b t c c' hx hy hr hi hs h1 (hK _ _ h)
theorem wpList_load_row {P : Program} {ops : Array Oper} {rest : List Oper} {op : Oper} {a : Act} {w : World} {Q : Exit → Act → World → Prop} (hgd : op.guard = none) (ty : TypeId) (x : Operand) (ho : op.op = .load ty x)
    (b : Nat) (t : TypeId) (cs : Array Value) (d : TypeDesc) (hx : a.eval x = .pointer (some ⟨b, 0, none⟩)) (hr : w.heap[b]? = some (.cells cs t))
    (hu : P.underlying ty = some d) (hd : d.isRow = true) (hi : (P.info? ty).map (·.size) = some cs.size)
    (h : wpList P ops Q rest (a.put op.dst (.agg cs)) w) : wpList P ops Q (op :: rest) a w := by
  have := wpList_load_mid (P := P) (ops := ops) (rest := rest) (op := op) (a := a) (w := w) (Q := Q) hgd ty x ho b 0 hx cs.toList d (fun j v hj => by
    rw [Nat.zero_add, cell_of_row w b j _ _ _ hr]; simpa using hj) hu hd (by simpa using hi)
  simp only [Array.toArray_toList] at this
  exact this h
theorem setRow_same {w : World} {b : Nat} {c c' : Array Value} {t : TypeId} (h : w.heap[b]? = some (.cells c t)) : (w.setRow b c').heap[b]? = some (.cells c' t) := setRow_heap w b c c' t _ h
theorem RdIs.setRow {L : Nat → Prop} {w : World} {g : Nat} {p : List UInt8} {k : Nat} {y : Int} (h : RdIs L w g p k y) {b : Nat} (hb : ¬ L b) (c : Array Value) : RdIs L (w.setRow b c) g p k y :=
  h.kept fun j hj _ => setRow_other w b j c (fun e => hb (by subst e; exact hj))
theorem grownBy.setRowNew {a b : World} {r : Option Nat} (h : a.grownBy b r) {k : Nat} (hk : a.heap.size ≤ k) (c : Array Value) : a.grownBy (b.setRow k c) r :=
  ⟨h.os, h.tape, h.output, by simpa using h.size, fun j hj hne => (setRow_other b k j c (by omega)).trans (h.block j hj hne)⟩
theorem OwnI.keep {B : Nat} {w w' : World} {v : Value} {D : List Int} (h : OwnI B w v D) (hk : ∀ j, B ≤ j → j < w.heap.size → w'.heap[j]? = w.heap[j]?) : OwnI B w' v D := by
  refine ⟨h.1, ?_⟩
  rcases h.2 with hn | ⟨g, cap, cur, hv, hg, hc, rest⟩
  · exact .inl hn
  · refine .inr ⟨g, cap, cur, hv, hg, ?_, rest⟩
    rw [hk g hg (Array.getElem?_eq_some_iff.1 hc).1]
    exact hc
theorem OwnI.cut {B B' : Nat} {w : World} {v : Value} {D : List Int} (h : OwnI B w v D) (hB : B' ≤ B) : OwnI B' w v D := by
  refine ⟨h.1, ?_⟩
  rcases h.2 with hn | ⟨g, cap, cur, hv, hg, rest⟩
  · exact .inl hn
  · exact .inr ⟨g, cap, cur, hv, by omega, rest⟩

/-- The reader, the change's box, the box of the result. -/
def RS (w : World) (L : Nat → Prop) (g gc : Nat) (p : List UInt8) (k : Nat) (y : Int) (cs : Array Value) (W : World) : Prop :=
  RdIs L W g p k y ∧ W.heap[gc]? = some (.cells cs 57) ∧ W.heap[w.heap.size]? = some (.cells #[.int .i64 0, .int .i64 0, .int .i64 0, .slice none 0 0, .int .i64 0, .int .i64 0, .int .i64 0, .int .i64 0, .int .i64 0, .int .i64 0, .int .i64 0, .string ⟨#[]⟩, .string ⟨#[]⟩] 57) ∧ w.grownBy W (some g) ∧ w.heap.size < gc ∧ ∀ j, L j → j < w.heap.size
theorem RS.call {w : World} {L : Nat → Prop} {g gc : Nat} {p : List UInt8} {k k' : Nat} {y y' : Int} {cs : Array Value} {W W' : World} (h : RS w L g gc p k y cs W) (hr : RdIs L W' g p k' y') (hg : W.grownBy W' (some g)) : RS w L g gc p k' y' cs W' := by
  obtain ⟨h1, h2, h3, h4, h5, h6⟩ := h
  have hlt := h6 g h1.low
  exact ⟨hr, row_grown h2 hg (fun e => by injection e with e; omega), row_grown h3 hg (fun e => by injection e with e; omega), grownBy.trans2 h4 hg, h5, h6⟩
theorem RS.set {w : World} {L : Nat → Prop} {g gc : Nat} {p : List UInt8} {k : Nat} {y : Int} {cs : Array Value} {W : World} (h : RS w L g gc p k y cs W) (i : Nat) (v : Value) : RS w L g gc p k y (cs.setIfInBounds i v) (W.setCell ⟨gc, i, none⟩ v) := by
  obtain ⟨h1, h2, h3, h4, h5, h6⟩ := h
  refine ⟨h1.set (fun e => by have := h6 _ e; omega) i v, heap_setCell_same W gc i _ _ v h2, ?_, grownBy.setNew h4 (Nat.le_of_lt h5) i v, h5, h6⟩
  rw [heap_setCell_other W ⟨gc, i, none⟩ w.heap.size v (by show w.heap.size ≠ gc; omega)]
  exact h3
theorem RS.size {w : World} {L : Nat → Prop} {g gc : Nat} {p : List UInt8} {k : Nat} {y : Int} {cs : Array Value} {W : World} (h : RS w L g gc p k y cs W) : ∀ j, L j → j < W.heap.size := fun j hj => Nat.lt_of_lt_of_le (h.2.2.2.2.2 j hj) h.2.2.2.1.size
theorem RS.free {w : World} {L : Nat → Prop} {g gc : Nat} {p : List UInt8} {k : Nat} {y : Int} {cs : Array Value} {W : World} (h : RS w L g gc p k y cs W) : ∀ i, W.frozen? ⟨gc, i, none⟩ = false := fun i => frozen_of_row W gc i _ _ h.2.1
theorem RS.cells {w : World} {L : Nat → Prop} {g gc : Nat} {p : List UInt8} {k : Nat} {y : Int} {v0 v1 v2 v3 v4 v5 v6 v7 v8 v9 v10 v11 v12 : Value} {W : World} (h : RS w L g gc p k y #[v0, v1, v2, v3, v4, v5, v6, v7, v8, v9, v10, v11, v12] W) : W.cell? ⟨gc, 0, none⟩ = some v0 ∧ W.cell? ⟨gc, 1, none⟩ = some v1 ∧ W.cell? ⟨gc, 2, none⟩ = some v2 ∧ W.cell? ⟨gc, 3, none⟩ = some v3 ∧ W.cell? ⟨gc, 4, none⟩ = some v4 ∧ W.cell? ⟨gc, 5, none⟩ = some v5 ∧ W.cell? ⟨gc, 6, none⟩ = some v6 ∧ W.cell? ⟨gc, 7, none⟩ = some v7 ∧ W.cell? ⟨gc, 8, none⟩ = some v8 ∧ W.cell? ⟨gc, 9, none⟩ = some v9 ∧ W.cell? ⟨gc, 10, none⟩ = some v10 ∧ W.cell? ⟨gc, 11, none⟩ = some v11 ∧ W.cell? ⟨gc, 12, none⟩ = some v12 := by
  have h := h.2.1
  exact ⟨cell_of_row W gc 0 _ _ _ h, cell_of_row W gc 1 _ _ _ h, cell_of_row W gc 2 _ _ _ h, cell_of_row W gc 3 _ _ _ h, cell_of_row W gc 4 _ _ _ h, cell_of_row W gc 5 _ _ _ h, cell_of_row W gc 6 _ _ _ h, cell_of_row W gc 7 _ _ _ h, cell_of_row W gc 8 _ _ _ h, cell_of_row W gc 9 _ _ _ h, cell_of_row W gc 10 _ _ _ h, cell_of_row W gc 11 _ _ _ h, cell_of_row W gc 12 _ _ _ h⟩
/-- The clock that was read, in a row behind the boxes. -/
def DP (N g gc : Nat) (W : World) (v : Value) (ds : List Int) : Prop := OwnI N W v ds ∧ g < N ∧ gc < N
theorem DP.call {N g gc : Nat} {W W' : World} {v : Value} {ds : List Int} (h : DP N g gc W v ds) (hg : W.grownBy W' (some g)) : DP N g gc W' v ds :=
  ⟨h.1.grown hg (fun j e => by injection e with e; have := h.2.1; omega), h.2⟩
theorem DP.set {N g gc : Nat} {W : World} {v : Value} {ds : List Int} (h : DP N g gc W v ds) (i : Nat) (u : Value) : DP N g gc (W.setCell ⟨gc, i, none⟩ u) v ds :=
  ⟨h.1.keep fun j hj _ => heap_setCell_other W ⟨gc, i, none⟩ j u (by have := h.2.2; show j ≠ gc; omega), h.2⟩

end Go.Proofs.YtlioiblpcpaejaaGreat

namespace Go.Proofs.YtlioiblpcpaejaaGreat
open Go.RowKit
set_option linter.unusedVariables false
set_option linter.unusedSimpArgs false

set_option maxRecDepth 100000 in
set_option maxHeartbeats 8000000 in
theorem readChange_rd (L : Nat → Prop) (g : Nat) (p : List UInt8) (k : Nat) (y : Int) (w : World) (h : RdIs L w g p k y) (hL : ∀ j, L j → j < w.heap.size) :
    Calls Tryz.prog 72 #[.pointer (some ⟨g, 0, none⟩)] w fun e w' => ∃ dv, e = .returned (.agg (chCells (mkCh (chanR 32 256 p k y).1) dv).toArray) ∧ OwnI w.heap.size w' dv (chanR 32 256 p k y).1.2.2.2.1 ∧ RdIs L w' g p (chanR 32 256 p k y).2.1 (chanR 32 256 p k y).2.2 ∧ w.grownBy w' (some g) := by
  obtain ⟨⟨kd, k0, y0⟩, e0⟩ : ∃ r, numR p k y = r := ⟨_, rfl⟩
  obtain ⟨⟨⟨a1, a2⟩, k1, y1⟩, e1⟩ : ∃ r, stampR p k0 y0 = r := ⟨_, rfl⟩
  obtain ⟨⟨sq, k2, y2⟩, e2⟩ : ∃ r, numR p k1 y1 = r := ⟨_, rfl⟩
  obtain ⟨⟨ds, k3, y3⟩, e3⟩ : ∃ r, numsR p k2 y2 = r := ⟨_, rfl⟩
  have HES : Hid (∀ rs k4 y4, restR kd (a1, a2) 32 256 p k3 y3 = (rs, k4, y4) → chanR 32 256 p k y = ((kd, (a1, a2), sq, ds, rs), k4, y4)) := fun rs k4 y4 h => by unfold chanR seqR; simp only [e0, e1, e2, e3, h]
  have C0 : Hid (∀ W, RdIs L W g p k y → Calls Tryz.prog 10 #[.pointer (some ⟨g, 0, none⟩)] W fun e w' => e = .returned (.int .i64 kd) ∧ RdIs L w' g p k0 y0 ∧ W.grownBy w' (some g)) := fun W hW => by
    have := num_rd L g p k y W hW; unfold numR at e0; rw [e0] at this; exact this
  have C1 : Hid (∀ W, RdIs L W g p k0 y0 → (∀ j, L j → j < W.heap.size) → Calls Tryz.prog 84 #[.pointer (some ⟨g, 0, none⟩)] W fun e w' => e = .returned (.agg #[.int .i64 a1, .int .i64 a2]) ∧ RdIs L w' g p k1 y1 ∧ W.grownBy w' (some g)) := fun W hW hj => by
    have := readStamp_rd L g p k0 y0 W hW hj; rw [e1] at this; exact this
  have C2 : Hid (∀ W, RdIs L W g p k1 y1 → Calls Tryz.prog 10 #[.pointer (some ⟨g, 0, none⟩)] W fun e w' => e = .returned (.int .i64 sq) ∧ RdIs L w' g p k2 y2 ∧ W.grownBy w' (some g)) := fun W hW => by
    have := num_rd L g p k1 y1 W hW; unfold numR at e2; rw [e2] at this; exact this
  have C3 : Hid (∀ W, RdIs L W g p k2 y2 → (∀ j, L j → j < W.heap.size) → Calls Tryz.prog 11 #[.pointer (some ⟨g, 0, none⟩)] W fun e w' => ∃ v, e = .returned v ∧ OwnI W.heap.size w' v ds ∧ RdIs L w' g p k3 y3 ∧ W.grownBy w' (some g)) := fun W hW hj => by
    have := readNumbers_rd L g p k2 y2 W hW hj; rw [e3] at this; exact this
  have HB0 : Hid (Below w.heap.size w (w.alloc (.cells #[.int .i64 0, .int .i64 0, .int .i64 0, .slice none 0 0, .int .i64 0, .int .i64 0, .int .i64 0, .int .i64 0, .int .i64 0, .int .i64 0, .int .i64 0, .string ⟨#[]⟩, .string ⟨#[]⟩] 57))) := (Below.refl _ _).alloc (Nat.le_refl _) _
  have H : Hid (RdIs L (w.alloc (.cells #[.int .i64 0, .int .i64 0, .int .i64 0, .slice none 0 0, .int .i64 0, .int .i64 0, .int .i64 0, .int .i64 0, .int .i64 0, .int .i64 0, .int .i64 0, .string ⟨#[]⟩, .string ⟨#[]⟩] 57)) g p k y) := h.below HB0.out
  have HR0 : Hid ((w.alloc (.cells #[.int .i64 0, .int .i64 0, .int .i64 0, .slice none 0 0, .int .i64 0, .int .i64 0, .int .i64 0, .int .i64 0, .int .i64 0, .int .i64 0, .int .i64 0, .string ⟨#[]⟩, .string ⟨#[]⟩] 57)).heap[w.heap.size]? = some (.cells #[.int .i64 0, .int .i64 0, .int .i64 0, .slice none 0 0, .int .i64 0, .int .i64 0, .int .i64 0, .int .i64 0, .int .i64 0, .int .i64 0, .int .i64 0, .string ⟨#[]⟩, .string ⟨#[]⟩] 57)) := heap_alloc_new _ _
  have hgw := hL g h.low
  have HL : Hid (∀ j, L j → j < w.heap.size) := hL
  clear h e0 e1 e2 e3 hL
  go_enter Tryz.func72, Tryz.ntmps72
  go_wp2_with fail
  refine (C0.out _ H.out).mono ?_
  rintro e w1 ⟨rfl, r1, g1⟩
  have HR1 : Hid (w1.heap[w.heap.size]? = some (.cells #[.int .i64 0, .int .i64 0, .int .i64 0, .slice none 0 0, .int .i64 0, .int .i64 0, .int .i64 0, .int .i64 0, .int .i64 0, .int .i64 0, .int .i64 0, .string ⟨#[]⟩, .string ⟨#[]⟩] 57)) := row_grown HR0.out g1 (fun e => by injection e with e; omega)
  have hs1 : w.heap.size < w1.heap.size := row_lt HR1.out
  have HA1 : Hid (Below w1.heap.size w1 (w1.alloc (.cells #[.int .i64 0, .int .i64 0, .int .i64 0, .slice none 0 0, .int .i64 kd, .int .i64 0, .int .i64 0, .int .i64 0, .int .i64 0, .int .i64 0, .int .i64 0, .string ⟨#[]⟩, .string ⟨#[]⟩] 57))) := (Below.refl _ _).alloc (Nat.le_refl _) _
  have R1 : Hid (RS w L g w1.heap.size p k0 y0 #[.int .i64 0, .int .i64 0, .int .i64 0, .slice none 0 0, .int .i64 kd, .int .i64 0, .int .i64 0, .int .i64 0, .int .i64 0, .int .i64 0, .int .i64 0, .string ⟨#[]⟩, .string ⟨#[]⟩] (w1.alloc (.cells #[.int .i64 0, .int .i64 0, .int .i64 0, .slice none 0 0, .int .i64 kd, .int .i64 0, .int .i64 0, .int .i64 0, .int .i64 0, .int .i64 0, .int .i64 0, .string ⟨#[]⟩, .string ⟨#[]⟩] 57))) := ⟨r1.below HA1.out, heap_alloc_new _ _, (HA1.out.block _ hs1).trans HR1.out, grownBy.more (grownBy.trans2 (grownBy.ofBelow HB0.out _) g1) HA1.out, hs1, HL.out⟩
  clear r1 g1 H HR0 HB0
  go_wp2_with (with_reducible refine wpList_store_new (P := Tryz.prog) ?hg 57 (.tmp 3) (.tmp 6) ?ho _ _ ?hx ?hy sizeChange ?hs ?h1 ?hrest; case hg => rfl; case ho => rfl; case hx => rfl; case hy => rfl; case hs => rfl; case h1 => first | rfl | simp [Value.oneCell'])
  refine (C1.out _ R1.out.1 R1.out.size).mono ?_
  rintro e w2 ⟨rfl, r2, g2⟩
  have Rx : Hid (RS w L g w1.heap.size p k1 y1 #[.int .i64 0, .int .i64 0, .int .i64 0, .slice none 0 0, .int .i64 kd, .int .i64 0, .int .i64 0, .int .i64 0, .int .i64 0, .int .i64 0, .int .i64 0, .string ⟨#[]⟩, .string ⟨#[]⟩] w2) := R1.out.call r2 g2
  clear R1 HA1 HR1 r2 g2 hs1
  generalize w1.heap.size = gc at *
  clear C0 C1
  obtain ⟨c_0, c_1, c_2, c_3, c_4, c_5, c_6, c_7, c_8, c_9, c_10, c_11, c_12⟩ := Rx.out.cells
  have f_0 := Rx.out.free 0
  have f_1 := Rx.out.free 1
  have R2 : Hid (RS w L g gc p k1 y1 #[.int .i64 a1, .int .i64 a2, .int .i64 0, .slice none 0 0, .int .i64 kd, .int .i64 0, .int .i64 0, .int .i64 0, .int .i64 0, .int .i64 0, .int .i64 0, .string ⟨#[]⟩, .string ⟨#[]⟩] ((w2.setCell ⟨gc, 0, none⟩ (.int .i64 a1)).setCell ⟨gc, 1, none⟩ (.int .i64 a2))) := by
    have h0 := (Rx.out.set 0 (.int .i64 a1)).set 1 (.int .i64 a2)
    simp only [List.setIfInBounds_toArray, List.set_cons_zero, List.set_cons_succ] at h0
    exact h0
  clear Rx c_2 c_3 c_4 c_5 c_6 c_7 c_8 c_9 c_10 c_11 c_12
  go_wp2_with fail
  clear c_0 c_1 f_0 f_1
  refine (C2.out _ R2.out.1).mono ?_
  rintro e w3 ⟨rfl, r3, g3⟩
  have Ra : Hid (RS w L g gc p k2 y2 #[.int .i64 a1, .int .i64 a2, .int .i64 0, .slice none 0 0, .int .i64 kd, .int .i64 0, .int .i64 0, .int .i64 0, .int .i64 0, .int .i64 0, .int .i64 0, .string ⟨#[]⟩, .string ⟨#[]⟩] w3) := R2.out.call r3 g3
  obtain ⟨c_0, c_1, c_2, c_3, c_4, c_5, c_6, c_7, c_8, c_9, c_10, c_11, c_12⟩ := Ra.out.cells
  have f_2 := Ra.out.free 2
  have R3 : Hid (RS w L g gc p k2 y2 #[.int .i64 a1, .int .i64 a2, .int .i64 sq, .slice none 0 0, .int .i64 kd, .int .i64 0, .int .i64 0, .int .i64 0, .int .i64 0, .int .i64 0, .int .i64 0, .string ⟨#[]⟩, .string ⟨#[]⟩] (w3.setCell ⟨gc, 2, none⟩ (.int .i64 sq))) := by
    have h0 := (Ra.out.set 2 (.int .i64 sq))
    simp only [List.setIfInBounds_toArray, List.set_cons_zero, List.set_cons_succ] at h0
    exact h0
  clear r3 g3 R2 Ra c_0 c_1 c_3 c_5 c_6 c_7 c_8 c_9 c_10 c_11 c_12
  go_wp2_with fail
  clear c_2 c_4 f_2
  refine (C3.out _ R3.out.1 R3.out.size).mono ?_
  rintro e w4 ⟨v4, rfl, o4, r4, g4⟩
  obtain ⟨ad, cd, ev⟩ := o4.form
  subst ev
  have Ra : Hid (RS w L g gc p k3 y3 #[.int .i64 a1, .int .i64 a2, .int .i64 sq, .slice none 0 0, .int .i64 kd, .int .i64 0, .int .i64 0, .int .i64 0, .int .i64 0, .int .i64 0, .int .i64 0, .string ⟨#[]⟩, .string ⟨#[]⟩] w4) := R3.out.call r4 g4
  have hgN : gc < (w3.setCell ⟨gc, 2, none⟩ (.int .i64 sq)).heap.size := row_lt R3.out.2.1
  have hgN2 : g < (w3.setCell ⟨gc, 2, none⟩ (.int .i64 sq)).heap.size := R3.out.size g R3.out.1.low
  have hwN : w.heap.size ≤ (w3.setCell ⟨gc, 2, none⟩ (.int .i64 sq)).heap.size := R3.out.2.2.2.1.size
  have Dx : Hid (DP (w3.setCell ⟨gc, 2, none⟩ (.int .i64 sq)).heap.size g gc w4 (.slice ad ds.length cd) ds) := ⟨o4, hgN2, hgN⟩
  clear R3 r4 g4 o4 C2 C3
  generalize (w3.setCell ⟨gc, 2, none⟩ (.int .i64 sq)).heap.size = N at *
  obtain ⟨c_0, c_1, c_2, c_3, c_4, c_5, c_6, c_7, c_8, c_9, c_10, c_11, c_12⟩ := Ra.out.cells
  have f_3 := Ra.out.free 3
  have R4 : Hid (RS w L g gc p k3 y3 #[.int .i64 a1, .int .i64 a2, .int .i64 sq, .slice ad ds.length cd, .int .i64 kd, .int .i64 0, .int .i64 0, .int .i64 0, .int .i64 0, .int .i64 0, .int .i64 0, .string ⟨#[]⟩, .string ⟨#[]⟩] (w4.setCell ⟨gc, 3, none⟩ (.slice ad ds.length cd))) := by
    have h0 := Ra.out.set 3 (.slice ad ds.length cd)
    simp only [List.setIfInBounds_toArray, List.set_cons_zero, List.set_cons_succ] at h0
    exact h0
  have D4 : Hid (DP N g gc (w4.setCell ⟨gc, 3, none⟩ (.slice ad ds.length cd)) (.slice ad ds.length cd) ds) := Dx.out.set 3 _
  clear Ra Dx hgN hgN2 c_5 c_6 c_7 c_8 c_9 c_10 c_11 c_12
  by_cases q1 : kd = 1
  · subst q1
    obtain ⟨⟨⟨b1, b2⟩, k5, y5⟩, z0⟩ : ∃ r, stampR p k3 y3 = r := ⟨_, rfl⟩
    obtain ⟨⟨⟨c1, c2⟩, k6, y6⟩, z1⟩ : ∃ r, stampR p k5 y5 = r := ⟨_, rfl⟩
    obtain ⟨⟨t1, k7, y7⟩, z2⟩ : ∃ r, rdT p k6 y6 32 = r := ⟨_, rfl⟩
    have HE0 : restR 1 (a1, a2) 32 256 p k3 y3 = (((a1, a2), (b1, b2), (c1, c2), t1, []), k7, y7) := by simp [restR, seqR, pureR, z0, z1, z2]
    have HER : Hid (chanR 32 256 p k y = ((1, (a1, a2), sq, ds, ((a1, a2), (b1, b2), (c1, c2), t1, [])), k7, y7)) := HES.out _ _ _ HE0
    clear HE0 HES
    have E0 : Hid (∀ W, RdIs L W g p k3 y3 → (∀ j, L j → j < W.heap.size) → Calls Tryz.prog 84 #[.pointer (some ⟨g, 0, none⟩)] W fun e w' => e = .returned (.agg #[.int .i64 b1, .int .i64 b2]) ∧ RdIs L w' g p k5 y5 ∧ W.grownBy w' (some g)) := fun W hW hj => by
      have := readStamp_rd L g p k3 y3 W hW hj; rw [z0] at this; exact this
    have E1 : Hid (∀ W, RdIs L W g p k5 y5 → (∀ j, L j → j < W.heap.size) → Calls Tryz.prog 84 #[.pointer (some ⟨g, 0, none⟩)] W fun e w' => e = .returned (.agg #[.int .i64 c1, .int .i64 c2]) ∧ RdIs L w' g p k6 y6 ∧ W.grownBy w' (some g)) := fun W hW hj => by
      have := readStamp_rd L g p k5 y5 W hW hj; rw [z1] at this; exact this
    have E2 : Hid (∀ W, RdIs L W g p k6 y6 → Calls Tryz.prog 63 #[.pointer (some ⟨g, 0, none⟩), .int .i64 32] W fun e w' => e = .returned (.string (txt t1)) ∧ RdIs L w' g p k7 y7 ∧ W.grownBy w' (some g)) := fun W hW => by
      have := text_rd L g p k6 y6 32 W hW; rw [z2] at this; exact this
    clear z0 z1 z2
    have f_5 : (w4.setCell ⟨gc, 3, none⟩ (.slice ad ds.length cd)).frozen? ⟨gc, 5, none⟩ = false := R4.out.free 5
    have f_6 : (w4.setCell ⟨gc, 3, none⟩ (.slice ad ds.length cd)).frozen? ⟨gc, 6, none⟩ = false := R4.out.free 6
    go_upto_region 7 with fail
    clear c_0 c_1 c_2 c_3 c_4 f_3 f_5 f_6
    obtain ⟨W5, eW5⟩ : ∃ W5, W5 = w4.setCell ⟨gc, 3, none⟩ (.slice ad ds.length cd) := ⟨_, rfl⟩
    rw [← eW5] at R4 D4 ⊢
    clear eW5
    obtain ⟨c_0, c_1, c_2, c_3, c_4, c_5, c_6, c_7, c_8, c_9, c_10, c_11, c_12⟩ := R4.out.cells
    have f_5 := R4.out.free 5
    have f_6 := R4.out.free 6
    have R5 : Hid (RS w L g gc p k3 y3 #[.int .i64 a1, .int .i64 a2, .int .i64 sq, .slice ad ds.length cd, .int .i64 1, .int .i64 a1, .int .i64 a2, .int .i64 0, .int .i64 0, .int .i64 0, .int .i64 0, .string ⟨#[]⟩, .string ⟨#[]⟩] ((W5.setCell ⟨gc, 5, none⟩ (.int .i64 a1)).setCell ⟨gc, 6, none⟩ (.int .i64 a2))) := by
      have h0 := (R4.out.set 5 (.int .i64 a1)).set 6 (.int .i64 a2)
      simp only [List.setIfInBounds_toArray, List.set_cons_zero, List.set_cons_succ] at h0
      exact h0
    have D5 : Hid (DP N g gc ((W5.setCell ⟨gc, 5, none⟩ (.int .i64 a1)).setCell ⟨gc, 6, none⟩ (.int .i64 a2)) (.slice ad ds.length cd) ds) := (D4.out.set 5 _).set 6 _
    clear R4 D4 c_2 c_3 c_4 c_7 c_8 c_9 c_10 c_11 c_12
    go_wp2_with fail
    clear c_0 c_1 c_5 c_6 f_5 f_6
    refine (E0.out _ R5.out.1 R5.out.size).mono ?_
    rintro e w6 ⟨rfl, r6, g6⟩
    have Ra : Hid (RS w L g gc p k5 y5 #[.int .i64 a1, .int .i64 a2, .int .i64 sq, .slice ad ds.length cd, .int .i64 1, .int .i64 a1, .int .i64 a2, .int .i64 0, .int .i64 0, .int .i64 0, .int .i64 0, .string ⟨#[]⟩, .string ⟨#[]⟩] w6) := R5.out.call r6 g6
    have Da : Hid (DP N g gc w6 (.slice ad ds.length cd) ds) := D5.out.call g6
    have D6 : Hid (DP N g gc ((w6.setCell ⟨gc, 7, none⟩ (.int .i64 b1)).setCell ⟨gc, 8, none⟩ (.int .i64 b2)) (.slice ad ds.length cd) ds) := ((Da.out.set 7 (.int .i64 b1)).set 8 (.int .i64 b2))
    obtain ⟨c_0, c_1, c_2, c_3, c_4, c_5, c_6, c_7, c_8, c_9, c_10, c_11, c_12⟩ := Ra.out.cells
    have f_7 := Ra.out.free 7
    have f_8 := Ra.out.free 8
    have R6 : Hid (RS w L g gc p k5 y5 #[.int .i64 a1, .int .i64 a2, .int .i64 sq, .slice ad ds.length cd, .int .i64 1, .int .i64 a1, .int .i64 a2, .int .i64 b1, .int .i64 b2, .int .i64 0, .int .i64 0, .string ⟨#[]⟩, .string ⟨#[]⟩] ((w6.setCell ⟨gc, 7, none⟩ (.int .i64 b1)).setCell ⟨gc, 8, none⟩ (.int .i64 b2))) := by
      have h0 := ((Ra.out.set 7 (.int .i64 b1)).set 8 (.int .i64 b2))
      simp only [List.setIfInBounds_toArray, List.set_cons_zero, List.set_cons_succ] at h0
      exact h0
    clear r6 g6 R5 Ra D5 Da c_0 c_1 c_2 c_3 c_5 c_6 c_9 c_10 c_11 c_12
    go_wp2_with fail
    clear c_4 c_7 c_8 f_7 f_8
    refine (E1.out _ R6.out.1 R6.out.size).mono ?_
    rintro e w7 ⟨rfl, r7, g7⟩
    have Ra : Hid (RS w L g gc p k6 y6 #[.int .i64 a1, .int .i64 a2, .int .i64 sq, .slice ad ds.length cd, .int .i64 1, .int .i64 a1, .int .i64 a2, .int .i64 b1, .int .i64 b2, .int .i64 0, .int .i64 0, .string ⟨#[]⟩, .string ⟨#[]⟩] w7) := R6.out.call r7 g7
    have Da : Hid (DP N g gc w7 (.slice ad ds.length cd) ds) := D6.out.call g7
    have D7 : Hid (DP N g gc ((w7.setCell ⟨gc, 9, none⟩ (.int .i64 c1)).setCell ⟨gc, 10, none⟩ (.int .i64 c2)) (.slice ad ds.length cd) ds) := ((Da.out.set 9 (.int .i64 c1)).set 10 (.int .i64 c2))
    obtain ⟨c_0, c_1, c_2, c_3, c_4, c_5, c_6, c_7, c_8, c_9, c_10, c_11, c_12⟩ := Ra.out.cells
    have f_9 := Ra.out.free 9
    have f_10 := Ra.out.free 10
    have R7 : Hid (RS w L g gc p k6 y6 #[.int .i64 a1, .int .i64 a2, .int .i64 sq, .slice ad ds.length cd, .int .i64 1, .int .i64 a1, .int .i64 a2, .int .i64 b1, .int .i64 b2, .int .i64 c1, .int .i64 c2, .string ⟨#[]⟩, .string ⟨#[]⟩] ((w7.setCell ⟨gc, 9, none⟩ (.int .i64 c1)).setCell ⟨gc, 10, none⟩ (.int .i64 c2))) := by
      have h0 := ((Ra.out.set 9 (.int .i64 c1)).set 10 (.int .i64 c2))
      simp only [List.setIfInBounds_toArray, List.set_cons_zero, List.set_cons_succ] at h0
      exact h0
    clear r7 g7 R6 Ra D6 Da c_0 c_1 c_2 c_3 c_5 c_6 c_7 c_8 c_11 c_12
    go_wp2_with fail
    clear c_4 c_9 c_10 f_9 f_10
    refine (E2.out _ R7.out.1).mono ?_
    rintro e w8 ⟨rfl, r8, g8⟩
    have Ra : Hid (RS w L g gc p k7 y7 #[.int .i64 a1, .int .i64 a2, .int .i64 sq, .slice ad ds.length cd, .int .i64 1, .int .i64 a1, .int .i64 a2, .int .i64 b1, .int .i64 b2, .int .i64 c1, .int .i64 c2, .string ⟨#[]⟩, .string ⟨#[]⟩] w8) := R7.out.call r8 g8
    have Da : Hid (DP N g gc w8 (.slice ad ds.length cd) ds) := D7.out.call g8
    have D8 : Hid (DP N g gc (w8.setCell ⟨gc, 11, none⟩ (.string (txt t1))) (.slice ad ds.length cd) ds) := (Da.out.set 11 (.string (txt t1)))
    obtain ⟨c_0, c_1, c_2, c_3, c_4, c_5, c_6, c_7, c_8, c_9, c_10, c_11, c_12⟩ := Ra.out.cells
    have f_11 := Ra.out.free 11
    have R8 : Hid (RS w L g gc p k7 y7 #[.int .i64 a1, .int .i64 a2, .int .i64 sq, .slice ad ds.length cd, .int .i64 1, .int .i64 a1, .int .i64 a2, .int .i64 b1, .int .i64 b2, .int .i64 c1, .int .i64 c2, .string (txt t1), .string ⟨#[]⟩] (w8.setCell ⟨gc, 11, none⟩ (.string (txt t1)))) := by
      have h0 := (Ra.out.set 11 (.string (txt t1)))
      simp only [List.setIfInBounds_toArray, List.set_cons_zero, List.set_cons_succ] at h0
      exact h0
    clear r8 g8 R7 Ra D7 Da c_0 c_1 c_2 c_3 c_5 c_6 c_7 c_8 c_9 c_10 c_12
    go_upto_region 25 with fail
    clear c_4 c_11 f_11
    obtain ⟨W9, eW9⟩ : ∃ W9, W9 = (w8.setCell ⟨gc, 11, none⟩ (.string (txt t1))) := ⟨_, rfl⟩
    rw [← eW9] at R8 D8 ⊢
    clear eW9
    go_step
    refine wpList_load_row rfl 57 (.tmp 3) rfl gc _ _ _ rfl R8.out.2.1 Tryz.underlying57 rfl sizeChange ?_
    (try simp only [Act.put, List.setIfInBounds_toArray, List.set_cons_zero, List.set_cons_succ])
    refine wpList_store_row rfl 57 (.tmp 2) (.tmp 70) rfl w.heap.size _ _ #[.int .i64 a1, .int .i64 a2, .int .i64 sq, .slice ad ds.length cd, .int .i64 1, .int .i64 a1, .int .i64 a2, .int .i64 b1, .int .i64 b2, .int .i64 c1, .int .i64 c2, .string (txt t1), .string ⟨#[]⟩] rfl rfl R8.out.2.2.1 sizeChange rfl (by simp [Value.oneCell']) ?_
    (try simp only [Act.put, List.setIfInBounds_toArray, List.set_cons_zero, List.set_cons_succ])
    go_wp2
    (try simp only [Exit.inBlock, Exit.then])
    refine bodyPost_ret (v := .agg #[.int .i64 a1, .int .i64 a2, .int .i64 sq, .slice ad ds.length cd, .int .i64 1, .int .i64 a1, .int .i64 a2, .int .i64 b1, .int .i64 b2, .int .i64 c1, .int .i64 c2, .string (txt t1), .string ⟨#[]⟩]) ?res1 rfl ?post1
    case res1 => exact results_cell_row rfl _ _ w.heap.size _ _ _ _ rfl (setRow_same R8.out.2.2.1) Tryz.underlying57 rfl (by kernel_rfl)
    have hnL : ¬ L w.heap.size := fun e => Nat.lt_irrefl _ (HL.out _ e)
    rw [HER.out]
    refine ⟨.slice ad ds.length cd, rfl, ?_, R8.out.1.setRow hnL _, grownBy.setRowNew R8.out.2.2.2.1 (Nat.le_refl _) _⟩
    have hgg := R8.out.2.2.2.2.1
    exact (D8.out.1.keep fun j hj _ => setRow_other W9 w.heap.size j _ (by have := D8.out.2.2; omega)).cut hwN
  by_cases q2 : kd = 2
  · subst q2
    clear q1
    obtain ⟨⟨⟨b1, b2⟩, k5, y5⟩, z0⟩ : ∃ r, stampR p k3 y3 = r := ⟨_, rfl⟩
    obtain ⟨⟨⟨c1, c2⟩, k6, y6⟩, z1⟩ : ∃ r, stampR p k5 y5 = r := ⟨_, rfl⟩
    obtain ⟨⟨⟨d1, d2⟩, k7, y7⟩, z2⟩ : ∃ r, stampR p k6 y6 = r := ⟨_, rfl⟩
    have HE0 : restR 2 (a1, a2) 32 256 p k3 y3 = (((b1, b2), (c1, c2), (d1, d2), [], []), k7, y7) := by simp [restR, seqR, pureR, z0, z1, z2]
    have HER : Hid (chanR 32 256 p k y = ((2, (a1, a2), sq, ds, ((b1, b2), (c1, c2), (d1, d2), [], [])), k7, y7)) := HES.out _ _ _ HE0
    clear HE0 HES
    have E0 : Hid (∀ W, RdIs L W g p k3 y3 → (∀ j, L j → j < W.heap.size) → Calls Tryz.prog 84 #[.pointer (some ⟨g, 0, none⟩)] W fun e w' => e = .returned (.agg #[.int .i64 b1, .int .i64 b2]) ∧ RdIs L w' g p k5 y5 ∧ W.grownBy w' (some g)) := fun W hW hj => by
      have := readStamp_rd L g p k3 y3 W hW hj; rw [z0] at this; exact this
    have E1 : Hid (∀ W, RdIs L W g p k5 y5 → (∀ j, L j → j < W.heap.size) → Calls Tryz.prog 84 #[.pointer (some ⟨g, 0, none⟩)] W fun e w' => e = .returned (.agg #[.int .i64 c1, .int .i64 c2]) ∧ RdIs L w' g p k6 y6 ∧ W.grownBy w' (some g)) := fun W hW hj => by
      have := readStamp_rd L g p k5 y5 W hW hj; rw [z1] at this; exact this
    have E2 : Hid (∀ W, RdIs L W g p k6 y6 → (∀ j, L j → j < W.heap.size) → Calls Tryz.prog 84 #[.pointer (some ⟨g, 0, none⟩)] W fun e w' => e = .returned (.agg #[.int .i64 d1, .int .i64 d2]) ∧ RdIs L w' g p k7 y7 ∧ W.grownBy w' (some g)) := fun W hW hj => by
      have := readStamp_rd L g p k6 y6 W hW hj; rw [z2] at this; exact this
    clear z0 z1 z2
    go_wp2_with fail
    clear c_0 c_1 c_2 c_3 c_4 f_3
    refine (E0.out _ R4.out.1 R4.out.size).mono ?_
    rintro e w5 ⟨rfl, r5, g5⟩
    have Ra : Hid (RS w L g gc p k5 y5 #[.int .i64 a1, .int .i64 a2, .int .i64 sq, .slice ad ds.length cd, .int .i64 2, .int .i64 0, .int .i64 0, .int .i64 0, .int .i64 0, .int .i64 0, .int .i64 0, .string ⟨#[]⟩, .string ⟨#[]⟩] w5) := R4.out.call r5 g5
    have Da : Hid (DP N g gc w5 (.slice ad ds.length cd) ds) := D4.out.call g5
    have D5 : Hid (DP N g gc ((w5.setCell ⟨gc, 5, none⟩ (.int .i64 b1)).setCell ⟨gc, 6, none⟩ (.int .i64 b2)) (.slice ad ds.length cd) ds) := ((Da.out.set 5 (.int .i64 b1)).set 6 (.int .i64 b2))
    obtain ⟨c_0, c_1, c_2, c_3, c_4, c_5, c_6, c_7, c_8, c_9, c_10, c_11, c_12⟩ := Ra.out.cells
    have f_5 := Ra.out.free 5
    have f_6 := Ra.out.free 6
    have R5 : Hid (RS w L g gc p k5 y5 #[.int .i64 a1, .int .i64 a2, .int .i64 sq, .slice ad ds.length cd, .int .i64 2, .int .i64 b1, .int .i64 b2, .int .i64 0, .int .i64 0, .int .i64 0, .int .i64 0, .string ⟨#[]⟩, .string ⟨#[]⟩] ((w5.setCell ⟨gc, 5, none⟩ (.int .i64 b1)).setCell ⟨gc, 6, none⟩ (.int .i64 b2))) := by
      have h0 := ((Ra.out.set 5 (.int .i64 b1)).set 6 (.int .i64 b2))
      simp only [List.setIfInBounds_toArray, List.set_cons_zero, List.set_cons_succ] at h0
      exact h0
    clear r5 g5 R4 Ra D4 Da c_0 c_1 c_2 c_3 c_7 c_8 c_9 c_10 c_11 c_12
    go_wp2_with fail
    clear c_4 c_5 c_6 f_5 f_6
    refine (E1.out _ R5.out.1 R5.out.size).mono ?_
    rintro e w6 ⟨rfl, r6, g6⟩
    have Ra : Hid (RS w L g gc p k6 y6 #[.int .i64 a1, .int .i64 a2, .int .i64 sq, .slice ad ds.length cd, .int .i64 2, .int .i64 b1, .int .i64 b2, .int .i64 0, .int .i64 0, .int .i64 0, .int .i64 0, .string ⟨#[]⟩, .string ⟨#[]⟩] w6) := R5.out.call r6 g6
    have Da : Hid (DP N g gc w6 (.slice ad ds.length cd) ds) := D5.out.call g6
    have D6 : Hid (DP N g gc ((w6.setCell ⟨gc, 7, none⟩ (.int .i64 c1)).setCell ⟨gc, 8, none⟩ (.int .i64 c2)) (.slice ad ds.length cd) ds) := ((Da.out.set 7 (.int .i64 c1)).set 8 (.int .i64 c2))
    obtain ⟨c_0, c_1, c_2, c_3, c_4, c_5, c_6, c_7, c_8, c_9, c_10, c_11, c_12⟩ := Ra.out.cells
    have f_7 := Ra.out.free 7
    have f_8 := Ra.out.free 8
    have R6 : Hid (RS w L g gc p k6 y6 #[.int .i64 a1, .int .i64 a2, .int .i64 sq, .slice ad ds.length cd, .int .i64 2, .int .i64 b1, .int .i64 b2, .int .i64 c1, .int .i64 c2, .int .i64 0, .int .i64 0, .string ⟨#[]⟩, .string ⟨#[]⟩] ((w6.setCell ⟨gc, 7, none⟩ (.int .i64 c1)).setCell ⟨gc, 8, none⟩ (.int .i64 c2))) := by
      have h0 := ((Ra.out.set 7 (.int .i64 c1)).set 8 (.int .i64 c2))
      simp only [List.setIfInBounds_toArray, List.set_cons_zero, List.set_cons_succ] at h0
      exact h0
    clear r6 g6 R5 Ra D5 Da c_0 c_1 c_2 c_3 c_5 c_6 c_9 c_10 c_11 c_12
    go_wp2_with fail
    clear c_4 c_7 c_8 f_7 f_8
    refine (E2.out _ R6.out.1 R6.out.size).mono ?_
    rintro e w7 ⟨rfl, r7, g7⟩
    have Ra : Hid (RS w L g gc p k7 y7 #[.int .i64 a1, .int .i64 a2, .int .i64 sq, .slice ad ds.length cd, .int .i64 2, .int .i64 b1, .int .i64 b2, .int .i64 c1, .int .i64 c2, .int .i64 0, .int .i64 0, .string ⟨#[]⟩, .string ⟨#[]⟩] w7) := R6.out.call r7 g7
    have Da : Hid (DP N g gc w7 (.slice ad ds.length cd) ds) := D6.out.call g7
    have D7 : Hid (DP N g gc ((w7.setCell ⟨gc, 9, none⟩ (.int .i64 d1)).setCell ⟨gc, 10, none⟩ (.int .i64 d2)) (.slice ad ds.length cd) ds) := ((Da.out.set 9 (.int .i64 d1)).set 10 (.int .i64 d2))
    obtain ⟨c_0, c_1, c_2, c_3, c_4, c_5, c_6, c_7, c_8, c_9, c_10, c_11, c_12⟩ := Ra.out.cells
    have f_9 := Ra.out.free 9
    have f_10 := Ra.out.free 10
    have R7 : Hid (RS w L g gc p k7 y7 #[.int .i64 a1, .int .i64 a2, .int .i64 sq, .slice ad ds.length cd, .int .i64 2, .int .i64 b1, .int .i64 b2, .int .i64 c1, .int .i64 c2, .int .i64 d1, .int .i64 d2, .string ⟨#[]⟩, .string ⟨#[]⟩] ((w7.setCell ⟨gc, 9, none⟩ (.int .i64 d1)).setCell ⟨gc, 10, none⟩ (.int .i64 d2))) := by
      have h0 := ((Ra.out.set 9 (.int .i64 d1)).set 10 (.int .i64 d2))
      simp only [List.setIfInBounds_toArray, List.set_cons_zero, List.set_cons_succ] at h0
      exact h0
    clear r7 g7 R6 Ra D6 Da c_0 c_1 c_2 c_3 c_5 c_6 c_7 c_8 c_11 c_12
    go_upto_region 25 with fail
    clear c_4 c_9 c_10 f_9 f_10
    obtain ⟨W9, eW9⟩ : ∃ W9, W9 = ((w7.setCell ⟨gc, 9, none⟩ (.int .i64 d1)).setCell ⟨gc, 10, none⟩ (.int .i64 d2)) := ⟨_, rfl⟩
    rw [← eW9] at R7 D7 ⊢
    clear eW9
    go_step
    refine wpList_load_row rfl 57 (.tmp 3) rfl gc _ _ _ rfl R7.out.2.1 Tryz.underlying57 rfl sizeChange ?_
    (try simp only [Act.put, List.setIfInBounds_toArray, List.set_cons_zero, List.set_cons_succ])
    refine wpList_store_row rfl 57 (.tmp 2) (.tmp 70) rfl w.heap.size _ _ #[.int .i64 a1, .int .i64 a2, .int .i64 sq, .slice ad ds.length cd, .int .i64 2, .int .i64 b1, .int .i64 b2, .int .i64 c1, .int .i64 c2, .int .i64 d1, .int .i64 d2, .string ⟨#[]⟩, .string ⟨#[]⟩] rfl rfl R7.out.2.2.1 sizeChange rfl (by simp [Value.oneCell']) ?_
    (try simp only [Act.put, List.setIfInBounds_toArray, List.set_cons_zero, List.set_cons_succ])
    go_wp2
    (try simp only [Exit.inBlock, Exit.then])
    refine bodyPost_ret (v := .agg #[.int .i64 a1, .int .i64 a2, .int .i64 sq, .slice ad ds.length cd, .int .i64 2, .int .i64 b1, .int .i64 b2, .int .i64 c1, .int .i64 c2, .int .i64 d1, .int .i64 d2, .string ⟨#[]⟩, .string ⟨#[]⟩]) ?res2 rfl ?post2
    case res2 => exact results_cell_row rfl _ _ w.heap.size _ _ _ _ rfl (setRow_same R7.out.2.2.1) Tryz.underlying57 rfl (by kernel_rfl)
    have hnL : ¬ L w.heap.size := fun e => Nat.lt_irrefl _ (HL.out _ e)
    rw [HER.out]
    refine ⟨.slice ad ds.length cd, rfl, ?_, R7.out.1.setRow hnL _, grownBy.setRowNew R7.out.2.2.2.1 (Nat.le_refl _) _⟩
    have hgg := R7.out.2.2.2.2.1
    exact (D7.out.1.keep fun j hj _ => setRow_other W9 w.heap.size j _ (by have := D7.out.2.2; omega)).cut hwN
  by_cases q3 : kd = 3
  · subst q3
    clear q1 q2
    obtain ⟨⟨⟨b1, b2⟩, k5, y5⟩, z0⟩ : ∃ r, stampR p k3 y3 = r := ⟨_, rfl⟩
    obtain ⟨⟨t1, k6, y6⟩, z1⟩ : ∃ r, rdT p k5 y5 32 = r := ⟨_, rfl⟩
    obtain ⟨⟨t2, k7, y7⟩, z2⟩ : ∃ r, rdT p k6 y6 256 = r := ⟨_, rfl⟩
    have HE0 : restR 3 (a1, a2) 32 256 p k3 y3 = (((b1, b2), (0, 0), (0, 0), t1, t2), k7, y7) := by simp [restR, seqR, pureR, z0, z1, z2]
    have HER : Hid (chanR 32 256 p k y = ((3, (a1, a2), sq, ds, ((b1, b2), (0, 0), (0, 0), t1, t2)), k7, y7)) := HES.out _ _ _ HE0
    clear HE0 HES
    have E0 : Hid (∀ W, RdIs L W g p k3 y3 → (∀ j, L j → j < W.heap.size) → Calls Tryz.prog 84 #[.pointer (some ⟨g, 0, none⟩)] W fun e w' => e = .returned (.agg #[.int .i64 b1, .int .i64 b2]) ∧ RdIs L w' g p k5 y5 ∧ W.grownBy w' (some g)) := fun W hW hj => by
      have := readStamp_rd L g p k3 y3 W hW hj; rw [z0] at this; exact this
    have E1 : Hid (∀ W, RdIs L W g p k5 y5 → Calls Tryz.prog 63 #[.pointer (some ⟨g, 0, none⟩), .int .i64 32] W fun e w' => e = .returned (.string (txt t1)) ∧ RdIs L w' g p k6 y6 ∧ W.grownBy w' (some g)) := fun W hW => by
      have := text_rd L g p k5 y5 32 W hW; rw [z1] at this; exact this
    have E2 : Hid (∀ W, RdIs L W g p k6 y6 → Calls Tryz.prog 63 #[.pointer (some ⟨g, 0, none⟩), .int .i64 256] W fun e w' => e = .returned (.string (txt t2)) ∧ RdIs L w' g p k7 y7 ∧ W.grownBy w' (some g)) := fun W hW => by
      have := text_rd L g p k6 y6 256 W hW; rw [z2] at this; exact this
    clear z0 z1 z2
    go_wp2_with fail
    clear c_0 c_1 c_2 c_3 c_4 f_3
    refine (E0.out _ R4.out.1 R4.out.size).mono ?_
    rintro e w5 ⟨rfl, r5, g5⟩
    have Ra : Hid (RS w L g gc p k5 y5 #[.int .i64 a1, .int .i64 a2, .int .i64 sq, .slice ad ds.length cd, .int .i64 3, .int .i64 0, .int .i64 0, .int .i64 0, .int .i64 0, .int .i64 0, .int .i64 0, .string ⟨#[]⟩, .string ⟨#[]⟩] w5) := R4.out.call r5 g5
    have Da : Hid (DP N g gc w5 (.slice ad ds.length cd) ds) := D4.out.call g5
    have D5 : Hid (DP N g gc ((w5.setCell ⟨gc, 5, none⟩ (.int .i64 b1)).setCell ⟨gc, 6, none⟩ (.int .i64 b2)) (.slice ad ds.length cd) ds) := ((Da.out.set 5 (.int .i64 b1)).set 6 (.int .i64 b2))
    obtain ⟨c_0, c_1, c_2, c_3, c_4, c_5, c_6, c_7, c_8, c_9, c_10, c_11, c_12⟩ := Ra.out.cells
    have f_5 := Ra.out.free 5
    have f_6 := Ra.out.free 6
    have R5 : Hid (RS w L g gc p k5 y5 #[.int .i64 a1, .int .i64 a2, .int .i64 sq, .slice ad ds.length cd, .int .i64 3, .int .i64 b1, .int .i64 b2, .int .i64 0, .int .i64 0, .int .i64 0, .int .i64 0, .string ⟨#[]⟩, .string ⟨#[]⟩] ((w5.setCell ⟨gc, 5, none⟩ (.int .i64 b1)).setCell ⟨gc, 6, none⟩ (.int .i64 b2))) := by
      have h0 := ((Ra.out.set 5 (.int .i64 b1)).set 6 (.int .i64 b2))
      simp only [List.setIfInBounds_toArray, List.set_cons_zero, List.set_cons_succ] at h0
      exact h0
    clear r5 g5 R4 Ra D4 Da c_0 c_1 c_2 c_3 c_7 c_8 c_9 c_10 c_11 c_12
    go_wp2_with fail
    clear c_4 c_5 c_6 f_5 f_6
    refine (E1.out _ R5.out.1).mono ?_
    rintro e w6 ⟨rfl, r6, g6⟩
    have Ra : Hid (RS w L g gc p k6 y6 #[.int .i64 a1, .int .i64 a2, .int .i64 sq, .slice ad ds.length cd, .int .i64 3, .int .i64 b1, .int .i64 b2, .int .i64 0, .int .i64 0, .int .i64 0, .int .i64 0, .string ⟨#[]⟩, .string ⟨#[]⟩] w6) := R5.out.call r6 g6
    have Da : Hid (DP N g gc w6 (.slice ad ds.length cd) ds) := D5.out.call g6
    have D6 : Hid (DP N g gc (w6.setCell ⟨gc, 11, none⟩ (.string (txt t1))) (.slice ad ds.length cd) ds) := (Da.out.set 11 (.string (txt t1)))
    obtain ⟨c_0, c_1, c_2, c_3, c_4, c_5, c_6, c_7, c_8, c_9, c_10, c_11, c_12⟩ := Ra.out.cells
    have f_11 := Ra.out.free 11
    have R6 : Hid (RS w L g gc p k6 y6 #[.int .i64 a1, .int .i64 a2, .int .i64 sq, .slice ad ds.length cd, .int .i64 3, .int .i64 b1, .int .i64 b2, .int .i64 0, .int .i64 0, .int .i64 0, .int .i64 0, .string (txt t1), .string ⟨#[]⟩] (w6.setCell ⟨gc, 11, none⟩ (.string (txt t1)))) := by
      have h0 := (Ra.out.set 11 (.string (txt t1)))
      simp only [List.setIfInBounds_toArray, List.set_cons_zero, List.set_cons_succ] at h0
      exact h0
    clear r6 g6 R5 Ra D5 Da c_0 c_1 c_2 c_3 c_5 c_6 c_7 c_8 c_9 c_10 c_12
    go_wp2_with fail
    clear c_4 c_11 f_11
    refine (E2.out _ R6.out.1).mono ?_
    rintro e w7 ⟨rfl, r7, g7⟩
    have Ra : Hid (RS w L g gc p k7 y7 #[.int .i64 a1, .int .i64 a2, .int .i64 sq, .slice ad ds.length cd, .int .i64 3, .int .i64 b1, .int .i64 b2, .int .i64 0, .int .i64 0, .int .i64 0, .int .i64 0, .string (txt t1), .string ⟨#[]⟩] w7) := R6.out.call r7 g7
    have Da : Hid (DP N g gc w7 (.slice ad ds.length cd) ds) := D6.out.call g7
    have D7 : Hid (DP N g gc (w7.setCell ⟨gc, 12, none⟩ (.string (txt t2))) (.slice ad ds.length cd) ds) := (Da.out.set 12 (.string (txt t2)))
    obtain ⟨c_0, c_1, c_2, c_3, c_4, c_5, c_6, c_7, c_8, c_9, c_10, c_11, c_12⟩ := Ra.out.cells
    have f_12 := Ra.out.free 12
    have R7 : Hid (RS w L g gc p k7 y7 #[.int .i64 a1, .int .i64 a2, .int .i64 sq, .slice ad ds.length cd, .int .i64 3, .int .i64 b1, .int .i64 b2, .int .i64 0, .int .i64 0, .int .i64 0, .int .i64 0, .string (txt t1), .string (txt t2)] (w7.setCell ⟨gc, 12, none⟩ (.string (txt t2)))) := by
      have h0 := (Ra.out.set 12 (.string (txt t2)))
      simp only [List.setIfInBounds_toArray, List.set_cons_zero, List.set_cons_succ] at h0
      exact h0
    clear r7 g7 R6 Ra D6 Da c_0 c_1 c_2 c_3 c_5 c_6 c_7 c_8 c_9 c_10 c_11
    go_upto_region 25 with fail
    clear c_4 c_12 f_12
    obtain ⟨W9, eW9⟩ : ∃ W9, W9 = (w7.setCell ⟨gc, 12, none⟩ (.string (txt t2))) := ⟨_, rfl⟩
    rw [← eW9] at R7 D7 ⊢
    clear eW9
    go_step
    refine wpList_load_row rfl 57 (.tmp 3) rfl gc _ _ _ rfl R7.out.2.1 Tryz.underlying57 rfl sizeChange ?_
    (try simp only [Act.put, List.setIfInBounds_toArray, List.set_cons_zero, List.set_cons_succ])
    refine wpList_store_row rfl 57 (.tmp 2) (.tmp 70) rfl w.heap.size _ _ #[.int .i64 a1, .int .i64 a2, .int .i64 sq, .slice ad ds.length cd, .int .i64 3, .int .i64 b1, .int .i64 b2, .int .i64 0, .int .i64 0, .int .i64 0, .int .i64 0, .string (txt t1), .string (txt t2)] rfl rfl R7.out.2.2.1 sizeChange rfl (by simp [Value.oneCell']) ?_
    (try simp only [Act.put, List.setIfInBounds_toArray, List.set_cons_zero, List.set_cons_succ])
    go_wp2
    (try simp only [Exit.inBlock, Exit.then])
    refine bodyPost_ret (v := .agg #[.int .i64 a1, .int .i64 a2, .int .i64 sq, .slice ad ds.length cd, .int .i64 3, .int .i64 b1, .int .i64 b2, .int .i64 0, .int .i64 0, .int .i64 0, .int .i64 0, .string (txt t1), .string (txt t2)]) ?res3 rfl ?post3
    case res3 => exact results_cell_row rfl _ _ w.heap.size _ _ _ _ rfl (setRow_same R7.out.2.2.1) Tryz.underlying57 rfl (by kernel_rfl)
    have hnL : ¬ L w.heap.size := fun e => Nat.lt_irrefl _ (HL.out _ e)
    rw [HER.out]
    refine ⟨.slice ad ds.length cd, rfl, ?_, R7.out.1.setRow hnL _, grownBy.setRowNew R7.out.2.2.2.1 (Nat.le_refl _) _⟩
    have hgg := R7.out.2.2.2.2.1
    exact (D7.out.1.keep fun j hj _ => setRow_other W9 w.heap.size j _ (by have := D7.out.2.2; omega)).cut hwN
  by_cases q4 : kd = 4
  · subst q4
    clear q1 q2 q3
    obtain ⟨⟨⟨b1, b2⟩, k5, y5⟩, z0⟩ : ∃ r, stampR p k3 y3 = r := ⟨_, rfl⟩
    obtain ⟨⟨t1, k6, y6⟩, z1⟩ : ∃ r, rdT p k5 y5 32 = r := ⟨_, rfl⟩
    have HE0 : restR 4 (a1, a2) 32 256 p k3 y3 = (((b1, b2), (0, 0), (0, 0), t1, []), k6, y6) := by simp [restR, seqR, pureR, z0, z1]
    have HER : Hid (chanR 32 256 p k y = ((4, (a1, a2), sq, ds, ((b1, b2), (0, 0), (0, 0), t1, [])), k6, y6)) := HES.out _ _ _ HE0
    clear HE0 HES
    have E0 : Hid (∀ W, RdIs L W g p k3 y3 → (∀ j, L j → j < W.heap.size) → Calls Tryz.prog 84 #[.pointer (some ⟨g, 0, none⟩)] W fun e w' => e = .returned (.agg #[.int .i64 b1, .int .i64 b2]) ∧ RdIs L w' g p k5 y5 ∧ W.grownBy w' (some g)) := fun W hW hj => by
      have := readStamp_rd L g p k3 y3 W hW hj; rw [z0] at this; exact this
    have E1 : Hid (∀ W, RdIs L W g p k5 y5 → Calls Tryz.prog 63 #[.pointer (some ⟨g, 0, none⟩), .int .i64 32] W fun e w' => e = .returned (.string (txt t1)) ∧ RdIs L w' g p k6 y6 ∧ W.grownBy w' (some g)) := fun W hW => by
      have := text_rd L g p k5 y5 32 W hW; rw [z1] at this; exact this
    clear z0 z1
    go_wp2_with fail
    clear c_0 c_1 c_2 c_3 c_4 f_3
    refine (E0.out _ R4.out.1 R4.out.size).mono ?_
    rintro e w5 ⟨rfl, r5, g5⟩
    have Ra : Hid (RS w L g gc p k5 y5 #[.int .i64 a1, .int .i64 a2, .int .i64 sq, .slice ad ds.length cd, .int .i64 4, .int .i64 0, .int .i64 0, .int .i64 0, .int .i64 0, .int .i64 0, .int .i64 0, .string ⟨#[]⟩, .string ⟨#[]⟩] w5) := R4.out.call r5 g5
    have Da : Hid (DP N g gc w5 (.slice ad ds.length cd) ds) := D4.out.call g5
    have D5 : Hid (DP N g gc ((w5.setCell ⟨gc, 5, none⟩ (.int .i64 b1)).setCell ⟨gc, 6, none⟩ (.int .i64 b2)) (.slice ad ds.length cd) ds) := ((Da.out.set 5 (.int .i64 b1)).set 6 (.int .i64 b2))
    obtain ⟨c_0, c_1, c_2, c_3, c_4, c_5, c_6, c_7, c_8, c_9, c_10, c_11, c_12⟩ := Ra.out.cells
    have f_5 := Ra.out.free 5
    have f_6 := Ra.out.free 6
    have R5 : Hid (RS w L g gc p k5 y5 #[.int .i64 a1, .int .i64 a2, .int .i64 sq, .slice ad ds.length cd, .int .i64 4, .int .i64 b1, .int .i64 b2, .int .i64 0, .int .i64 0, .int .i64 0, .int .i64 0, .string ⟨#[]⟩, .string ⟨#[]⟩] ((w5.setCell ⟨gc, 5, none⟩ (.int .i64 b1)).setCell ⟨gc, 6, none⟩ (.int .i64 b2))) := by
      have h0 := ((Ra.out.set 5 (.int .i64 b1)).set 6 (.int .i64 b2))
      simp only [List.setIfInBounds_toArray, List.set_cons_zero, List.set_cons_succ] at h0
      exact h0
    clear r5 g5 R4 Ra D4 Da c_0 c_1 c_2 c_3 c_7 c_8 c_9 c_10 c_11 c_12
    go_wp2_with fail
    clear c_4 c_5 c_6 f_5 f_6
    refine (E1.out _ R5.out.1).mono ?_
    rintro e w6 ⟨rfl, r6, g6⟩
    have Ra : Hid (RS w L g gc p k6 y6 #[.int .i64 a1, .int .i64 a2, .int .i64 sq, .slice ad ds.length cd, .int .i64 4, .int .i64 b1, .int .i64 b2, .int .i64 0, .int .i64 0, .int .i64 0, .int .i64 0, .string ⟨#[]⟩, .string ⟨#[]⟩] w6) := R5.out.call r6 g6
    have Da : Hid (DP N g gc w6 (.slice ad ds.length cd) ds) := D5.out.call g6
    have D6 : Hid (DP N g gc (w6.setCell ⟨gc, 11, none⟩ (.string (txt t1))) (.slice ad ds.length cd) ds) := (Da.out.set 11 (.string (txt t1)))
    obtain ⟨c_0, c_1, c_2, c_3, c_4, c_5, c_6, c_7, c_8, c_9, c_10, c_11, c_12⟩ := Ra.out.cells
    have f_11 := Ra.out.free 11
    have R6 : Hid (RS w L g gc p k6 y6 #[.int .i64 a1, .int .i64 a2, .int .i64 sq, .slice ad ds.length cd, .int .i64 4, .int .i64 b1, .int .i64 b2, .int .i64 0, .int .i64 0, .int .i64 0, .int .i64 0, .string (txt t1), .string ⟨#[]⟩] (w6.setCell ⟨gc, 11, none⟩ (.string (txt t1)))) := by
      have h0 := (Ra.out.set 11 (.string (txt t1)))
      simp only [List.setIfInBounds_toArray, List.set_cons_zero, List.set_cons_succ] at h0
      exact h0
    clear r6 g6 R5 Ra D5 Da c_0 c_1 c_2 c_3 c_5 c_6 c_7 c_8 c_9 c_10 c_12
    go_upto_region 25 with fail
    clear c_4 c_11 f_11
    obtain ⟨W9, eW9⟩ : ∃ W9, W9 = (w6.setCell ⟨gc, 11, none⟩ (.string (txt t1))) := ⟨_, rfl⟩
    rw [← eW9] at R6 D6 ⊢
    clear eW9
    go_step
    refine wpList_load_row rfl 57 (.tmp 3) rfl gc _ _ _ rfl R6.out.2.1 Tryz.underlying57 rfl sizeChange ?_
    (try simp only [Act.put, List.setIfInBounds_toArray, List.set_cons_zero, List.set_cons_succ])
    refine wpList_store_row rfl 57 (.tmp 2) (.tmp 70) rfl w.heap.size _ _ #[.int .i64 a1, .int .i64 a2, .int .i64 sq, .slice ad ds.length cd, .int .i64 4, .int .i64 b1, .int .i64 b2, .int .i64 0, .int .i64 0, .int .i64 0, .int .i64 0, .string (txt t1), .string ⟨#[]⟩] rfl rfl R6.out.2.2.1 sizeChange rfl (by simp [Value.oneCell']) ?_
    (try simp only [Act.put, List.setIfInBounds_toArray, List.set_cons_zero, List.set_cons_succ])
    go_wp2
    (try simp only [Exit.inBlock, Exit.then])
    refine bodyPost_ret (v := .agg #[.int .i64 a1, .int .i64 a2, .int .i64 sq, .slice ad ds.length cd, .int .i64 4, .int .i64 b1, .int .i64 b2, .int .i64 0, .int .i64 0, .int .i64 0, .int .i64 0, .string (txt t1), .string ⟨#[]⟩]) ?res4 rfl ?post4
    case res4 => exact results_cell_row rfl _ _ w.heap.size _ _ _ _ rfl (setRow_same R6.out.2.2.1) Tryz.underlying57 rfl (by kernel_rfl)
    have hnL : ¬ L w.heap.size := fun e => Nat.lt_irrefl _ (HL.out _ e)
    rw [HER.out]
    refine ⟨.slice ad ds.length cd, rfl, ?_, R6.out.1.setRow hnL _, grownBy.setRowNew R6.out.2.2.2.1 (Nat.le_refl _) _⟩
    have hgg := R6.out.2.2.2.2.1
    exact (D6.out.1.keep fun j hj _ => setRow_other W9 w.heap.size j _ (by have := D6.out.2.2; omega)).cut hwN
  by_cases q5 : kd = 5
  · subst q5
    clear q1 q2 q3 q4
    obtain ⟨⟨⟨b1, b2⟩, k5, y5⟩, z0⟩ : ∃ r, stampR p k3 y3 = r := ⟨_, rfl⟩
    obtain ⟨⟨t2, k6, y6⟩, z1⟩ : ∃ r, rdT p k5 y5 256 = r := ⟨_, rfl⟩
    have HE0 : restR 5 (a1, a2) 32 256 p k3 y3 = (((b1, b2), (0, 0), (0, 0), [], t2), k6, y6) := by simp [restR, seqR, pureR, z0, z1]
    have HER : Hid (chanR 32 256 p k y = ((5, (a1, a2), sq, ds, ((b1, b2), (0, 0), (0, 0), [], t2)), k6, y6)) := HES.out _ _ _ HE0
    clear HE0 HES
    have E0 : Hid (∀ W, RdIs L W g p k3 y3 → (∀ j, L j → j < W.heap.size) → Calls Tryz.prog 84 #[.pointer (some ⟨g, 0, none⟩)] W fun e w' => e = .returned (.agg #[.int .i64 b1, .int .i64 b2]) ∧ RdIs L w' g p k5 y5 ∧ W.grownBy w' (some g)) := fun W hW hj => by
      have := readStamp_rd L g p k3 y3 W hW hj; rw [z0] at this; exact this
    have E1 : Hid (∀ W, RdIs L W g p k5 y5 → Calls Tryz.prog 63 #[.pointer (some ⟨g, 0, none⟩), .int .i64 256] W fun e w' => e = .returned (.string (txt t2)) ∧ RdIs L w' g p k6 y6 ∧ W.grownBy w' (some g)) := fun W hW => by
      have := text_rd L g p k5 y5 256 W hW; rw [z1] at this; exact this
    clear z0 z1
    go_wp2_with fail
    clear c_0 c_1 c_2 c_3 c_4 f_3
    refine (E0.out _ R4.out.1 R4.out.size).mono ?_
    rintro e w5 ⟨rfl, r5, g5⟩
    have Ra : Hid (RS w L g gc p k5 y5 #[.int .i64 a1, .int .i64 a2, .int .i64 sq, .slice ad ds.length cd, .int .i64 5, .int .i64 0, .int .i64 0, .int .i64 0, .int .i64 0, .int .i64 0, .int .i64 0, .string ⟨#[]⟩, .string ⟨#[]⟩] w5) := R4.out.call r5 g5
    have Da : Hid (DP N g gc w5 (.slice ad ds.length cd) ds) := D4.out.call g5
    have D5 : Hid (DP N g gc ((w5.setCell ⟨gc, 5, none⟩ (.int .i64 b1)).setCell ⟨gc, 6, none⟩ (.int .i64 b2)) (.slice ad ds.length cd) ds) := ((Da.out.set 5 (.int .i64 b1)).set 6 (.int .i64 b2))
    obtain ⟨c_0, c_1, c_2, c_3, c_4, c_5, c_6, c_7, c_8, c_9, c_10, c_11, c_12⟩ := Ra.out.cells
    have f_5 := Ra.out.free 5
    have f_6 := Ra.out.free 6
    have R5 : Hid (RS w L g gc p k5 y5 #[.int .i64 a1, .int .i64 a2, .int .i64 sq, .slice ad ds.length cd, .int .i64 5, .int .i64 b1, .int .i64 b2, .int .i64 0, .int .i64 0, .int .i64 0, .int .i64 0, .string ⟨#[]⟩, .string ⟨#[]⟩] ((w5.setCell ⟨gc, 5, none⟩ (.int .i64 b1)).setCell ⟨gc, 6, none⟩ (.int .i64 b2))) := by
      have h0 := ((Ra.out.set 5 (.int .i64 b1)).set 6 (.int .i64 b2))
      simp only [List.setIfInBounds_toArray, List.set_cons_zero, List.set_cons_succ] at h0
      exact h0
    clear r5 g5 R4 Ra D4 Da c_0 c_1 c_2 c_3 c_7 c_8 c_9 c_10 c_11 c_12
    go_wp2_with fail
    clear c_4 c_5 c_6 f_5 f_6
    refine (E1.out _ R5.out.1).mono ?_
    rintro e w6 ⟨rfl, r6, g6⟩
    have Ra : Hid (RS w L g gc p k6 y6 #[.int .i64 a1, .int .i64 a2, .int .i64 sq, .slice ad ds.length cd, .int .i64 5, .int .i64 b1, .int .i64 b2, .int .i64 0, .int .i64 0, .int .i64 0, .int .i64 0, .string ⟨#[]⟩, .string ⟨#[]⟩] w6) := R5.out.call r6 g6
    have Da : Hid (DP N g gc w6 (.slice ad ds.length cd) ds) := D5.out.call g6
    have D6 : Hid (DP N g gc (w6.setCell ⟨gc, 12, none⟩ (.string (txt t2))) (.slice ad ds.length cd) ds) := (Da.out.set 12 (.string (txt t2)))
    obtain ⟨c_0, c_1, c_2, c_3, c_4, c_5, c_6, c_7, c_8, c_9, c_10, c_11, c_12⟩ := Ra.out.cells
    have f_12 := Ra.out.free 12
    have R6 : Hid (RS w L g gc p k6 y6 #[.int .i64 a1, .int .i64 a2, .int .i64 sq, .slice ad ds.length cd, .int .i64 5, .int .i64 b1, .int .i64 b2, .int .i64 0, .int .i64 0, .int .i64 0, .int .i64 0, .string ⟨#[]⟩, .string (txt t2)] (w6.setCell ⟨gc, 12, none⟩ (.string (txt t2)))) := by
      have h0 := (Ra.out.set 12 (.string (txt t2)))
      simp only [List.setIfInBounds_toArray, List.set_cons_zero, List.set_cons_succ] at h0
      exact h0
    clear r6 g6 R5 Ra D5 Da c_0 c_1 c_2 c_3 c_5 c_6 c_7 c_8 c_9 c_10 c_11
    go_upto_region 25 with fail
    clear c_4 c_12 f_12
    obtain ⟨W9, eW9⟩ : ∃ W9, W9 = (w6.setCell ⟨gc, 12, none⟩ (.string (txt t2))) := ⟨_, rfl⟩
    rw [← eW9] at R6 D6 ⊢
    clear eW9
    go_step
    refine wpList_load_row rfl 57 (.tmp 3) rfl gc _ _ _ rfl R6.out.2.1 Tryz.underlying57 rfl sizeChange ?_
    (try simp only [Act.put, List.setIfInBounds_toArray, List.set_cons_zero, List.set_cons_succ])
    refine wpList_store_row rfl 57 (.tmp 2) (.tmp 70) rfl w.heap.size _ _ #[.int .i64 a1, .int .i64 a2, .int .i64 sq, .slice ad ds.length cd, .int .i64 5, .int .i64 b1, .int .i64 b2, .int .i64 0, .int .i64 0, .int .i64 0, .int .i64 0, .string ⟨#[]⟩, .string (txt t2)] rfl rfl R6.out.2.2.1 sizeChange rfl (by simp [Value.oneCell']) ?_
    (try simp only [Act.put, List.setIfInBounds_toArray, List.set_cons_zero, List.set_cons_succ])
    go_wp2
    (try simp only [Exit.inBlock, Exit.then])
    refine bodyPost_ret (v := .agg #[.int .i64 a1, .int .i64 a2, .int .i64 sq, .slice ad ds.length cd, .int .i64 5, .int .i64 b1, .int .i64 b2, .int .i64 0, .int .i64 0, .int .i64 0, .int .i64 0, .string ⟨#[]⟩, .string (txt t2)]) ?res5 rfl ?post5
    case res5 => exact results_cell_row rfl _ _ w.heap.size _ _ _ _ rfl (setRow_same R6.out.2.2.1) Tryz.underlying57 rfl (by kernel_rfl)
    have hnL : ¬ L w.heap.size := fun e => Nat.lt_irrefl _ (HL.out _ e)
    rw [HER.out]
    refine ⟨.slice ad ds.length cd, rfl, ?_, R6.out.1.setRow hnL _, grownBy.setRowNew R6.out.2.2.2.1 (Nat.le_refl _) _⟩
    have hgg := R6.out.2.2.2.2.1
    exact (D6.out.1.keep fun j hj _ => setRow_other W9 w.heap.size j _ (by have := D6.out.2.2; omega)).cut hwN
  have HE0 : restR kd (a1, a2) 32 256 p k3 y3 = (((0, 0), (0, 0), (0, 0), [], []), k3, y3) := by unfold restR; rw [if_neg q1, if_neg q2, if_neg q3, if_neg q4, if_neg q5]; rfl
  have HER : Hid (chanR 32 256 p k y = ((kd, (a1, a2), sq, ds, ((0, 0), (0, 0), (0, 0), [], [])), k3, y3)) := HES.out _ _ _ HE0
  clear HE0 HES
  have b1 : (kd == 1) = false := by simp [q1]
  have b2 : (kd == 2) = false := by simp [q2]
  have b3 : (kd == 3) = false := by simp [q3]
  have b4 : (kd == 4) = false := by simp [q4]
  have b5 : (kd == 5) = false := by simp [q5]
  clear q1 q2 q3 q4 q5
  clear hgw
  go_upto_region 25 with fail
  clear c_0 c_1 c_2 c_3 c_4 f_3
  obtain ⟨W9, eW9⟩ : ∃ W9, W9 = (w4.setCell ⟨gc, 3, none⟩ (.slice ad ds.length cd)) := ⟨_, rfl⟩
  rw [← eW9] at R4 D4 ⊢
  clear eW9
  go_step
  refine wpList_load_row rfl 57 (.tmp 3) rfl gc _ _ _ rfl R4.out.2.1 Tryz.underlying57 rfl sizeChange ?_
  (try simp only [Act.put, List.setIfInBounds_toArray, List.set_cons_zero, List.set_cons_succ])
  refine wpList_store_row rfl 57 (.tmp 2) (.tmp 70) rfl w.heap.size _ _ #[.int .i64 a1, .int .i64 a2, .int .i64 sq, .slice ad ds.length cd, .int .i64 kd, .int .i64 0, .int .i64 0, .int .i64 0, .int .i64 0, .int .i64 0, .int .i64 0, .string ⟨#[]⟩, .string ⟨#[]⟩] rfl rfl R4.out.2.2.1 sizeChange rfl (by simp [Value.oneCell']) ?_
  (try simp only [Act.put, List.setIfInBounds_toArray, List.set_cons_zero, List.set_cons_succ])
  go_wp2
  (try simp only [Exit.inBlock, Exit.then])
  refine bodyPost_ret (v := .agg #[.int .i64 a1, .int .i64 a2, .int .i64 sq, .slice ad ds.length cd, .int .i64 kd, .int .i64 0, .int .i64 0, .int .i64 0, .int .i64 0, .int .i64 0, .int .i64 0, .string ⟨#[]⟩, .string ⟨#[]⟩]) ?reskd rfl ?postkd
  case reskd => exact results_cell_row rfl _ _ w.heap.size _ _ _ _ rfl (setRow_same R4.out.2.2.1) Tryz.underlying57 rfl (by kernel_rfl)
  have hnL : ¬ L w.heap.size := fun e => Nat.lt_irrefl _ (HL.out _ e)
  rw [HER.out]
  refine ⟨.slice ad ds.length cd, rfl, ?_, R4.out.1.setRow hnL _, grownBy.setRowNew R4.out.2.2.2.1 (Nat.le_refl _) _⟩
  have hgg := R4.out.2.2.2.2.1
  exact (D4.out.1.keep fun j hj _ => setRow_other W9 w.heap.size j _ (by have := D4.out.2.2; omega)).cut hwN

end Go.Proofs.YtlioiblpcpaejaaGreat

namespace Go.Proofs.YtlioiblpcpaejaaGreat
open Go.RowKit
set_option linter.unusedVariables false
set_option linter.unusedSimpArgs false

theorem results_cell_row2 {P : Program} {fn : Func} {p u : Tmp} {ty : TypeId} (h : fn.results = #[.cell p ty, .tmp u]) (tmps : Array Value) (w : World) (g : Nat) (t : TypeId) (cs : Array Value) (fr : Nat × Nat) (d : TypeDesc)
    (hp : tmps.getD p undef = .pointer (some ⟨g, 0, none⟩)) (hg : w.heap[g]? = some (.cells cs t fr))
    (hu : P.underlying ty = some d) (hd : (match d with | .struct _ | .array _ _ => true | _ => false) = true) (hi : (P.info? ty).map (·.size) = some cs.size) {k : Value} (hk : tmps.getD u undef = k) :
    (results fn tmps).run P w = .ok (.tuple #[.agg cs, k]) w := by
  rw [results_cell_tmp h, hp, hk]
  simp [asAddr, run_loadVar_row w g t ty cs fr d hg hu hd hi]
theorem rdT_len (p : List UInt8) (k : Nat) (y m : Int) (hm : 0 ≤ m) : ((rdT p k y m).1.length : Int) ≤ m := by
  unfold rdT cntL
  split
  · cases numL (p.drop k) with
    | none => simpa using hm
    | some x =>
      obtain ⟨n, s⟩ := x
      simp only
      split
      · simpa using hm
      · simp only [if_pos]
        split
        · simpa using hm
        · simp only [List.length_take]; omega
  · simpa using hm
theorem restR_len (kd : Int) (a : Int × Int) (p : List UInt8) (k : Nat) (y m1 m2 : Int) (h1 : 0 ≤ m1) (h2 : 0 ≤ m2) : ((restR kd a m1 m2 p k y).1.2.2.2.1.length : Int) ≤ m1 ∧ ((restR kd a m1 m2 p k y).1.2.2.2.2.length : Int) ≤ m2 := by
  unfold restR
  split
  · exact ⟨rdT_len _ _ _ _ h1, by simpa [seqR, pureR] using h2⟩
  split
  · exact ⟨by simpa [seqR, pureR] using h1, by simpa [seqR, pureR] using h2⟩
  split
  · exact ⟨rdT_len _ _ _ _ h1, rdT_len _ _ _ _ h2⟩
  split
  · exact ⟨rdT_len _ _ _ _ h1, by simpa [seqR, pureR] using h2⟩
  split
  · exact ⟨by simpa [seqR, pureR] using h1, rdT_len _ _ _ _ h2⟩
  · exact ⟨by simpa [pureR] using h1, by simpa [pureR] using h2⟩
theorem chan_sized (p : List UInt8) (k : Nat) (y : Int) : Sized (mkCh (chanR 32 256 p k y).1) := by
  obtain ⟨k3, y3, kd, a, e⟩ : ∃ k3 y3 kd a, (chanR 32 256 p k y).1.2.2.2.2 = (restR kd a 32 256 p k3 y3).1 := ⟨_, _, _, _, rfl⟩
  have h := restR_len kd a p k3 y3 32 256 (by decide) (by decide)
  rw [← e] at h
  unfold Sized mkCh txt
  simp only [ByteArray.size, List.size_toArray]
  omega
theorem chan_deps (p : List UInt8) (k : Nat) (y : Int) : (chanR 32 256 p k y).1.2.2.2.1.length ≤ 64 := by
  obtain ⟨k2, y2, e⟩ : ∃ k2 y2, (chanR 32 256 p k y).1.2.2.2.1 = (manyOf numR (rdC p k2 y2 64).1.toNat p (rdC p k2 y2 64).2.1 (rdC p k2 y2 64).2.2).1 := ⟨_, _, rfl⟩
  rw [e, manyOf_len]
  have := rdC_nat p k2 y2 64
  omega
theorem getF_sized (p : List UInt8) : Sized (getF p).1 := by
  unfold getF
  split
  · exact chan_sized p 0 0
  · exact ⟨by decide, by decide⟩
def GotCh (c : Ch) (k : Int) (w : World) (e : Ending) (w' : World) : Prop := ∃ dv, e = .returned (.tuple #[.agg (chCells c dv).toArray, .int .i64 k]) ∧ OwnI w.heap.size w' dv c.deps ∧ Below w.heap.size w w'
theorem drewN_heap (w : World) (m : Nat) : (w.drewN m).heap = w.heap := rfl
theorem OwnI.drewN {B : Nat} {w : World} {v : Value} {D : List Int} (h : OwnI B w v D) (m : Nat) : OwnI B (w.drewN m) v D := h.keep fun _ _ _ => rfl

set_option maxRecDepth 100000 in
set_option maxHeartbeats 4000000 in
theorem get_any (v : Value) (p : List UInt8) (w : World) (h1 : IsB w v p) (hl : p.length ≤ 140737488355328) :
    Calls Tryz.prog 62 #[v] w fun e w' => GotCh (getF p).1 (getF p).2 w e w' := by
  obtain ⟨⟨X, k1, y1⟩, eX⟩ : ∃ r, chanR 32 256 p 0 0 = r := ⟨_, rfl⟩
  obtain ⟨c, ec⟩ : ∃ c, mkCh X = c := ⟨_, rfl⟩
  have hsz : Sized c := by have := chan_sized p 0 0; rw [eX] at this; rw [← ec]; exact this
  have hdep : X.2.2.2.1 = c.deps := by rw [← ec]; rfl
  have hd64 : c.deps.length ≤ 64 := by have := chan_deps p 0 0; rw [eX, hdep] at this; exact this
  have EG : getF p = if doneL p k1 y1 = 0 ∧ checkCh c = 0 then (c, 0) else (Ch.none, 2) := by unfold getF; rw [eX, ec]
  have HB0 : Hid (Below w.heap.size w (w.alloc (.cells #[.int .i64 0, .int .i64 0, .int .i64 0, .slice none 0 0, .int .i64 0, .int .i64 0, .int .i64 0, .int .i64 0, .int .i64 0, .int .i64 0, .int .i64 0, .string ⟨#[]⟩, .string ⟨#[]⟩] 57))) := (Below.refl _ _).alloc (Nat.le_refl _) _
  have HR0 : Hid ((w.alloc (.cells #[.int .i64 0, .int .i64 0, .int .i64 0, .slice none 0 0, .int .i64 0, .int .i64 0, .int .i64 0, .int .i64 0, .int .i64 0, .int .i64 0, .int .i64 0, .string ⟨#[]⟩, .string ⟨#[]⟩] 57)).heap[w.heap.size]? = some (.cells #[.int .i64 0, .int .i64 0, .int .i64 0, .slice none 0 0, .int .i64 0, .int .i64 0, .int .i64 0, .int .i64 0, .int .i64 0, .int .i64 0, .int .i64 0, .string ⟨#[]⟩, .string ⟨#[]⟩] 57)) := heap_alloc_new _ _
  have H1 : Hid (IsB (w.alloc (.cells #[.int .i64 0, .int .i64 0, .int .i64 0, .slice none 0 0, .int .i64 0, .int .i64 0, .int .i64 0, .int .i64 0, .int .i64 0, .int .i64 0, .int .i64 0, .string ⟨#[]⟩, .string ⟨#[]⟩] 57)) v p) := h1.below HB0.out
  have C1 : Hid (∀ L g W, RdIs L W g p 0 0 → (∀ j, L j → j < W.heap.size) → Calls Tryz.prog 72 #[.pointer (some ⟨g, 0, none⟩)] W fun e w' => ∃ dv, e = .returned (.agg (chCells c dv).toArray) ∧ OwnI W.heap.size w' dv c.deps ∧ RdIs L w' g p k1 y1 ∧ W.grownBy w' (some g)) := fun L g W hW hj => by
    have := readChange_rd L g p 0 0 W hW hj
    rw [eX, ec] at this
    simp only [hdep] at this
    exact this
  have HEG : Hid (getF p = if doneL p k1 y1 = 0 ∧ checkCh c = 0 then (c, 0) else (Ch.none, 2)) := EG
  have HS : Hid (Sized c) := hsz
  clear h1 eX ec hdep EG hsz
  clear X
  go_enter Tryz.func62, Tryz.ntmps62
  go_wp2_with fail
  refine (new_any v p _ H1.out hl).mono ?_
  rintro e w1 ⟨g, rfl, r1, hb1⟩
  have hz1 : w.heap.size + 1 ≤ w1.heap.size := by simpa using hb1.size
  have HR1 : Hid (w1.heap[w.heap.size]? = some (.cells #[.int .i64 0, .int .i64 0, .int .i64 0, .slice none 0 0, .int .i64 0, .int .i64 0, .int .i64 0, .int .i64 0, .int .i64 0, .int .i64 0, .int .i64 0, .string ⟨#[]⟩, .string ⟨#[]⟩] 57)) := (hb1.block _ (by simp)).trans HR0.out
  have HB1 : Hid (Below w.heap.size w w1) := HB0.out.trans (hb1.mono (by simp))
  have HG : Hid (RdIs _ w1 g p 0 0) := r1
  have hgl : w.heap.size < g := by have := r1.low.1; simp at this; omega
  clear H1 HR0 HB0 hb1 r1
  go_wp2_with fail
  refine (C1.out _ g _ HG.out (fun j hj => hj.2)).mono ?_
  rintro e w2 ⟨dv, rfl, o2, r2, g2⟩
  obtain ⟨ad, cd, ev⟩ := o2.form
  subst ev
  have HR2 : Hid (w2.heap[w.heap.size]? = some (.cells #[.int .i64 0, .int .i64 0, .int .i64 0, .slice none 0 0, .int .i64 0, .int .i64 0, .int .i64 0, .int .i64 0, .int .i64 0, .int .i64 0, .int .i64 0, .string ⟨#[]⟩, .string ⟨#[]⟩] 57)) := row_grown HR1.out g2 (fun e => by injection e with e; omega)
  have HB2 : Hid (Below w.heap.size w w2) := HB1.out.trans ((grownBy.below g2 (n := w.heap.size) (Nat.le_of_lt hgl) (by omega)))
  have HAL : Hid (Below w2.heap.size w2 (w2.alloc (.cells #[.int .i64 c.ac, .int .i64 c.ar, .int .i64 c.seq, .slice ad c.deps.length cd, .int .i64 c.kind, .int .i64 c.nc, .int .i64 c.nr, .int .i64 c.pc, .int .i64 c.pr, .int .i64 c.fc, .int .i64 c.fr, .string c.name, .string c.value] 57))) := (Below.refl _ _).alloc (Nat.le_refl _) _
  have O3 : Hid (OwnI w1.heap.size (w2.alloc (.cells #[.int .i64 c.ac, .int .i64 c.ar, .int .i64 c.seq, .slice ad c.deps.length cd, .int .i64 c.kind, .int .i64 c.nc, .int .i64 c.nr, .int .i64 c.pc, .int .i64 c.pr, .int .i64 c.fc, .int .i64 c.fr, .string c.name, .string c.value] 57)) (.slice ad c.deps.length cd) c.deps) := o2.below HAL.out
  have HR3 : Hid ((w2.alloc (.cells #[.int .i64 c.ac, .int .i64 c.ar, .int .i64 c.seq, .slice ad c.deps.length cd, .int .i64 c.kind, .int .i64 c.nc, .int .i64 c.nr, .int .i64 c.pc, .int .i64 c.pr, .int .i64 c.fc, .int .i64 c.fr, .string c.name, .string c.value] 57)).heap[w.heap.size]? = some (.cells #[.int .i64 0, .int .i64 0, .int .i64 0, .slice none 0 0, .int .i64 0, .int .i64 0, .int .i64 0, .int .i64 0, .int .i64 0, .int .i64 0, .int .i64 0, .string ⟨#[]⟩, .string ⟨#[]⟩] 57)) := (HAL.out.block _ (row_lt HR2.out)).trans HR2.out
  have HC3 : Hid ((w2.alloc (.cells #[.int .i64 c.ac, .int .i64 c.ar, .int .i64 c.seq, .slice ad c.deps.length cd, .int .i64 c.kind, .int .i64 c.nc, .int .i64 c.nr, .int .i64 c.pc, .int .i64 c.pr, .int .i64 c.fc, .int .i64 c.fr, .string c.name, .string c.value] 57)).heap[w2.heap.size]? = some (.cells #[.int .i64 c.ac, .int .i64 c.ar, .int .i64 c.seq, .slice ad c.deps.length cd, .int .i64 c.kind, .int .i64 c.nc, .int .i64 c.nr, .int .i64 c.pc, .int .i64 c.pr, .int .i64 c.fc, .int .i64 c.fr, .string c.name, .string c.value] 57)) := heap_alloc_new _ _
  have HB3 : Hid (Below w.heap.size w (w2.alloc (.cells #[.int .i64 c.ac, .int .i64 c.ar, .int .i64 c.seq, .slice ad c.deps.length cd, .int .i64 c.kind, .int .i64 c.nc, .int .i64 c.nr, .int .i64 c.pc, .int .i64 c.pr, .int .i64 c.fc, .int .i64 c.fr, .string c.name, .string c.value] 57))) := HB2.out.trans (HAL.out.mono (by have := HB2.out.size; omega))
  have HG3 : Hid (RdIs _ (w2.alloc (.cells #[.int .i64 c.ac, .int .i64 c.ar, .int .i64 c.seq, .slice ad c.deps.length cd, .int .i64 c.kind, .int .i64 c.nc, .int .i64 c.nr, .int .i64 c.pc, .int .i64 c.pr, .int .i64 c.fc, .int .i64 c.fr, .string c.name, .string c.value] 57)) g p k1 y1) := r2.below HAL.out
  clear o2 r2 g2 HG HR1 HR2 HB1 HB2 HAL C1
  simp only [chCells]
  go_upto_region 2 with fail
  go_wp2_with (with_reducible refine wpList_store_new (P := Tryz.prog) ?hg 57 (.tmp 5) (.tmp 9) ?ho _ _ ?hx ?hy sizeChange ?hs ?h1 ?hrest; case hg => rfl; case ho => rfl; case hx => rfl; case hy => rfl; case hs => rfl; case h1 => first | rfl | simp [Value.oneCell'])
  refine (done_any _ g p k1 y1 _ HG3.out).mono ?_
  rintro e w4 ⟨rfl, m, rfl⟩
  have O4 : Hid (OwnI w1.heap.size ((w2.alloc (.cells #[.int .i64 c.ac, .int .i64 c.ar, .int .i64 c.seq, .slice ad c.deps.length cd, .int .i64 c.kind, .int .i64 c.nc, .int .i64 c.nr, .int .i64 c.pc, .int .i64 c.pr, .int .i64 c.fc, .int .i64 c.fr, .string c.name, .string c.value] 57)).drewN m) (.slice ad c.deps.length cd) c.deps) := O3.out.drewN m
  have HR4 : Hid (((w2.alloc (.cells #[.int .i64 c.ac, .int .i64 c.ar, .int .i64 c.seq, .slice ad c.deps.length cd, .int .i64 c.kind, .int .i64 c.nc, .int .i64 c.nr, .int .i64 c.pc, .int .i64 c.pr, .int .i64 c.fc, .int .i64 c.fr, .string c.name, .string c.value] 57)).drewN m).heap[w.heap.size]? = some (.cells #[.int .i64 0, .int .i64 0, .int .i64 0, .slice none 0 0, .int .i64 0, .int .i64 0, .int .i64 0, .int .i64 0, .int .i64 0, .int .i64 0, .int .i64 0, .string ⟨#[]⟩, .string ⟨#[]⟩] 57)) := HR3.out
  have HC4 : Hid (((w2.alloc (.cells #[.int .i64 c.ac, .int .i64 c.ar, .int .i64 c.seq, .slice ad c.deps.length cd, .int .i64 c.kind, .int .i64 c.nc, .int .i64 c.nr, .int .i64 c.pc, .int .i64 c.pr, .int .i64 c.fc, .int .i64 c.fr, .string c.name, .string c.value] 57)).drewN m).heap[w2.heap.size]? = some (.cells #[.int .i64 c.ac, .int .i64 c.ar, .int .i64 c.seq, .slice ad c.deps.length cd, .int .i64 c.kind, .int .i64 c.nc, .int .i64 c.nr, .int .i64 c.pc, .int .i64 c.pr, .int .i64 c.fc, .int .i64 c.fr, .string c.name, .string c.value] 57)) := HC3.out
  have HB4 : Hid (Below w.heap.size w ((w2.alloc (.cells #[.int .i64 c.ac, .int .i64 c.ar, .int .i64 c.seq, .slice ad c.deps.length cd, .int .i64 c.kind, .int .i64 c.nc, .int .i64 c.nr, .int .i64 c.pc, .int .i64 c.pr, .int .i64 c.fc, .int .i64 c.fr, .string c.name, .string c.value] 57)).drewN m)) := below_drewN HB3.out m
  clear O3 HR3 HC3 HB3 HG3
  generalize (w2.alloc (.cells #[.int .i64 c.ac, .int .i64 c.ar, .int .i64 c.seq, .slice ad c.deps.length cd, .int .i64 c.kind, .int .i64 c.nc, .int .i64 c.nr, .int .i64 c.pc, .int .i64 c.pr, .int .i64 c.fc, .int .i64 c.fr, .string c.name, .string c.value] 57)).drewN m = W4 at *
  generalize w2.heap.size = gc at *
  by_cases hd : doneL p k1 y1 = 0
  · rw [hd]
    have KC := row_keptC HC4.out (Below.refl W4.heap.size W4)
    obtain ⟨y0, y1', y2, y3, y4, y5, y6, y7, y8, y9, y10, y11, y12⟩ := KC.all
    have I4 : Hid (IsI W4 (.slice ad c.deps.length cd) c.deps) := O4.out.isI (by omega)
    clear KC
    go_wp2_with fail
    refine (checkCh_any _ _ _ _ _ _ _ _ _ _ _ _ _ c.deps HS.out.1 _ I4.out).mono ?_
    rintro e w5 ⟨rfl, hb5⟩
    have O5 : Hid (OwnI w1.heap.size w5 (.slice ad c.deps.length cd) c.deps) := O4.out.below hb5
    have HR5 : Hid (w5.heap[w.heap.size]? = some (.cells #[.int .i64 0, .int .i64 0, .int .i64 0, .slice none 0 0, .int .i64 0, .int .i64 0, .int .i64 0, .int .i64 0, .int .i64 0, .int .i64 0, .int .i64 0, .string ⟨#[]⟩, .string ⟨#[]⟩] 57)) := (hb5.block _ (row_lt HR4.out)).trans HR4.out
    have HC5 : Hid (w5.heap[gc]? = some (.cells #[.int .i64 c.ac, .int .i64 c.ar, .int .i64 c.seq, .slice ad c.deps.length cd, .int .i64 c.kind, .int .i64 c.nc, .int .i64 c.nr, .int .i64 c.pc, .int .i64 c.pr, .int .i64 c.fc, .int .i64 c.fr, .string c.name, .string c.value] 57)) := (hb5.block _ (row_lt HC4.out)).trans HC4.out
    have HB5 : Hid (Below w.heap.size w w5) := HB4.out.trans (hb5.mono (by have := HB4.out.size; omega))
    have HCC : Hid (checkCh ⟨c.ac, c.ar, c.seq, c.deps, c.kind, c.nc, c.nr, c.pc, c.pr, c.fc, c.fr, c.name, c.value⟩ = checkCh c) := rfl
    rw [HCC.out]
    clear y0 y1' y2 y3 y4 y5 y6 y7 y8 y9 y10 y11 y12 I4 O4 HR4 HC4 HB4 hb5 HCC
    by_cases hz : checkCh c = 0
    · have HE : Hid (getF p = (c, 0)) := by show _ = _; rw [HEG.out, if_pos ⟨hd, hz⟩]
      rw [hz]
      clear hz hd
      go_upto_region 5 with fail
      go_step
      refine wpList_load_row rfl 57 (.tmp 5) rfl gc _ _ _ rfl HC5.out Tryz.underlying57 rfl sizeChange ?_
      (try simp only [Act.put, List.setIfInBounds_toArray, List.set_cons_zero, List.set_cons_succ])
      refine wpList_store_row rfl 57 (.tmp 2) (.tmp 19) rfl w.heap.size _ _ #[.int .i64 c.ac, .int .i64 c.ar, .int .i64 c.seq, .slice ad c.deps.length cd, .int .i64 c.kind, .int .i64 c.nc, .int .i64 c.nr, .int .i64 c.pc, .int .i64 c.pr, .int .i64 c.fc, .int .i64 c.fr, .string c.name, .string c.value] rfl rfl HR5.out sizeChange rfl (by simp [Value.oneCell']) ?_
      (try simp only [Act.put, List.setIfInBounds_toArray, List.set_cons_zero, List.set_cons_succ])
      go_wp2
      (try simp only [Exit.inBlock, Exit.then])
      refine bodyPost_ret (v := .tuple #[.agg #[.int .i64 c.ac, .int .i64 c.ar, .int .i64 c.seq, .slice ad c.deps.length cd, .int .i64 c.kind, .int .i64 c.nc, .int .i64 c.nr, .int .i64 c.pc, .int .i64 c.pr, .int .i64 c.fc, .int .i64 c.fr, .string c.name, .string c.value], .int .i64 0]) ?res1 rfl ?post1
      case res1 => exact results_cell_row2 rfl _ _ w.heap.size _ _ _ _ rfl (setRow_same HR5.out) Tryz.underlying57 rfl (by kernel_rfl) rfl
      rw [HE.out]
      exact ⟨_, rfl, (O5.out.keep fun j hj _ => setRow_other w5 w.heap.size j _ (by omega)).cut (by omega), below_setRow HB5.out (Nat.le_refl _) _⟩
    · have HE : Hid (getF p = (Ch.none, 2)) := by show _ = _; rw [HEG.out, if_neg (fun h => hz h.2)]
      have q : (checkCh c != 0) = true := by simp [hz]
      clear hz hd
      generalize checkCh c = z at *
      go_upto_region 4 with fail
      go_step
      refine wpList_plain rfl (fun K hK => ?_)
      go_simp
      refine hK _ _ ?_
      clear hK K
      refine wpList_store_row rfl 57 (.tmp 2) (.tmp 18) rfl w.heap.size _ _ #[.int .i64 0, .int .i64 0, .int .i64 0, .slice none 0 0, .int .i64 0, .int .i64 0, .int .i64 0, .int .i64 0, .int .i64 0, .int .i64 0, .int .i64 0, .string ⟨#[]⟩, .string ⟨#[]⟩] rfl rfl HR5.out sizeChange rfl (by simp [Value.oneCell']) ?_
      (try simp only [Act.put, List.setIfInBounds_toArray, List.set_cons_zero, List.set_cons_succ])
      go_wp2
      (try simp only [Exit.inBlock, Exit.then])
      refine bodyPost_ret (v := .tuple #[.agg #[.int .i64 0, .int .i64 0, .int .i64 0, .slice none 0 0, .int .i64 0, .int .i64 0, .int .i64 0, .int .i64 0, .int .i64 0, .int .i64 0, .int .i64 0, .string ⟨#[]⟩, .string ⟨#[]⟩], .int .i64 2]) ?res2 rfl ?post2
      case res2 => exact results_cell_row2 rfl _ _ w.heap.size _ _ _ _ rfl (setRow_same HR5.out) Tryz.underlying57 rfl (by kernel_rfl) rfl
      rw [HE.out]
      exact ⟨_, rfl, OwnI.nil0 _ _, below_setRow HB5.out (Nat.le_refl _) _⟩
  · have HE : Hid (getF p = (Ch.none, 2)) := by show _ = _; rw [HEG.out, if_neg (fun h => hd h.1)]
    have q : (doneL p k1 y1 != 0) = true := by simp [hd]
    clear hd
    generalize doneL p k1 y1 = z at *
    go_upto_region 4 with fail
    go_step
    refine wpList_plain rfl (fun K hK => ?_)
    go_simp
    refine hK _ _ ?_
    clear hK K
    refine wpList_store_row rfl 57 (.tmp 2) (.tmp 18) rfl w.heap.size _ _ #[.int .i64 0, .int .i64 0, .int .i64 0, .slice none 0 0, .int .i64 0, .int .i64 0, .int .i64 0, .int .i64 0, .int .i64 0, .int .i64 0, .int .i64 0, .string ⟨#[]⟩, .string ⟨#[]⟩] rfl rfl HR4.out sizeChange rfl (by simp [Value.oneCell']) ?_
    (try simp only [Act.put, List.setIfInBounds_toArray, List.set_cons_zero, List.set_cons_succ])
    go_wp2
    (try simp only [Exit.inBlock, Exit.then])
    refine bodyPost_ret (v := .tuple #[.agg #[.int .i64 0, .int .i64 0, .int .i64 0, .slice none 0 0, .int .i64 0, .int .i64 0, .int .i64 0, .int .i64 0, .int .i64 0, .int .i64 0, .int .i64 0, .string ⟨#[]⟩, .string ⟨#[]⟩], .int .i64 2]) ?res3 rfl ?post3
    case res3 => exact results_cell_row2 rfl _ _ w.heap.size _ _ _ _ rfl (setRow_same HR4.out) Tryz.underlying57 rfl (by kernel_rfl) rfl
    rw [HE.out]
    exact ⟨_, rfl, OwnI.nil0 _ _, below_setRow HB4.out (Nat.le_refl _) _⟩

end Go.Proofs.YtlioiblpcpaejaaGreat
