/- PatchKeeps of package topiarylaw17 is proved at this commit, in its second form: for every input (a tree, a list of steps) of bulk at most 1048576 the call returns true and the arguments read as they did. (The first form is false by size alone.) -/
import Derived.Test.YtccpljllgpabnabVtT
import Derived.Test.YtccpljllgpabnabVtW
import Derived.Laws.OwnMore
import Derived.Deep.MidRow
import Derived.Deep.Cut
import Derived.Test.YtccpljllgpabnabVtH
import Derived.Test.YtccpljllgpabnabVtV
import Derived.Deep.AppendLies
import Derived.Test.YtccpljllgpabnabPaN
import Derived.Test.YtccpljllgpabnabZPa
import Derived.Test.YtccpljllgpabnabBasePp
import Derived.Test.YtccpljllgpabnabSrtB
import Derived.Deep.CondSized
namespace Go.Proofs.Ytccpljllgpabnab
open Go.RowKit
set_option linter.unusedVariables false
set_option linter.unusedSimpArgs false

end Go.Proofs.Ytccpljllgpabnab

namespace Go.Proofs.Ytccpljllgpabnab
open Go.RowKit
set_option linter.unusedVariables false
set_option linter.unusedSimpArgs false

def setL (l : List Value) : Nat → List Value → List Value
  | _, [] => l
  | o, v :: vs => setL (l.set o v) (o + 1) vs
theorem setL_length (vs : List Value) : ∀ (l : List Value) (o : Nat), (setL l o vs).length = l.length := by
  induction vs with
  | nil => intro l o; rfl
  | cons v vs ih => intro l o; unfold setL; rw [ih, List.length_set]
theorem setL_left (vs : List Value) : ∀ (a b : List Value) (o : Nat), o + vs.length ≤ a.length → setL (a ++ b) o vs = setL a o vs ++ b := by
  induction vs with
  | nil => intro a b o h; rfl
  | cons v vs ih =>
    intro a b o h
    unfold setL
    simp only [List.length_cons] at h
    rw [List.set_append_left _ _ (by omega), ih _ _ _ (by rw [List.length_set]; omega)]
theorem setL_right (vs : List Value) : ∀ (a b : List Value) (o : Nat), setL (a ++ b) (a.length + o) vs = a ++ setL b o vs := by
  induction vs with
  | nil => intro a b o; rfl
  | cons v vs ih =>
    intro a b o
    unfold setL
    rw [List.set_append_right _ _ (by omega), show a.length + o - a.length = o by omega, Nat.add_assoc, ih]
theorem flatE_setL {α : Type} {enc : α → List Value} {n : Nat} (hn : ∀ x, (enc x).length = n) (D : List α) : ∀ i (h : i < D.length) (x : α) (j : Nat) (vs : List Value), j + vs.length ≤ n → enc x = setL (enc D[i]) j vs → setL (flatE enc D) (i * n + j) vs = flatE enc (D.set i x) := by
  induction D with
  | nil => intro i h; simp at h
  | cons y t ih =>
    intro i h x j vs hj e
    match i with
    | 0 =>
      rw [List.set_cons_zero, flatE_cons, flatE_cons, Nat.zero_mul, Nat.zero_add, setL_left vs _ _ _ (by rw [hn]; exact hj)]
      rw [e]
      rfl
    | i + 1 =>
      rw [List.set_cons_succ, flatE_cons, flatE_cons, show (i + 1) * n + j = (enc y).length + (i * n + j) by rw [hn, Nat.add_mul]; omega, setL_right, ih i (by simpa using h) x j vs hj (by simpa using e)]
theorem owns_setCells {e : TypeId} {size g n cap base : Nat} (vs : List Value) : ∀ (w : World) (xs : List Value) (o : Nat), w.ownsRow base e size (.slice (some ⟨g, 0, none⟩) n cap) n xs → (w.setCells g o vs).ownsRow base e size (.slice (some ⟨g, 0, none⟩) n cap) n (setL xs o vs) ∧ w.grownBy (w.setCells g o vs) (some g) := by
  induction vs with
  | nil => intro w xs o h; exact ⟨h, ⟨rfl, rfl, rfl, Nat.le_refl _, fun _ _ _ => rfl⟩⟩
  | cons v vs ih =>
    intro w xs o h
    obtain ⟨h1, h2⟩ := World.ownsRow.stored h o v
    obtain ⟨h3, h4⟩ := ih _ _ (o + 1) h1
    exact ⟨h3, ⟨h4.os.trans h2.os, h4.tape.trans h2.tape, h4.output.trans h2.output, Nat.le_trans h2.size h4.size, fun k hk hne => (h4.block k (Nat.lt_of_lt_of_le hk h2.size) hne).trans (h2.block k hk hne)⟩⟩
/-- Cells of one of them are others now. -/
theorem OwnE.over {α : Type} {enc : α → List Value} {n : Nat} {T : TypeId} {B : Nat} {w : World} {g cap : Nat} {D : List α} (hn : ∀ x, (enc x).length = n) (h : OwnE enc n T B w (.slice (some ⟨g, 0, none⟩) D.length cap) D) {i : Nat} (hi : i < D.length) (x : α) (j : Nat) (vs : List Value) (hj : j + vs.length ≤ n) (e : enc x = setL (enc D[i]) j vs) :
    OwnE enc n T B (w.setCells g (i * n + j) vs) (.slice (some ⟨g, 0, none⟩) D.length cap) (D.set i x) ∧ w.grownBy (w.setCells g (i * n + j) vs) (some g) := by
  obtain ⟨h1, h2⟩ := owns_setCells vs w _ (i * n + j) h
  refine ⟨?_, h2⟩
  unfold OwnE
  rw [List.length_set, ← flatE_setL hn D i hi x j vs hj e]
  exact h1

theorem step_store_mid {P : Program} {ops : Array Oper} {o : Oper} {a : Act} {w : World} {K : Act → World → Prop} {Q : Exit → Act → World → Prop} {E : Prop} (hgd : o.guard = none) (ty : TypeId) (x y : Operand) (ho : o.op = .store ty x y)
    (b off : Nat) (cells : Array Value) (hx : a.eval x = .pointer (some ⟨b, off, none⟩)) (hy : a.eval y = .agg cells) (ht : w.there b off cells.size)
    (hi : (P.info? ty).map (·.size) = some cells.size) (h1 : cells.all (·.oneCell') = true)
    (h : K (a.put o.dst undef) (w.setCells b off cells.toList)) : if Region.wanted o (yielded ops a.tmps) = true then Oper.wp P o a w K Q else E := by
  have hw : Region.wanted o (yielded ops a.tmps) = true := by simp [Region.wanted, hgd]
  rw [if_pos hw]
  exact wp_store_mid ty x y ho b off cells hx hy ht hi h1 h

/-- What stands in Copy's loop. -/
structure PcS (m : Nat) (w : World) (t : VT) (H : Nat → Prop) (av kv : Value) (E : List (VT × Value × Value)) (i : Nat) (W : World) : Prop where
  tb : W.heap[w.heap.size]? = some (.cells #[.int .i64 t.k.1, .int .i64 t.k.2, .string t.tg, .string t.tx, av, kv] 27)
  rb : W.heap[w.heap.size + 1]? = some (.cells #[.int .i64 0, .int .i64 0, .string ⟨#[]⟩, .string ⟨#[]⟩, .slice none 0 0, .slice none 0 0] 27)
  bel : Below w.heap.size w W
  at_ : LsE atCells 2 H W av t.at_
  row : OwnVn (w.heap.size + 2) W kv E
  es : E.map Prod.fst = t.ks
  en : ∀ j (h : j < E.length), j < i → FdIs H W E[j].2.1 E[j].2.2 E[j].1.at_ E[j].1.ks
  eo : ∀ j (h : j < E.length), i ≤ j → FdIs (fun k => k < w.heap.size) W E[j].2.1 E[j].2.2 E[j].1.at_ E[j].1.ks
  hH : ∀ k, H k → w.heap.size + 2 ≤ k ∧ k < W.heap.size ∧ kv.ownBlock ≠ some k
  ow : OwnAt 0 W av t.at_
  oh : ∀ k, av.ownBlock = some k → H k
  sp : ∃ Fs : Nat → Nat → Prop, (∀ j (h : j < E.length), j < i → SepF m W (Fs j) E[j].2.1 E[j].2.2 E[j].1) ∧ (∀ j k, Fs j k → H k ∧ av.ownBlock ≠ some k) ∧ ∀ j l k, j ≠ l → Fs j k → ¬ Fs l k
section
variable {m : Nat} {w W W' : World} {t : VT} {H : Nat → Prop} {av kv : Value} {E : List (VT × Value × Value)} {i : Nat}
theorem PcS.below (h : PcS m w t H av kv E i W) (hb : Below W.heap.size W W') : PcS m w t H av kv E i W' := ⟨(hb.block _ (row_lt h.tb)).trans h.tb, (hb.block _ (row_lt h.rb)).trans h.rb, h.bel.trans (hb.mono h.bel.size), h.at_.below hb, h.row.below hb, h.es, fun j q z => (h.en j q z).below hb, fun j q z => (h.eo j q z).below hb, fun k q => ⟨(h.hH k q).1, Nat.lt_of_lt_of_le (h.hH k q).2.1 hb.size, (h.hH k q).2.2⟩, h.ow.below hb, h.oh, (by obtain ⟨Fs, s1, s2, s3⟩ := h.sp; exact ⟨Fs, fun j q z => (s1 j q z).turn m fun k y => hb.block k (h.hH k (s2 j k y).1).2.1, s2, s3⟩)⟩
theorem PcS.len (h : PcS m w t H av kv E i W) : E.length = t.ks.length := by rw [← h.es, List.length_map]
/-- Its lists are new ones. -/
theorem PcS.start {Wa W1 W3 : World} {ax kx v1 v3 : Value} (ha : Wa.heap[w.heap.size]? = some (.cells #[.int .i64 t.k.1, .int .i64 t.k.2, .string t.tg, .string t.tx, ax, kx] 27)) (hr : Wa.heap[w.heap.size + 1]? = some (.cells #[.int .i64 0, .int .i64 0, .string ⟨#[]⟩, .string ⟨#[]⟩, .slice none 0 0, .slice none 0 0] 27)) (hba : Below w.heap.size w Wa) (hsa : Wa.heap.size = w.heap.size + 2)
    (o1 : OwnAt Wa.heap.size W1 v1 t.at_) (b1 : Below Wa.heap.size Wa W1) (hal : t.at_.length ≤ 4398046511104) (o3 : OwnVn (W1.setCell ⟨w.heap.size, 4, none⟩ v1).heap.size W3 v3 E) (b3 : Below (W1.setCell ⟨w.heap.size, 4, none⟩ v1).heap.size (W1.setCell ⟨w.heap.size, 4, none⟩ v1) W3) (es : E.map Prod.fst = t.ks) (e3 : ∀ x ∈ E, FdIs (fun k => k < w.heap.size) w x.2.1 x.2.2 x.1.at_ x.1.ks) :
    PcS m w t (fun k => v1.ownBlock = some k) v1 v3 E 0 (W3.setCell ⟨w.heap.size, 5, none⟩ v3) := by
  have r1 : W1.heap[w.heap.size]? = some (.cells #[.int .i64 t.k.1, .int .i64 t.k.2, .string t.tg, .string t.tx, ax, kx] 27) := (b1.block _ (by omega)).trans ha
  have r2 : (W1.setCell ⟨w.heap.size, 4, none⟩ v1).heap[w.heap.size]? = some (.cells #[.int .i64 t.k.1, .int .i64 t.k.2, .string t.tg, .string t.tx, v1, kx] 27) := (by rw [heap_setCell_same W1 w.heap.size 4 _ _ _ r1]; rfl)
  have s2 : (W1.setCell ⟨w.heap.size, 4, none⟩ v1).heap.size = W1.heap.size := by simp [World.setCell]
  have s1 := b1.size
  have r3 : W3.heap[w.heap.size]? = some (.cells #[.int .i64 t.k.1, .int .i64 t.k.2, .string t.tg, .string t.tx, v1, kx] 27) := (b3.block _ (by omega)).trans r2
  have s4 : (W3.setCell ⟨w.heap.size, 5, none⟩ v3).heap.size = W3.heap.size := by simp [World.setCell]
  have s3 := b3.size
  have k2 : ∀ k, k ≠ w.heap.size → (W1.setCell ⟨w.heap.size, 4, none⟩ v1).heap[k]? = W1.heap[k]? := fun k q => RowKit.Below.heap_setCell _ _ _ _ q
  have k4 : ∀ k, k ≠ w.heap.size → (W3.setCell ⟨w.heap.size, 5, none⟩ v3).heap[k]? = W3.heap[k]? := fun k q => RowKit.Below.heap_setCell _ _ _ _ q
  have hbel : Below w.heap.size w (W3.setCell ⟨w.heap.size, 5, none⟩ v3) := ((hba.trans (b1.mono hba.size)).setCell (p := ⟨w.heap.size, 4, none⟩) (Nat.le_refl _) _ |>.trans (b3.mono (by omega))).setCell (p := ⟨w.heap.size, 5, none⟩) (Nat.le_refl _) _
  have h1 : ∀ k, v1.ownBlock = some k → w.heap.size + 2 ≤ k ∧ k < W1.heap.size := fun k e => (by have := OwnE.lt o1 k e; omega)
  have h3 : ∀ k, v3.ownBlock = some k → W1.heap.size ≤ k := fun k e => (by have := (OwnE.lt o3 k e).1; omega)
  refine ⟨by rw [heap_setCell_same W3 w.heap.size 5 _ _ _ r3]; rfl, ?_, hbel, ?_, ?_, es, fun j _ q => absurd q (by omega), fun j q _ => (e3 E[j] (List.getElem_mem q)).below hbel, fun k q => ⟨(h1 k q).1, by have := (h1 k q).2; omega, fun e => by have := h3 k e; have := (h1 k q).2; omega⟩, ?_, fun k e => e, ⟨fun _ _ => False, fun j _ q => absurd q (by omega), fun _ _ q => q.elim, fun _ _ _ _ q => q.elim⟩⟩
  · rw [k4 _ (by omega), b3.block _ (by omega), k2 _ (by omega), b1.block _ (by omega)]
    exact hr
  · refine (OwnE.lsE atCells_len o1 (by omega) (fun k e => e)).turn (by omega) (fun k q _ => ⟨q, ?_⟩)
    have := h1 k q
    rw [k4 _ (by omega), b3.block _ (by omega), k2 _ (by omega)]
  · exact OwnE.low (OwnE.keep o3 fun k e => k4 k (by have := h3 k e; omega)) (by omega)
  · refine OwnE.low (OwnE.keep o1 fun k e => ?_) (Nat.zero_le _)
    have := h1 k e
    rw [k4 _ (by omega), b3.block _ (by omega), k2 _ (by omega)]
/-- One kid is copied. -/
theorem PcS.over {g n cap : Nat} {F : Nat → Prop} {W2 : World} {x : VT} {xa xk : Value} (h : PcS m w t H av (.slice (some ⟨g, 0, none⟩) n cap) E i W) (hn : n = E.length) (hi : i < E.length) (hx : x = E[i].1) (hb : Below W.heap.size W W2) (hF : ∀ k, F k → W.heap.size ≤ k ∧ k < W2.heap.size) (hf : FdIs F W2 xa xk x.at_ x.ks) (hsp : SepF m W2 F xa xk x) :
    PcS m w t (fun k => H k ∨ F k) av (.slice (some ⟨g, 0, none⟩) n cap) (E.set i (x, xa, xk)) (i + 1) (W2.setCells g (i * 6) (vnC (x, xa, xk))) := by
  subst hn
  have h2 := h.below hb
  obtain ⟨h3, h4⟩ := OwnE.over vnC_len h2.row hi (x, xa, xk) 0 (vnC (x, xa, xk)) (by rw [vnC_len]; omega) (by simp [setL, vnC, ndC])
  rw [Nat.add_zero] at h3 h4
  have hg := OwnE.lt h.row g rfl
  have hsz := h4.size
  have hbs := hb.size
  have k4 : ∀ k, k < W2.heap.size → k ≠ g → (W2.setCells g (i * 6) (vnC (x, xa, xk))).heap[k]? = W2.heap[k]? := fun k q z => h4.block k q (fun e => z (by cases e; rfl))
  have hs := h.bel.size
  have htl := row_lt h.tb
  have hrl := row_lt h.rb
  have hHk : ∀ k, H k → k ≠ g := fun k q e => (h.hH k q).2.2 (by rw [e]; rfl)
  refine ⟨(k4 _ (by omega) (by omega)).trans h2.tb, (k4 _ (by omega) (by omega)).trans h2.rb, h2.bel.grown h4 h2.bel.size (fun k e => by cases e; omega), ?_, h3, ?_, ?_, ?_, ?_, ?_, fun k e => .inl (h.oh k e), ?_⟩
  · exact h2.at_.turn hsz fun k q z => ⟨.inl q, k4 k z (hHk k q)⟩
  · rw [List.map_set, h.es]
    have he : t.ks[i]'(by rw [← h.len]; exact hi) = x := (by rw [hx]; simp only [← h.es, List.getElem_map])
    rw [show (x, xa, xk).1 = t.ks[i]'(by rw [← h.len]; exact hi) from he.symm, List.set_getElem_self]
  · intro j hj q
    have hj2 : j < E.length := by simpa using hj
    by_cases e : j = i
    · subst e
      rw [List.getElem_set_self]
      exact hf.turn hsz fun k q z => ⟨.inr q, k4 k z (by have := (hF k q).1; omega)⟩
    · rw [List.getElem_set_ne (by omega)]
      exact (h2.en j hj2 (by omega)).turn hsz fun k q z => ⟨.inl q, k4 k z (hHk k q)⟩
  · intro j hj q
    have hj2 : j < E.length := by simpa using hj
    rw [List.getElem_set_ne (by omega)]
    exact (h2.eo j hj2 (by omega)).turn hsz fun k q z => ⟨q, k4 k z (by omega)⟩
  · intro k q
    rcases q with q | q
    · exact ⟨(h.hH k q).1, by have := (h.hH k q).2.1; omega, (h.hH k q).2.2⟩
    · have := hF k q
      exact ⟨by omega, by omega, fun e => by have h9 : g = k := (by simpa [Value.ownBlock] using e); omega⟩
  · exact OwnE.keep h2.ow fun k e => k4 k (OwnE.lt h2.ow k e).2 (hHk k (h.oh k e))
  · obtain ⟨Fs, s1, s2, s3⟩ := h2.sp
    refine ⟨fun j k => if j = i then F k else Fs j k, fun j hj q => ?_, fun j k q => ?_, fun j l k hjl q q2 => ?_⟩
    · have hj2 : j < E.length := by simpa using hj
      by_cases e : j = i
      · subst e
        simp only [if_true, List.getElem_set_self]
        exact hsp.turn m fun k y => k4 k (hF k y).2 (by have := (hF k y).1; omega)
      · simp only [if_neg e]
        rw [List.getElem_set_ne (by omega)]
        exact (s1 j hj2 (by omega)).turn m fun k y => k4 k (by have := (h.hH k (s2 j k y).1).2.1; omega) (hHk k (s2 j k y).1)
    · by_cases e : j = i
      · simp only [if_pos e] at q
        exact ⟨.inr q, fun z => by have h9 := (OwnE.lt h.ow k z).2; have := (hF k q).1; omega⟩
      · simp only [if_neg e] at q
        exact ⟨.inl (s2 j k q).1, (s2 j k q).2⟩
    · by_cases e : j = i
      · have e2 : ¬ l = i := by omega
        simp only [if_pos e] at q
        simp only [if_neg e2] at q2
        have := (h.hH k (s2 l k q2).1).2.1
        have := (hF k q).1
        omega
      · simp only [if_neg e] at q
        by_cases e2 : l = i
        · simp only [if_pos e2] at q2
          have := (h.hH k (s2 j k q).1).2.1
          have := (hF k q2).1
          omega
        · simp only [if_neg e2] at q2
          exact s3 j l k hjl q q2
theorem PcS.there {g n cap : Nat} (h : PcS m w t H av (.slice (some ⟨g, 0, none⟩) n cap) E i W) (hi : i < E.length) : W.there g (i * 6) 6 := by
  obtain ⟨g', c', e, _, hcs, hfz⟩ := OwnE.cells vnC_len h.row hi
  cases e
  intro j hj
  refine ⟨?_, hfz _⟩
  obtain ⟨y, hy⟩ : ∃ y, (vnC E[i])[j]? = some y := ⟨_, List.getElem?_eq_getElem (show j < 6 from hj)⟩
  rw [hcs j y hy]
  rfl
/-- All kids. -/
theorem PcS.done (h : PcS m w t H av kv E t.ks.length W) (hl : t.ks.length ≤ 1466015503701) (hal : t.at_.length ≤ 4398046511104) : FdIs (fun k => H k ∨ kv.ownBlock = some k) W av kv t.at_ t.ks := by
  have hes := h.es
  have hEl := h.len
  refine ⟨h.at_.mono fun k q => .inl q, hal, ?_⟩
  have h0 := h.row
  rcases h.row.2 with ⟨e, hn⟩ | ⟨g, cap, cur, e, hg, hc, hcap, rest⟩
  · have : t.ks = [] := List.eq_nil_of_length_eq_zero (by omega)
    rw [this, e]
    exact ⟨none, 0, rfl, Nat.le_refl _, by simp, .inl rfl⟩
  · rw [e] at h0 ⊢
    refine ⟨some ⟨g, 0, none⟩, cap, by rw [hEl], by omega, hl, .inr ⟨g, 0, rfl, .inr rfl, row_lt hc, (VRow_iff _ _).2 fun i hi => ?_⟩⟩
    have hiE : i < E.length := by omega
    obtain ⟨g', cap', e', _, hcs, _⟩ := OwnE.cells vnC_len h0 hiE
    cases e'
    have hxi : E[i].1 = t.ks[i] := by
      have h9 : (E.map Prod.fst)[i]'(by simpa using hiE) = t.ks[i] := by simp only [hes]
      simpa using h9
    refine VAt_iff.2 ⟨E[i].2.1, E[i].2.2, fun j u hj => ?_, ?_⟩
    · rw [Nat.zero_add]
      refine hcs j u ?_
      unfold vnC
      rw [hxi]
      exact hj
    · have h9 := h.en i hiE hi
      rw [hxi] at h9
      exact h9.mono fun k q _ => .inl q
theorem PcS.sep (h : PcS m w t H av kv E t.ks.length W) (hl : t.ks.length ≤ 1466015503701) (hal : t.at_.length ≤ 4398046511104) : SepF (m + 1) W (fun k => H k ∨ kv.ownBlock = some k) av kv t := by
  obtain ⟨Fs, s1, s2, s3⟩ := h.sp
  have hEl := h.len
  exact ⟨E, Fs, h.ow, OwnE.low h.row (Nat.zero_le _), h.es, hal, hl, fun k e => .inl (h.oh k e), fun k e => .inr e, fun j hj => s1 j hj (by omega), fun j k _ q => ⟨.inl (s2 j k q).1, (s2 j k q).2, (h.hH k (s2 j k q).1).2.2⟩, s3⟩
end

end Go.Proofs.Ytccpljllgpabnab

namespace Go.Proofs.Ytccpljllgpabnab
open Go.RowKit
set_option linter.unusedVariables false
set_option linter.unusedSimpArgs false

end Go.Proofs.Ytccpljllgpabnab

namespace Go.Proofs.Ytccpljllgpabnab
open Go.RowKit
set_option linter.unusedVariables false
set_option linter.unusedSimpArgs false

end Go.Proofs.Ytccpljllgpabnab

namespace Go.Proofs.Ytccpljllgpabnab
open Go.RowKit
set_option linter.unusedVariables false
set_option linter.unusedSimpArgs false

def tR : VT := .node (0, 0) ⟨#[114, 111, 111, 116]⟩ ⟨#[]⟩ [] []
def tZ : VT := .node (0, 0) ⟨#[]⟩ ⟨#[]⟩ [] []
theorem fdNil (G : Nat → Prop) (w : World) : FdIs G w (.slice none 0 0) (.slice none 0 0) [] [] := ⟨LsE.nil w none 0, by simp, none, 0, rfl, Nat.le_refl _, by simp, .inl rfl⟩
theorem visR (w : World) : VIs (fun _ => False) w (.agg #[.int .i64 0, .int .i64 0, .string ⟨#[114, 111, 111, 116]⟩, .string ⟨#[]⟩, .slice none 0 0, .slice none 0 0]) tR := ⟨_, _, rfl, fdNil _ w⟩
theorem visZ (w : World) : VIs (fun _ => False) w (.agg #[.int .i64 0, .int .i64 0, .string ⟨#[]⟩, .string ⟨#[]⟩, .slice none 0 0, .slice none 0 0]) tZ := ⟨_, _, rfl, fdNil _ w⟩
theorem chkR_r : chkT tR = 0 := by decide +kernel
theorem chkZ_r : chkT tZ = 8 := by decide +kernel
theorem szR : tR.sz = 1 := by decide +kernel
theorem szZ : tZ.sz = 1 := by decide +kernel
theorem dpR : dpT tR = 1 := by decide +kernel
theorem bnR : BnA tR := fun x hx => by
  simp [tR, flatD, flatDs] at hx
  subst hx
  exact ⟨by decide +kernel, fun y hy => by simp [VT.at_] at hy⟩
theorem bnZ : BnA tZ := fun x hx => by
  simp [tZ, flatD, flatDs] at hx
  subst hx
  exact ⟨by decide +kernel, fun y hy => by simp [VT.at_] at hy⟩

end Go.Proofs.Ytccpljllgpabnab

namespace Go.Proofs.Ytccpljllgpabnab
open Go.RowKit Go.Shelf
set_option linter.unusedVariables false
set_option linter.unusedSimpArgs false

attribute [local go_sem] Oper.semAt_some

theorem infoSk9 : (Try.prog.info? 23).map (fun i => (i.zero, i.size, i.bytes)) = some (some (.agg #[.int .i64 0, .int .i64 0]), 2, 16) := by kernel_rfl
theorem own_cells {B : Nat} {W : World} {v : Value} {D : List St} (h : OwnSt B W v D) {k : Nat} (hk : v.ownBlock = some k) : ∃ c, W.heap[k]? = some (.cells c 23) := by
  rcases h.2 with ⟨rfl, _⟩ | ⟨g, cap, cur, rfl, _, hc, _⟩
  · cases hk
  · injection hk with hk
    subst hk
    exact ⟨cur, hc⟩
theorem keepsFrom_own {B N : Nat} {W W' : World} {v : Value} {D : List St} (h : OwnSt N W v D) (hg : W.grownBy W' v.ownBlock) : KeepsFrom B W W' := ⟨hg.size, fun k o _ hk ho => (hg.block k (Array.getElem?_eq_some_iff.1 hk).1 (fun e => by
  obtain ⟨c, hc⟩ := own_cells h e.symm
  rw [hk] at hc
  injection hc with hc
  subst hc
  cases ho)).trans hk⟩
theorem KpN.own {S : Nat → Prop} {N : Nat} {W W' : World} {v : Value} {D : List St} (h : OwnSt N W v D) (hS : ∀ k, S k → k < N) (hW : ∀ k, S k → k < W.heap.size) (hg : W.grownBy W' v.ownBlock) : KpN S N W W' := ⟨hg.size, fun k hk => by
  rcases hk with hk | ⟨hN, c, f, hc⟩
  · exact hg.block k (hW k hk) (fun e => by have := (OwnE.lt h k e.symm).1; have := hS k hk; omega)
  · refine hg.block k (Array.getElem?_eq_some_iff.1 hc).1 (fun e => ?_)
    obtain ⟨c2, h2⟩ := own_cells h e.symm
    rw [hc] at h2
    injection h2 with h2
    injection h2 with _ h3 _
    exact absurd h3 (by decide)⟩
theorem KpN.setB {S : Nat → Prop} {N : Nat} {A : World} {b i : Nat} {v : Value} (hb : ¬ S b) (hN : b < N) : KpN S N A (A.setCell ⟨b, i, none⟩ v) := KpN.set hb hN
/-- What stands in a round of Keys. -/
structure KyB (w W2 : World) (S : Nat → Prop) (ob : Nat) (v : Value) (D : List St) (W U : World) : Prop where
  rn : RnS w W2 S (B1 ob v 34) U
  ow : OwnSt W2.heap.size U v D
  kf : KeepsFrom W2.heap.size W U
  kn : KpN S W2.heap.size W U
section
variable {w W2 W U U' : World} {S : Nat → Prop} {ob : Nat} {v v' : Value} {D D' : List St}
theorem KyB.below (h : KyB w W2 S ob (v) (D) W U) (hb : Below U.heap.size U U') : KyB w W2 S ob (v) (D) W U' := ⟨h.rn.below hb, OwnE.below h.ow hb, h.kf.trans (keepsFrom_below hb), h.kn.trans (KpN.of_below hb fun k q => Nat.lt_of_lt_of_le (h.rn.sl k q) h.rn.kp.1)⟩
theorem RnS.own (h : RnS w W2 S (B1 ob v 34) U) (ho : OwnSt W2.heap.size U v D) (hg : U.grownBy U' v.ownBlock) : RnS w W2 S (B1 ob v 34) U' := by
  have hN : ∀ j, v.ownBlock = some j → W2.heap.size ≤ j := fun j e => (OwnE.lt ho j e).1
  refine ⟨fun b u t e => ?_, h.bel.grown hg h.bel.size (fun j e => by have := hN j e; have := h.le; omega), h.kp.trans ⟨hg.size, fun k q => hg.block k (Nat.lt_of_lt_of_le (h.sl k q) h.kp.1) (fun e => by have := hN k e.symm; have := h.sl k q; omega)⟩, h.sl, h.ns, h.le⟩
  have h1 := h.box b u t e
  exact (hg.block b (row_lt h1) (fun e2 => by have := hN b e2.symm; have := (h.ns b u t e).2.2; omega)).trans h1
theorem KyB.push (h : KyB w W2 S ob (v) (D) W U) (hg : U.grownBy U' v.ownBlock) (ho : OwnSt W2.heap.size U' v' D') : KyB w W2 S ob (v') (D') W (U'.setCell ⟨ob, 0, none⟩ v') := by
  have hns := h.rn.ns ob v 34 (B1.at _ _ _)
  have h9 := (h.rn.own h.ow hg).set (B1.at _ _ _) v'
  rw [B1.set] at h9
  refine ⟨h9, OwnE.keep ho fun k e => RowKit.Below.heap_setCell _ _ _ _ (by have := (OwnE.lt ho k e).1; show k ≠ ob; omega), (h.kf.trans (keepsFrom_own h.ow hg)).trans (keepsFrom_set _ _ _), (h.kn.trans (KpN.own h.ow h.rn.sl (fun k q => Nat.lt_of_lt_of_le (h.rn.sl k q) h.rn.kp.1) hg)).trans (KpN.set hns.1 hns.2.2)⟩
end

end Go.Proofs.Ytccpljllgpabnab

namespace Go.Proofs.Ytccpljllgpabnab
open Go.RowKit Go.Shelf
set_option linter.unusedVariables false
set_option linter.unusedSimpArgs false

attribute [local go_sem] Oper.semAt_some

theorem ownE_cells {α : Type} {enc : α → List Value} {n B : Nat} {T : TypeId} {W : World} {v : Value} {D : List α} (h : OwnE enc n T B W v D) {k : Nat} (hk : v.ownBlock = some k) : ∃ c t f, W.heap[k]? = some (.cells c t f) := by
  rcases h.2 with ⟨rfl, _⟩ | ⟨g, cap, cur, rfl, _, hc, _⟩
  · cases hk
  · injection hk with hk
    subst hk
    exact ⟨cur, _, _, hc⟩
theorem SepF.clean : ∀ (m : Nat) {W : World} {F : Nat → Prop} {av kv : Value} {t : VT}, SepF m W F av kv t → SepF m W (fun k => F k ∧ ∃ c t f, W.heap[k]? = some (.cells c t f)) av kv t
  | 0, _, _, _, _, _, h => h.elim
  | m + 1, W, _, _, _, _, h => by
    obtain ⟨E, Fs, h1, h2, h3, h4, h5, h6, h7, h8, h9, h10⟩ := h
    exact ⟨E, fun i k => Fs i k ∧ ∃ c t f, W.heap[k]? = some (.cells c t f), h1, h2, h3, h4, h5, fun k e => ⟨h6 k e, ownE_cells h1 e⟩, fun k e => ⟨h7 k e, ownE_cells h2 e⟩, fun i hi => (h8 i hi).clean m, fun i k hi q => ⟨⟨(h9 i k hi q.1).1, q.2⟩, (h9 i k hi q.1).2⟩, fun i j k hij q q2 => h10 i j k hij q.1 q2.1⟩
theorem SepF.mono : ∀ (m : Nat) {W : World} {F F' : Nat → Prop} {av kv : Value} {t : VT}, SepF m W F av kv t → (∀ k, F k → F' k) → SepF m W F' av kv t
  | 0, _, _, _, _, _, _, h, _ => h.elim
  | m + 1, _, _, _, _, _, _, h, hf => by
    obtain ⟨E, Fs, h1, h2, h3, h4, h5, h6, h7, h8, h9, h10⟩ := h
    exact ⟨E, Fs, h1, h2, h3, h4, h5, fun k e => hf k (h6 k e), fun k e => hf k (h7 k e), h8, fun i k hi q => ⟨hf k (h9 i k hi q).1, (h9 i k hi q).2⟩, h10⟩
theorem SepF.vis : ∀ (m : Nat) {W : World} {F : Nat → Prop} {av kv : Value} {t : VT}, SepF m W F av kv t → FdIs F W av kv t.at_ t.ks
  | 0, _, _, _, _, _, h => h.elim
  | m + 1, W, F, av, kv, t, h => by
    obtain ⟨E, Fs, h1, h2, h3, h4, h5, h6, h7, h8, h9, h10⟩ := h
    refine ⟨OwnE.lsE atCells_len h1 (by omega) h6, h4, ?_⟩
    obtain ⟨a, c, e⟩ := OwnE.form h2
    have hl : E.length = t.ks.length := by rw [← h3, List.length_map]
    refine ⟨a, c, by rw [e, hl], ?_, h5, ?_⟩
    · rcases h2.2 with ⟨e2, hn⟩ | ⟨g, cap, cur, e2, _, _, hcap, _⟩
      · rw [e] at e2; injection e2 with _ e4 e5; omega
      · rw [e] at e2; injection e2 with _ e4 e5; omega
    · rcases Nat.eq_zero_or_pos t.ks.length with h0 | h0
      · exact .inl (List.eq_nil_of_length_eq_zero h0)
      · right
        obtain ⟨g, cap, eg, _, _⟩ := OwnE.cells vnC_len h2 (i := 0) (by omega)
        rw [e] at eg
        injection eg with e1 _ _
        refine ⟨g, 0, e1, h7 g (by rw [e, e1]; rfl), (OwnE.lt h2 g (by rw [e, e1]; rfl)).2, (VRow_iff _ _).2 fun i hi => ?_⟩
        have hiE : i < E.length := by omega
        obtain ⟨g2, cap2, eg2, _, hcs, _⟩ := OwnE.cells vnC_len h2 hiE
        rw [e] at eg2
        injection eg2 with e3 _ _
        rw [e1] at e3
        injection e3 with e3
        injection e3 with e3
        subst e3
        have hx : t.ks[i] = E[i].1 := by simp only [← h3, List.getElem_map]
        rw [hx, Nat.zero_add]
        refine VAt_iff.2 ⟨E[i].2.1, E[i].2.2, fun j u hj => hcs j u hj, ?_⟩
        exact ((h8 i hiE).vis m).mono fun k q _ => (h9 i k hiE q).1
theorem sepZ (W : World) : SepF tZ.sz W (fun _ => False) (.slice none 0 0) (.slice none 0 0) tZ := by
  rw [szZ]
  exact ⟨[], fun _ _ => False, OwnE.nil0 _ _, OwnE.nil0 _ _, rfl, by simp [tZ, VT.at_], by simp [tZ, VT.ks], fun k e => (by cases e), fun k e => (by cases e), fun i h => (by simp at h), fun i k h => (by simp at h), fun i j k _ h => (h : False).elim⟩
theorem results_two {fn : Func} {p q : Tmp} {ty : TypeId} (h : fn.results = #[.cell p ty, .cell q 4]) (tmps : Array Value) (w : World) (g h2 : Nat) (cs : Array Value) (b : Bool)
    (hp : tmps.getD p undef = .pointer (some ⟨g, 0, none⟩)) (hq : tmps.getD q undef = .pointer (some ⟨h2, 0, none⟩)) (e1 : (loadVar ty ⟨g, 0, none⟩).run Try.prog w = .ok (.agg cs) w) (hc : w.cell? ⟨h2, 0, none⟩ = some (.bool b)) :
    (results fn tmps).run Try.prog w = .ok (.tuple #[.agg cs, .bool b]) w := by
  have hp' : tmps[p]?.getD undef = .pointer (some ⟨g, 0, none⟩) := by simpa using hp
  have hq' : tmps[q]?.getD undef = .pointer (some ⟨h2, 0, none⟩) := by simpa using hq
  have e2 : (loadVar 4 ⟨h2, 0, none⟩).run Try.prog w = .ok (.bool b) w := by
    simp [loadVar, isAgg, run_underlying Try.underlying4, load, go_sem]
    simp [Sem.run, hc]
  simp [results, h, hp', hq', asAddr, e1, e2]
theorem loadVN (w : World) (g : Nat) (v0 v1 v2 v3 v4 v5 : Value) (hg : w.heap[g]? = some (.cells #[v0, v1, v2, v3, v4, v5] 27)) : (loadVar 27 ⟨g, 0, none⟩).run Try.prog w = .ok (.agg #[v0, v1, v2, v3, v4, v5]) w := run_loadVar_row w g _ _ _ _ _ hg Try.underlying27 rfl (by kernel_rfl)
theorem loadST (w : World) (g : Nat) (v0 v1 : Value) (hg : w.heap[g]? = some (.cells #[v0, v1] 23)) : (loadVar 23 ⟨g, 0, none⟩).run Try.prog w = .ok (.agg #[v0, v1]) w := run_loadVar_row w g _ _ _ _ _ hg Try.underlying23 rfl (by kernel_rfl)
theorem row_set6k {W : World} {b : Nat} {z0 z1 z2 z3 z4 z5 v0 v1 v2 v3 v4 v5 : Value} {t : TypeId} (h : W.heap[b]? = some (.cells #[z0, z1, z2, z3, z4, z5] t)) : ((((((W.setCell ⟨b, 0, none⟩ v0).setCell ⟨b, 1, none⟩ v1).setCell ⟨b, 2, none⟩ v2).setCell ⟨b, 3, none⟩ v3).setCell ⟨b, 4, none⟩ v4).setCell ⟨b, 5, none⟩ v5).heap[b]? = some (.cells #[v0, v1, v2, v3, v4, v5] t) := by
  have h0 := heap_setCell_same W b 0 _ _ v0 h
  have h1 := heap_setCell_same _ b 1 _ _ v1 h0
  have h2 := heap_setCell_same _ b 2 _ _ v2 h1
  have h3 := heap_setCell_same _ b 3 _ _ v3 h2
  have h4 := heap_setCell_same _ b 4 _ _ v4 h3
  have h5 := heap_setCell_same _ b 5 _ _ v5 h4
  simpa using h5
/-- What stands while Find goes over the nodes: the boxes of both results. -/
structure FnS (w W2 : World) (S : Nat → Prop) (rb ob : Nat) (c : Array Value) (b : Bool) (U : World) : Prop where
  r : U.heap[rb]? = some (.cells c 27)
  o : U.heap[ob]? = some (.cells #[.bool b] 4)
  bel : Below w.heap.size w U
  kp : KeepsS S W2 U
  sl : ∀ k, S k → k < W2.heap.size
  nr : ¬ S rb ∧ w.heap.size ≤ rb ∧ rb < W2.heap.size
  no : ¬ S ob ∧ w.heap.size ≤ ob ∧ ob < W2.heap.size
  ne : rb ≠ ob
  le : w.heap.size ≤ W2.heap.size
section
variable {w W2 U U' : World} {S : Nat → Prop} {rb ob : Nat} {c c' : Array Value} {b b' : Bool}
theorem FnS.below (h : FnS w W2 S rb ob c b U) (hb : Below U.heap.size U U') : FnS w W2 S rb ob c b U' := ⟨(hb.block _ (row_lt h.r)).trans h.r, (hb.block _ (row_lt h.o)).trans h.o, h.bel.trans (hb.mono h.bel.size), h.kp.trans (KeepsS.of_below hb fun k q => Nat.lt_of_lt_of_le (h.sl k q) h.kp.1), h.sl, h.nr, h.no, h.ne, h.le⟩
theorem FnS.grown (h : FnS w W2 S rb ob c b U) {row : Option Nat} (hg : U.grownBy U' row) (hr : ∀ r, row = some r → W2.heap.size ≤ r ∧ ∃ o : Obj, U.heap[r]? = some o ∧ o.isCells = false) : FnS w W2 S rb ob c b U' := by
  have hr2 : ∀ r, row = some r → ∃ o : Obj, U.heap[r]? = some o ∧ o.isCells = false := fun r e => (hr r e).2
  refine ⟨row_own h.r hg hr2, row_own h.o hg hr2, h.bel.grown hg h.bel.size (fun j e => by have := (hr j e).1; have := h.le; omega), h.kp.trans ⟨hg.size, fun k q => hg.block k (Nat.lt_of_lt_of_le (h.sl k q) h.kp.1) (fun e => ?_)⟩, h.sl, h.nr, h.no, h.ne, h.le⟩
  have h1 := (hr k e.symm).1
  have h2 := h.sl k q
  omega
theorem FnS.ro (h : FnS w W2 S rb ob c b U) : U.cell? ⟨ob, 0, none⟩ = some (.bool b) := by rw [cell_of_row U ob 0 _ _ _ h.o]; rfl
theorem FnS.fo (h : FnS w W2 S rb ob c b U) : U.frozen? ⟨ob, 0, none⟩ = false := frozen_of_row U ob 0 _ _ h.o
theorem FnS.fr (h : FnS w W2 S rb ob c b U) (i : Nat) : U.frozen? ⟨rb, i, none⟩ = false := frozen_of_row U rb i _ _ h.r
/-- Behind the stores of both results. -/
theorem FnS.told {z0 z1 z2 z3 z4 z5 v0 v1 v2 v3 v4 v5 : Value} (h : FnS w W2 S rb ob #[z0, z1, z2, z3, z4, z5] b U) (b' : Bool) (hU : U' = ((((((U.setCell ⟨rb, 0, none⟩ v0).setCell ⟨rb, 1, none⟩ v1).setCell ⟨rb, 2, none⟩ v2).setCell ⟨rb, 3, none⟩ v3).setCell ⟨rb, 4, none⟩ v4).setCell ⟨rb, 5, none⟩ v5).setCell ⟨ob, 0, none⟩ (.bool b')) : FnS w W2 S rb ob #[v0, v1, v2, v3, v4, v5] b' U' ∧ KeepsFrom W2.heap.size U U' ∧ U'.heap.size = U.heap.size ∧ ∀ k, k ≠ rb → k ≠ ob → U'.heap[k]? = U.heap[k]? := by
  subst hU
  have hk : ∀ (k : Nat), k ≠ rb → k ≠ ob → (((((((U.setCell ⟨rb, 0, none⟩ v0).setCell ⟨rb, 1, none⟩ v1).setCell ⟨rb, 2, none⟩ v2).setCell ⟨rb, 3, none⟩ v3).setCell ⟨rb, 4, none⟩ v4).setCell ⟨rb, 5, none⟩ v5).setCell ⟨ob, 0, none⟩ (.bool b')).heap[k]? = U.heap[k]? := fun k h1 h2 => by
    rw [RowKit.Below.heap_setCell _ _ _ _ h2, RowKit.Below.heap_setCell _ _ _ _ h1, RowKit.Below.heap_setCell _ _ _ _ h1, RowKit.Below.heap_setCell _ _ _ _ h1, RowKit.Below.heap_setCell _ _ _ _ h1, RowKit.Below.heap_setCell _ _ _ _ h1, RowKit.Below.heap_setCell _ _ _ _ h1]
  have hs : (((((((U.setCell ⟨rb, 0, none⟩ v0).setCell ⟨rb, 1, none⟩ v1).setCell ⟨rb, 2, none⟩ v2).setCell ⟨rb, 3, none⟩ v3).setCell ⟨rb, 4, none⟩ v4).setCell ⟨rb, 5, none⟩ v5).setCell ⟨ob, 0, none⟩ (.bool b')).heap.size = U.heap.size := by simp [World.setCell]
  have l1 := h.nr.2.1
  have l2 := h.no.2.1
  refine ⟨⟨(RowKit.Below.heap_setCell _ _ _ _ h.ne).trans (row_set6k h.r), ?_, ?_, h.kp.trans ⟨by rw [hs]; exact Nat.le_refl _, fun k q => hk k (fun e => h.nr.1 (e ▸ q)) (fun e => h.no.1 (e ▸ q))⟩, h.sl, h.nr, h.no, h.ne, h.le⟩, ?_, hs, hk⟩
  · have h9 : ((((((U.setCell ⟨rb, 0, none⟩ v0).setCell ⟨rb, 1, none⟩ v1).setCell ⟨rb, 2, none⟩ v2).setCell ⟨rb, 3, none⟩ v3).setCell ⟨rb, 4, none⟩ v4).setCell ⟨rb, 5, none⟩ v5).heap[ob]? = some (.cells #[.bool b] 4) := by
      have hno := fun e => h.ne (Eq.symm e)
      rw [RowKit.Below.heap_setCell _ _ _ _ hno, RowKit.Below.heap_setCell _ _ _ _ hno, RowKit.Below.heap_setCell _ _ _ _ hno, RowKit.Below.heap_setCell _ _ _ _ hno, RowKit.Below.heap_setCell _ _ _ _ hno, RowKit.Below.heap_setCell _ _ _ _ hno]
      exact h.o
    have := heap_setCell_same _ ob 0 _ _ (.bool b') h9
    simpa using this
  · exact ((((((h.bel.setCell (p := ⟨rb, 0, none⟩) l1 _).setCell (p := ⟨rb, 1, none⟩) l1 _).setCell (p := ⟨rb, 2, none⟩) l1 _).setCell (p := ⟨rb, 3, none⟩) l1 _).setCell (p := ⟨rb, 4, none⟩) l1 _).setCell (p := ⟨rb, 5, none⟩) l1 _).setCell (p := ⟨ob, 0, none⟩) l2 _
  · exact ((((((keepsFrom_set _ _ _).trans (keepsFrom_set _ _ _)).trans (keepsFrom_set _ _ _)).trans (keepsFrom_set _ _ _)).trans (keepsFrom_set _ _ _)).trans (keepsFrom_set _ _ _)).trans (keepsFrom_set _ _ _)
end
/-- The first node with a key. -/
def fndT (t : VT) (key : St) : Option VT := (flT t).find? fun x => decide (x.k = key)
theorem fnd_step {xs : List Nd} {k : Nat} {key : St} (hk : k < xs.length) (h : (xs.take k).find? (fun x => decide (x.t.k = key)) = none) : (xs.take (k + 1)).find? (fun x => decide (x.t.k = key)) = if xs[k].t.k = key then some xs[k] else none := by
  rw [List.take_succ_eq_append_getElem hk, List.find?_append, h]
  simp only [Option.none_or, List.find?_cons, List.find?_nil]
  split <;> simp_all
theorem fnd_all {xs : List Nd} {t : VT} {key : St} (hx : xs.map Nd.t = flT t) : fndT t key = (xs.find? fun x => decide (x.t.k = key)).map Nd.t := by
  unfold fndT
  rw [← hx, List.find?_map]
  rfl
theorem fnd_prefix {xs : List Nd} {k : Nat} {p : Nd → Bool} {y : Nd} (h : (xs.take k).find? p = some y) : xs.find? p = some y := by
  rw [← List.take_append_drop k xs, List.find?_append, h]
  rfl
/-- A list that lies in cells of its own, kept. -/
def Sp (N : Nat) (x : VT) (F : Nat → Prop) (av kv : Value) (W : World) : Prop := SepF x.sz W F av kv x ∧ ∀ k, F k → N ≤ k ∧ k < W.heap.size ∧ ∃ c t f, W.heap[k]? = some (.cells c t f)
theorem Sp.grown {N : Nat} {x : VT} {F : Nat → Prop} {av kv : Value} {W W' : World} (h : Sp N x F av kv W) {row : Option Nat} (hg : W.grownBy W' row) (hr : ∀ r, row = some r → ∃ o : Obj, W.heap[r]? = some o ∧ o.isCells = false) : Sp N x F av kv W' := by
  have hk : ∀ k, F k → W'.heap[k]? = W.heap[k]? := fun k q => by
    obtain ⟨_, _, c, t, f, hc⟩ := h.2 k q
    rw [row_own hc hg hr, hc]
  exact ⟨h.1.turn _ hk, fun k q => ⟨(h.2 k q).1, Nat.lt_of_lt_of_le (h.2 k q).2.1 hg.size, by rw [hk k q]; exact (h.2 k q).2.2⟩⟩
theorem Sp.same {N : Nat} {x : VT} {F : Nat → Prop} {av kv : Value} {W W' : World} (h : Sp N x F av kv W) (hs : W.heap.size ≤ W'.heap.size) (hk : ∀ k, F k → W'.heap[k]? = W.heap[k]?) : Sp N x F av kv W' :=
  ⟨h.1.turn _ hk, fun k q => ⟨(h.2 k q).1, Nat.lt_of_lt_of_le (h.2 k q).2.1 hs, by rw [hk k q]; exact (h.2 k q).2.2⟩⟩

end Go.Proofs.Ytccpljllgpabnab

namespace Go.Proofs.Ytccpljllgpabnab
open Go.RowKit Go.Shelf
set_option linter.unusedVariables false
set_option linter.unusedSimpArgs false

attribute [local go_sem] Oper.semAt_some

end Go.Proofs.Ytccpljllgpabnab

namespace Go.Proofs.Ytccpljllgpabnab
open Go.RowKit Go.Shelf
set_option linter.unusedVariables false
set_option linter.unusedSimpArgs false

attribute [local go_sem] Oper.semAt_some

/-- The last one, if there is one. -/
def lastS (D : List St) : St × Bool := match D.getLast? with | some s => (s, true) | none => ((0, 0), false)
theorem lastS_nil : lastS [] = ((0, 0), false) := rfl
theorem lastS_pos {D : List St} {n : Nat} (h : D.length = n + 1) : lastS D = (D[n]'(by omega), true) := by
  have e : D.getLast? = some (D[n]'(by omega)) := by
    rw [List.getLast?_eq_getElem?, show D.length - 1 = n by omega, List.getElem?_eq_getElem (by omega)]
  unfold lastS
  rw [e]
theorem results_cell_tmp9 {fn : Func} {p u : Tmp} {ty : TypeId} (h : fn.results = #[.cell p ty, .tmp u]) (tmps : Array Value) (w : World) (g : Nat) (cs : Array Value)
    (hp : tmps.getD p undef = .pointer (some ⟨g, 0, none⟩)) (e1 : (loadVar ty ⟨g, 0, none⟩).run Try.prog w = .ok (.agg cs) w) :
    (results fn tmps).run Try.prog w = .ok (.tuple #[.agg cs, tmps.getD u undef]) w := by
  have hp' : tmps[p]?.getD undef = .pointer (some ⟨g, 0, none⟩) := by simpa using hp
  simp [results, h, hp', asAddr, e1]
theorem row_set2k {W : World} {b : Nat} {z0 z1 v0 v1 : Value} {t : TypeId} (h : W.heap[b]? = some (.cells #[z0, z1] t)) : ((W.setCell ⟨b, 0, none⟩ v0).setCell ⟨b, 1, none⟩ v1).heap[b]? = some (.cells #[v0, v1] t) := by
  have h0 := heap_setCell_same W b 0 _ _ v0 h
  have h1 := heap_setCell_same _ b 1 _ _ v1 h0
  simpa using h1

end Go.Proofs.Ytccpljllgpabnab

namespace Go.Proofs.Ytccpljllgpabnab
open Go.RowKit Go.Shelf
set_option linter.unusedVariables false
set_option linter.unusedSimpArgs false

theorem sizeVF : (Try.prog.info? 27).map (·.size) = some 6 := by kernel_rfl
set_option maxRecDepth 100000 in
set_option maxHeartbeats 4000000 in
theorem flatN_any (N : Nat) (t : VT) (v : Value) (w : World) (hN : N ≤ w.heap.size) (hv : VIs (fun k => k < N) w v t) (hsz : t.sz ≤ 1048576) : Calls Try.prog 8 #[v] w fun e w' => ∃ v' E, e = .returned v' ∧ OwnVn N w' v' E ∧ E.map Prod.fst = flT t ∧ (∀ x ∈ E, FdIs (fun k => k < N) w' x.2.1 x.2.2 x.1.at_ x.1.ks) ∧ Below w.heap.size w w' := by
  obtain ⟨aa, ca, ak, ck, e1, fd⟩ := hv.form
  subst e1
  obtain ⟨W1, eW1⟩ : ∃ X, X = (w.alloc (.cells #[.int .i64 t.k.1, .int .i64 t.k.2, .string t.tg, .string t.tx, .slice aa t.at_.length ca, .slice ak t.ks.length ck] 27)) := ⟨_, rfl⟩
  obtain ⟨W2, eW2⟩ : ∃ X, X = W1.alloc (.cells #[] 27) := ⟨_, rfl⟩
  have hb1 : Below w.heap.size w W1 := (by rw [eW1]; exact (Below.refl _ _).alloc (Nat.le_refl _) _)
  have hs1 : W1.heap.size = w.heap.size + 1 := (by rw [eW1]; simp)
  have hb2 : Below W1.heap.size W1 W2 := (by rw [eW2]; exact (Below.refl _ _).alloc (Nat.le_refl _) _)
  have hbb := hb1.trans (hb2.mono hb1.size)
  have HO : Hid (OwnVn N W2 (.slice (some ⟨w.heap.size + 1, 0, none⟩) 0 0) []) := (by rw [eW2, ← hs1]; exact World.ownsRow_made W1 #[] 0 (by omega) (by unfold maxLen; omega) (by simp))
  have HV : Hid (FdIs (fun k => k < N) W2 (.slice aa t.at_.length ca) (.slice ak t.ks.length ck) t.at_ t.ks) := fd.turn hbb.size fun k q _ => ⟨q, hbb.block k (by omega)⟩
  have HB := hide9 hbb
  have HE := hide9 (And.intro eW1 eW2)
  clear hv fd hb1 hb2 hbb hs1 eW1 eW2
  go_enter Try.func8, Try.ntmps8
  go_wp2_with fail
  rw [← HE.out.1, ← HE.out.2]
  clear HE
  refine (flat_n N t.sz t _ _ [] _ (Nat.le_refl _) (VIs.of HV.out) HO.out ⟨_, _, rfl⟩ (Nat.le_trans hN HB.out.size) (by simpa using hsz)).mono ?_
  rintro e W3 ⟨v', E', rfl, h1, h2, h3, h4, _, g3, c3, e3⟩
  have HP := hide9 (And.intro h1 (And.intro h2 (And.intro h3 (HB.out.trans (h4.below (fun k q => by have h9 : w.heap.size + 1 = k := (by simpa [Value.ownBlock] using q); omega) HB.out.size)))))
  obtain ⟨n3, en3⟩ : ∃ n, n = ([] ++ E').length := ⟨_, rfl⟩
  rw [← en3] at e3
  subst e3
  clear en3
  clear h1 h2 h3 h4
  go_wp2
  go_ret
  exact ⟨_, _, rfl, HP.out.1, HP.out.2.1, HP.out.2.2.1, HP.out.2.2.2⟩

set_option maxRecDepth 100000 in
set_option maxHeartbeats 8000000 in
/-- The document's Find. -/
theorem refFindN_any (N : Nat) (t : VT) (key : St) (v : Value) (w : World) (hN : N ≤ w.heap.size) (h : VIs (fun k => k < N) w v t) (hsz : t.sz ≤ 1048576) : Calls Try.prog 9 #[v, .agg #[.int .i64 key.1, .int .i64 key.2]] w fun e w' => ∃ (x : VT) (av kv : Value), e = .returned (.tuple #[.agg #[.int .i64 x.k.1, .int .i64 x.k.2, .string x.tg, .string x.tx, av, kv], .bool (fndT t key).isSome]) ∧ (fndT t key).getD tZ = x ∧ FdIs (fun k => k < N) w' av kv x.at_ x.ks ∧ Below w.heap.size w w' := by
  obtain ⟨aa, ca, ak, ck, e1, fd⟩ := h.form
  subst e1
  obtain ⟨W0, eW⟩ : ∃ X, X = ((w.alloc (.cells #[.int .i64 t.k.1, .int .i64 t.k.2, .string t.tg, .string t.tx, .slice aa t.at_.length ca, .slice ak t.ks.length ck] 27)).alloc (.cells #[.int .i64 key.1, .int .i64 key.2] 23)).alloc (.cells #[.int .i64 0, .int .i64 0, .string ⟨#[]⟩, .string ⟨#[]⟩, .slice none 0 0, .slice none 0 0] 27) := ⟨_, rfl⟩
  have hb0 : Below w.heap.size w W0 := (by rw [eW]; exact (((Below.refl _ _).alloc (Nat.le_refl _) _).alloc (by simp) _).alloc (by simp; omega) _)
  have hT : W0.heap[w.heap.size]? = some (.cells #[.int .i64 t.k.1, .int .i64 t.k.2, .string t.tg, .string t.tx, .slice aa t.at_.length ca, .slice ak t.ks.length ck] 27) := (by rw [eW, Below.heap_alloc _ _ _ (by simp; omega), Below.heap_alloc _ _ _ (by simp)]; exact heap_alloc_new _ _)
  have hK : W0.heap[w.heap.size + 1]? = some (.cells #[.int .i64 key.1, .int .i64 key.2] 23) := (by rw [eW, Below.heap_alloc _ _ _ (by simp)]; have h9 := heap_alloc_new (w.alloc (.cells #[.int .i64 t.k.1, .int .i64 t.k.2, .string t.tg, .string t.tx, .slice aa t.at_.length ca, .slice ak t.ks.length ck] 27)) (.cells #[.int .i64 key.1, .int .i64 key.2] 23); rw [show (w.alloc (.cells #[.int .i64 t.k.1, .int .i64 t.k.2, .string t.tg, .string t.tx, .slice aa t.at_.length ca, .slice ak t.ks.length ck] 27)).heap.size = w.heap.size + 1 by simp] at h9; exact h9)
  have hR : W0.heap[w.heap.size + 2]? = some (.cells #[.int .i64 0, .int .i64 0, .string ⟨#[]⟩, .string ⟨#[]⟩, .slice none 0 0, .slice none 0 0] 27) := (by rw [eW]; have h9 := heap_alloc_new ((w.alloc (.cells #[.int .i64 t.k.1, .int .i64 t.k.2, .string t.tg, .string t.tx, .slice aa t.at_.length ca, .slice ak t.ks.length ck] 27)).alloc (.cells #[.int .i64 key.1, .int .i64 key.2] 23)) (.cells #[.int .i64 0, .int .i64 0, .string ⟨#[]⟩, .string ⟨#[]⟩, .slice none 0 0, .slice none 0 0] 27); rw [show ((w.alloc (.cells #[.int .i64 t.k.1, .int .i64 t.k.2, .string t.tg, .string t.tx, .slice aa t.at_.length ca, .slice ak t.ks.length ck] 27)).alloc (.cells #[.int .i64 key.1, .int .i64 key.2] 23)).heap.size = w.heap.size + 2 by simp] at h9; exact h9)
  have HFd : Hid (FdIs (fun k => k < N) W0 (.slice aa t.at_.length ca) (.slice ak t.ks.length ck) t.at_ t.ks) := fd.turn hb0.size fun k q r => ⟨q, hb0.block k r⟩
  have HB := hide9 hb0
  have HE := hide9 eW
  have HK := hide9 hK
  have HR := hide9 hR
  obtain ⟨y0, y1, y2, y3, y4, y5⟩ := row6 hT
  clear h fd hb0 eW hT hK hR
  go_enter Try.func9, Try.ntmps9
  go_upto_region 1 with fail
  rw [← HE.out]
  go_wp2_with fail
  clear HE y0 y1 y2 y3 y4 y5
  refine (flatN_any N t _ _ (Nat.le_trans hN HB.out.size) (VIs.of HFd.out) hsz).mono ?_
  clear HFd
  rintro e w1 ⟨v1, L, rfl, h1, h2, h3, h4⟩
  obtain ⟨a1, c1, e1⟩ := OwnE.form h1
  subst e1
  have hLl : L.length = t.sz := (by rw [← flT_len, ← h2, List.length_map])
  have hL2 : L.length ≤ 1048576 := by omega
  have HL := hide9 h1
  have HM := hide9 h2
  have HFs : Hid (∀ x ∈ L, FdIs (fun k => k < N) w1 x.2.1 x.2.2 x.1.at_ x.1.ks) := h3
  have HB1 : Hid (Below w.heap.size w w1) := HB.out.trans (h4.mono HB.out.size)
  replace HK : Hid (w1.heap[w.heap.size + 1]? = some (.cells #[.int .i64 key.1, .int .i64 key.2] 23)) := (h4.block _ (row_lt HK.out)).trans HK.out
  replace HR : Hid (w1.heap[w.heap.size + 2]? = some (.cells #[.int .i64 0, .int .i64 0, .string ⟨#[]⟩, .string ⟨#[]⟩, .slice none 0 0, .slice none 0 0] 27)) := (h4.block _ (row_lt HR.out)).trans HR.out
  clear h1 h2 h3 h4 HB hLl
  obtain ⟨kb, ekb⟩ : ∃ b, b = w.heap.size + 1 := ⟨_, rfl⟩
  obtain ⟨rb, erb⟩ : ∃ b, b = w.heap.size + 2 := ⟨_, rfl⟩
  rw [← ekb] at HK
  rw [← erb] at HR
  have Hrb : Hid (w.heap.size ≤ rb) := (by show _ ≤ _; omega)
  go_wp2
  (try rw [show w.heap.size + 1 + 1 = rb by omega])
  (try rw [← erb])
  (try rw [← ekb])
  clear ekb erb
  go_loopw [7] (fun iv wr => ∃ i : Nat, iv = .int .i64 (i : Int) ∧ i ≤ L.length ∧ Hid ((L.take i).find? (fun x => decide (x.1.k = key)) = none) ∧ Hid (Below w1.heap.size w1 wr)) (fun iv _ => L.length - (intOf iv).toNat)
  case atStart => exact ⟨0, rfl, Nat.zero_le _, by (show _ = _; rfl), Below.refl _ _⟩
  case round =>
    obtain ⟨i, rfl, hil, HT, HBr⟩ := hrel
    have HRr : Hid (wr.heap[rb]? = some (.cells #[.int .i64 0, .int .i64 0, .string ⟨#[]⟩, .string ⟨#[]⟩, .slice none 0 0, .slice none 0 0] 27)) := (HBr.out.block _ (row_lt HR.out)).trans HR.out
    by_cases hlt : i < L.length
    · obtain ⟨g, cap, eg, _, hcs, _⟩ := OwnE.cells vnC_len HL.out hlt
      injection eg with e1 e8 e9
      subst e1
      clear e8 e9
      have hgl := (OwnE.lt HL.out g rfl).2
      have hfx := (HFs.out _ (List.getElem_mem hlt)).below HBr.out
      have hfn : (L.take (i + 1)).find? (fun x => decide (x.1.k = key)) = if L[i].1.k = key then some L[i] else none := (by rw [List.take_succ_eq_append_getElem hlt, List.find?_append, HT.out]; simp only [Option.none_or, List.find?_cons, List.find?_nil]; split <;> simp_all)
      have p0 := (HBr.out.cell (p := ⟨g, i * 6 + 0, none⟩) hgl).trans (hcs 0 _ rfl)
      have p1 := (HBr.out.cell (p := ⟨g, i * 6 + 1, none⟩) hgl).trans (hcs 1 _ rfl)
      have p2 := (HBr.out.cell (p := ⟨g, i * 6 + 2, none⟩) hgl).trans (hcs 2 _ rfl)
      have p3 := (HBr.out.cell (p := ⟨g, i * 6 + 3, none⟩) hgl).trans (hcs 3 _ rfl)
      have p4 := (HBr.out.cell (p := ⟨g, i * 6 + 4, none⟩) hgl).trans (hcs 4 _ rfl)
      have p5 := (HBr.out.cell (p := ⟨g, i * 6 + 5, none⟩) hgl).trans (hcs 5 _ rfl)
      obtain ⟨y, ey⟩ : ∃ y, y = L[i] := ⟨_, rfl⟩
      rw [← ey] at hfx hfn p0 p1 p2 p3 p4 p5
      obtain ⟨x, xv, xkv⟩ := y
      obtain ⟨xa, cx, e1⟩ := hfx.at_.form
      obtain ⟨xk, dx, e2⟩ := hfx.ks.form
      dsimp only at e1 e2 hfn
      subst e1 e2
      have HXf : Hid (FdIs (fun k => k < N) wr (.slice xa x.at_.length cx) (.slice xk x.ks.length dx) x.at_ x.ks) := hfx
      have HXc : Hid (g < wr.heap.size ∧ wr.cell? ⟨g, i * 6, none⟩ = some (.int .i64 x.k.1) ∧ wr.cell? ⟨g, i * 6 + 1, none⟩ = some (.int .i64 x.k.2) ∧ wr.cell? ⟨g, i * 6 + 2, none⟩ = some (.string x.tg) ∧ wr.cell? ⟨g, i * 6 + 3, none⟩ = some (.string x.tx) ∧ wr.cell? ⟨g, i * 6 + 4, none⟩ = some (.slice xa x.at_.length cx) ∧ wr.cell? ⟨g, i * 6 + 5, none⟩ = some (.slice xk x.ks.length dx)) := ⟨Nat.lt_of_lt_of_le hgl HBr.out.size, p0, p1, p2, p3, p4, p5⟩
      have HKr : Hid (kb < wr.heap.size ∧ wr.cell? ⟨kb, 0, none⟩ = some (.int .i64 key.1) ∧ wr.cell? ⟨kb, 1, none⟩ = some (.int .i64 key.2)) := (by have h9 := (HBr.out.block _ (row_lt HK.out)).trans HK.out; exact ⟨row_lt h9, by rw [cell_of_row _ _ _ _ _ _ h9]; rfl, by rw [cell_of_row _ _ _ _ _ _ h9]; rfl⟩)
      have HFn := hide9 hfn
      have k1 : (i : Int) < (L.length : Int) := by omega
      have k0 : (0 : Int) ≤ (i : Int) := by omega
      clear ey hfx hfn hcs hgl p0 p1 p2 p3 p4 p5 HT
      go_upto_region 5 with fail
      refine wp_region_held_drew (S := fun W' => Below wr.heap.size wr W') (by kernel_rfl) (Below.refl _ _).drew (fun hHeld => ?_)
      obtain ⟨Uf2u0, eW⟩ : ∃ X, X = wr.drew := ⟨_, rfl⟩
      have hb : Below wr.heap.size wr Uf2u0 := by rw [eW]; exact (Below.refl _ _).drew
      rw [← eW] at hHeld ⊢
      clear eW hb
      refine tkW 0 (some 16) (v := ?_) ?_ hHeld ?_
      rotate_left
      · (intro ww _; go_simp; try with_reducible rfl)
      refine tkW 1 (some 17) (v := ?_) ?_ hHeld ?_
      rotate_left
      · (intro ww _; go_simp; try with_reducible rfl)
      refine tkW 2 (some 18) (v := ?_) ?_ hHeld ?_
      rotate_left
      · (intro ww hSw; (try dsimp only at hSw); go_simp; try with_reducible rfl)
      refine tkW 3 (some 19) (v := ?_) ?_ hHeld ?_
      rotate_left
      · (intro ww _; go_simp; try with_reducible rfl)
      refine tkW 4 (some 20) (v := ?_) ?_ hHeld ?_
      rotate_left
      · (intro ww hSw; (try dsimp only at hSw); obtain ⟨c9, c8⟩ := ckCells hSw HXc.out; go_simp; try with_reducible rfl)
      refine tkW 5 (some 21) (v := ?_) ?_ hHeld ?_
      rotate_left
      · (intro ww hSw; (try dsimp only at hSw); have c9 : ww.cell? ⟨kb, 0, none⟩ = some (.int .i64 key.1) := (hSw.cell (p := ⟨kb, 0, none⟩) HKr.out.1).trans HKr.out.2.1; have c8 : ww.cell? ⟨kb, 1, none⟩ = some (.int .i64 key.2) := (hSw.cell (p := ⟨kb, 1, none⟩) HKr.out.1).trans HKr.out.2.2; go_simp; try with_reducible rfl)
      refine tkW 6 (some 22) (v := .bool (decide ((x.k.1, x.k.2) = (key.1, key.2)))) ?_ hHeld ?_
      · (intro ww hSw; (try dsimp only at hSw); go_simp; by_cases e1 : x.k.1 = key.1 <;> by_cases e2 : x.k.2 = key.2 <;> simp [e1, e2])
      refine wpAnyH_done (by kernel_rfl) ?_ _
      obtain ⟨U, eU⟩ : ∃ X, X = Uf2u0 := ⟨_, rfl⟩
      rw [← eU] at hHeld ⊢
      clear eU
      have HB2 := hide9 (HBr.out.trans (hHeld.mono HBr.out.size))
      by_cases hky : x.k = key
      · have hfd : fndT t key = some x := (by have h9 := HFn.out; rw [if_pos hky] at h9; have h8 : L.find? (fun x => decide (x.1.k = key)) = some (x, .slice xa x.at_.length cx, .slice xk x.ks.length dx) := (by rw [← List.take_append_drop (i + 1) L, List.find?_append, h9]; rfl); unfold fndT; rw [← HM.out, List.find?_map]; show Option.map _ (L.find? _) = _; rw [show (L.find? ((fun x => decide (x.k = key)) ∘ Prod.fst)) = _ from h8]; rfl)
        have HFd := hide9 hfd
        have q8 : decide ((x.k.1, x.k.2) = (key.1, key.2)) = true := decide_eq_true hky
        rw [q8]
        clear q8 hky hfd
        obtain ⟨y0, y1, y2, y3, y4, y5⟩ := ckCells6 hHeld HXc.out
        have HRu : Hid (U.heap[rb]? = some (.cells #[.int .i64 0, .int .i64 0, .string ⟨#[]⟩, .string ⟨#[]⟩, .slice none 0 0, .slice none 0 0] 27)) := (hHeld.block _ (row_lt HRr.out)).trans HRr.out
        have HXu := hide9 (HXf.out.below hHeld)
        have HHe := hide9 hHeld
        clear hHeld
        go_wp2_with (refine wpList_store_row rfl 27 (.tmp 4) (.tmp 26) rfl rb 27 #[.int .i64 0, .int .i64 0, .string ⟨#[]⟩, .string ⟨#[]⟩, .slice none 0 0, .slice none 0 0] #[.int .i64 x.k.1, .int .i64 x.k.2, .string x.tg, .string x.tx, .slice xa x.at_.length cx, .slice xk x.ks.length dx] rfl rfl HRu.out sizeVF rfl (by simp [Value.oneCell']) ?_)
        have hw9 : Below wr.heap.size wr U := HHe.out
        have hs2 := HB1.out.size
        have hT9 : Below w.heap.size w (U.setRow rb #[.int .i64 x.k.1, .int .i64 x.k.2, .string x.tg, .string x.tx, .slice xa x.at_.length cx, .slice xk x.ks.length dx]) := ((HB1.out.trans (HB2.out.mono hs2))).grown (grown_setRow _ _ _) (HB1.out.trans (HB2.out.mono hs2)).size (fun k e => by cases e; exact Hrb.out)
        refine bodyPost_ret (v := .tuple #[.agg #[.int .i64 x.k.1, .int .i64 x.k.2, .string x.tg, .string x.tx, .slice xa x.at_.length cx, .slice xk x.ks.length dx], .bool true]) ?res0 rfl ?post0
        case res0 => exact Eq.trans (results_cell_tmp9 (p := 4) (u := 5) rfl _ _ rb _ rfl (loadVN _ _ _ _ _ _ _ _ (setRow_same HRu.out))) rfl
        exact ⟨x, _, _, by rw [HFd.out]; rfl, by rw [HFd.out]; rfl, HXu.out.turn (by simp) fun k q hk => ⟨q, setRow_other _ _ _ _ (by have := Hrb.out; omega)⟩, hT9⟩
      · have HT2 : Hid ((L.take (i + 1)).find? (fun x => decide (x.1.k = key)) = none) := HFn.out.trans (if_neg hky)
        have q8 : decide ((x.k.1, x.k.2) = (key.1, key.2)) = false := decide_eq_false hky
        rw [q8]
        clear q8 hky hHeld
        have n1 : IntKind.i64.wrap ((i : Int) + 1) = (i : Int) + 1 := by rw [IntKind.wrap_i64]; omega
        go_wp2
        go_roundw
        case rel => exact ⟨i + 1, by go_num, by omega, HT2, HB2⟩
        case measure => simp [intOf]; omega
    · obtain rfl : i = L.length := by omega
      have k1 : ¬ (L.length : Int) < (L.length : Int) := by omega
      have HFd : Hid (fndT t key = none) := (by have h9 := HT.out; rw [List.take_length] at h9; show _ = _; unfold fndT; rw [← HM.out, List.find?_map]; show Option.map _ (L.find? _) = _; rw [show (L.find? ((fun x => decide (x.k = key)) ∘ Prod.fst)) = _ from h9]; rfl)
      have hs2 := HB1.out.size
      clear HT
      go_wp2_with (refine wpList_store_row rfl 27 (.tmp 4) (.tmp 27) rfl rb 27 #[.int .i64 0, .int .i64 0, .string ⟨#[]⟩, .string ⟨#[]⟩, .slice none 0 0, .slice none 0 0] #[.int .i64 0, .int .i64 0, .string ⟨#[]⟩, .string ⟨#[]⟩, .slice none 0 0, .slice none 0 0] rfl rfl HRr.out sizeVF rfl (by simp [Value.oneCell']) ?_)
      have hT9 : Below w.heap.size w (wr.setRow rb #[.int .i64 0, .int .i64 0, .string ⟨#[]⟩, .string ⟨#[]⟩, .slice none 0 0, .slice none 0 0]) := ((HB1.out.trans (HBr.out.mono hs2))).grown (grown_setRow _ _ _) (HB1.out.trans (HBr.out.mono hs2)).size (fun k e => by cases e; exact Hrb.out)
      refine bodyPost_ret (v := .tuple #[.agg #[.int .i64 0, .int .i64 0, .string ⟨#[]⟩, .string ⟨#[]⟩, .slice none 0 0, .slice none 0 0], .bool false]) ?res1 rfl ?post1
      case res1 => exact Eq.trans (results_cell_tmp9 (p := 4) (u := 5) rfl _ _ rb _ rfl (loadVN _ _ _ _ _ _ _ _ (setRow_same HRr.out))) rfl
      exact ⟨tZ, _, _, by rw [HFd.out]; rfl, by rw [HFd.out]; rfl, fdNil _ _, hT9⟩

theorem refFind_any (G : Nat → Prop) (t : VT) (key : St) (v : Value) (w : World) (h : VIs G w v t) (hsz : t.sz ≤ 1048576) : Calls Try.prog 9 #[v, .agg #[.int .i64 key.1, .int .i64 key.2]] w fun e w' => ∃ (x : VT) (av kv : Value), e = .returned (.tuple #[.agg #[.int .i64 x.k.1, .int .i64 x.k.2, .string x.tg, .string x.tx, av, kv], .bool (fndT t key).isSome]) ∧ (fndT t key).getD tZ = x ∧ FdIs (fun k => k < w.heap.size) w' av kv x.at_ x.ks ∧ Below w.heap.size w w' := by
  obtain ⟨aa, ca, ak, ck, e1, fd⟩ := h.form
  subst e1
  exact refFindN_any w.heap.size t key _ w (Nat.le_refl _) (VIs.of (fd.mono fun k _ q => q)) hsz

end Go.Proofs.Ytccpljllgpabnab

namespace Go.Proofs.Ytccpljllgpabnab
set_option linter.unusedVariables false
set_option linter.unusedSimpArgs false

theorem stepU_k (p : Pa) (T : VT) (H : List VT) : (stepU p T H).2.1.k = T.k := by
  unfold stepU
  repeat' split
  all_goals first | rfl | exact cutV_k _ _ | exact insV_k _ _ _ _ | exact (insV_k _ _ _ _).trans (cutV_k _ _) | exact withV_k _ _ _
theorem runP_le : ∀ (L : List Pa) (i : Nat) (T : VT) (H : List VT), (runP L i T H).2.1 ≤ i + L.length
  | [], i, T, H => by simp [runP]
  | p :: r, i, T, H => by
    rw [runP]
    split
    · simp
    · split
      · simp
      · have := runP_le r (i + 1) (stepU p T H).2.1 (stepU p T H).2.2
        simp only [List.length_cons]
        omega
theorem runP_ok : ∀ (L : List Pa) (i : Nat) (T : VT) (H : List VT), OkB T H → (runP L i T H).1 = 0 → OkB (runP L i T H).2.2.1 (runP L i T H).2.2.2 ∧ (runP L i T H).2.2.1.k = T.k
  | [], i, T, H, h, _ => ⟨h, rfl⟩
  | p :: r, i, T, H, h, e => by
    rw [runP] at e ⊢
    split at e
    · rename_i h1; exact absurd e h1
    · rename_i h1
      rw [if_neg h1]
      split at e
      · rename_i h2; exact absurd e h2
      · rename_i h2
        rw [if_neg h2]
        obtain ⟨k1, k2⟩ := runP_ok r (i + 1) _ _ (h.step (by simpa using h1) (by simpa using h2)) e
        exact ⟨k1, k2.trans (stepU_k p T H)⟩
theorem appR_err {t : VT} {L : List Pa} (h : (appR t L).2.2 ≠ 0) : (appR t L).1 = tZe ∧ (appR t L).2.1 ≤ L.length := by
  unfold appR at h ⊢
  split
  · exact ⟨rfl, Nat.zero_le _⟩
  · rename_i h1
    rw [if_neg h1] at h
    split
    · exact ⟨rfl, by have := runP_le L 0 t []; simpa using this⟩
    · rename_i h2
      rw [if_neg h2] at h
      split
      · rename_i h3; rw [if_pos h3] at h; exact absurd rfl h
      · exact ⟨rfl, Nat.le_refl _⟩
theorem appR_ok {t : VT} {L : List Pa} (h : (appR t L).2.2 = 0) : OkB (appR t L).1 [] ∧ (appR t L).1.k = t.k ∧ (appR t L).2.1 = L.length := by
  unfold appR at h ⊢
  split
  · rename_i h1; rw [if_pos h1] at h; exact absurd h h1
  · rename_i h1
    rw [if_neg h1] at h
    split
    · rename_i h2; rw [if_pos h2] at h; exact absurd h h2
    · rename_i h2
      rw [if_neg h2] at h
      split
      · rename_i h3
        have h4 := runP_ok L 0 t [] ((chkT_iff t).1 (by simpa using h1)) (by simpa using h2)
        rw [h3] at h4
        exact ⟨h4.1, h4.2, rfl⟩
      · rename_i h3; rw [if_neg h3] at h; cases h
theorem name_sz {s : ByteArray} (h : nameL (txL s) = true) : s.size ≤ 281474976710656 := by
  unfold nameL at h
  rw [Bool.and_eq_true, decide_eq_true_eq] at h
  have h2 : (txL s).length = s.size := by simp [txL]
  omega
theorem bnT_of {t : VT} (h : chkF t.nf = 0) : BnT t := by
  obtain ⟨h1, _, _, h4⟩ := chkF_parts h
  exact ⟨name_sz h1, fun x hx => name_sz ((names_lt h4).1 x hx).1⟩

end Go.Proofs.Ytccpljllgpabnab

namespace Go.Proofs.Ytccpljllgpabnab
set_option linter.unusedVariables false
set_option linter.unusedSimpArgs false

/-- All nodes but the step's are as they were. -/
def Kp (p : Pa) (T : VT) (H : List VT) (T' : VT) (H' : List VT) : Prop := ∀ f ∈ recV T' ++ recL H', f.k ≠ p.k → f ∈ recV T ++ recL H
theorem OkB.permK {T T' : VT} {H H' : List VT} (h : OkB T H) (p : Pa) (hp : (recV T' ++ recL H').Perm (recV T ++ recL H)) (hk : T'.k = T.k) : Kp p T H T' H' := fun f hf _ => hp.mem_iff.1 hf
theorem OkB.lessK {T : VT} {H H' : List VT} {f : Nf} (h : OkB T H) (p : Pa) (hp : (recV T ++ recL H).Perm (f :: (recV T ++ recL H'))) : Kp p T H T H' := fun g hg _ => hp.mem_iff.2 (List.mem_cons_of_mem _ hg)
theorem OkB.moreK {T : VT} {H : List VT} {f : Nf} (h : OkB T H) (p : Pa) (hf : f.k = p.k) : Kp p T H T (.node f.k f.tg f.tx f.at_ [] :: H) := fun g hg hk => by
  simp only [recL, recV, List.append_nil, List.singleton_append, List.mem_append, List.mem_cons] at hg
  rcases hg with hg | rfl | hg
  · exact List.mem_append_left _ hg
  · exact absurd hf hk
  · exact List.mem_append_right _ hg
theorem OkB.withK {T : VT} {H : List VT} (h : OkB T H) (p : Pa) (F : Nf → Nf) (hF : ∀ x, (F x).k = x.k) : Kp p T H (withV p.k F T) (withL p.k F H) := fun f hf hk => by
  rw [withV_rec p.k F hF, withL_rec p.k F hF, ← List.map_append, List.mem_map] at hf
  obtain ⟨x, hx, rfl⟩ := hf
  split at hk
  · rename_i e
    exact absurd ((hF x).trans e) hk
  · rename_i e
    rw [if_neg e]
    exact hx
theorem OkB.stepK {T : VT} {H : List VT} (h : OkB T H) {p : Pa} (hp : chkP p = 0) (hs : (stepU p T H).1 = 0) : Kp p T H (stepU p T H).2.1 (stepU p T H).2.2 := by
  obtain ⟨hkd, hkey, _, haft, hnam, _⟩ := chkP_parts hp
  have hnT := (List.nodup_append.1 h.nd).1
  have hnH := (List.nodup_append.1 h.nd).2.1
  unfold stepU at hs ⊢
  by_cases e1 : p.kd = 1
  · rw [if_pos e1] at hs ⊢
    by_cases hh : p.k ∈ H.map VT.k
    · rw [if_pos hh] at hs; simp at hs
    · rw [if_neg hh] at hs ⊢
      cases e : fndL p.k H with
      | some y =>
        refine h.permK p (H' := y :: cutL p.k H) ((List.perm_append_left_iff _).2 ?_) rfl
        refine List.Perm.trans ?_ (cutL_perm p.k H y hnH e).symm
        rw [recL]
        exact List.perm_append_comm
      | none =>
        rw [e] at hs
        dsimp only at hs ⊢
        by_cases ht : T.k = p.k
        · rw [if_pos ht] at hs; simp at hs
        · rw [if_neg ht] at hs ⊢
          cases e2 : fndV p.k T with
          | none => rw [e2] at hs; simp at hs
          | some y =>
            have hf : fndL p.k T.ks = some y := by rw [fndV_eq, if_neg ht] at e2; exact e2
            refine h.permK p (T' := cutV p.k T) (H' := y :: H) ?_ (cutV_k _ _)
            refine List.Perm.trans ?_ ((cutV_perm p.k T y hnT hf).symm.append_right _)
            rw [recL, List.append_assoc]
  · rw [if_neg e1] at hs ⊢
    by_cases e2 : p.kd = 2
    · rw [if_pos e2] at hs ⊢
      cases e : heldP p.k H with
      | none => rw [e] at hs; simp at hs
      | some y =>
        rw [e] at hs
        dsimp only at hs ⊢
        by_cases hy : y.ks = []
        · rw [if_pos hy]
          obtain ⟨q1, q2⟩ := heldP_some e
          refine h.lessK p (f := y.nf) ?_
          have h9 := cutL_perm p.k H y hnH (fnd_held hnH q1 q2)
          have h8 : recV y = [y.nf] := by rw [recV_eq, hy]; rfl
          rw [h8] at h9
          refine (h9.append_left _).trans ?_
          rw [← List.append_assoc]
          exact List.perm_append_comm
        · rw [if_neg hy] at hs; simp at hs
    · rw [if_neg e2] at hs ⊢
      by_cases e3 : p.kd = 3
      · rw [if_pos e3] at hs ⊢
        by_cases hm : p.k ∈ keysV T ++ keysL H
        · rw [if_pos hm] at hs; simp at hs
        · rw [if_neg hm] at hs ⊢
          by_cases hf : T.sz + szs H = 8192
          · rw [if_pos hf] at hs; simp at hs
          · rw [if_neg hf]
            have k5 : nameL (txL p.nm) = true := by
              unfold namP at hnam
              rw [if_pos (show fN p.kd = true from decide_eq_true (by omega))] at hnam
              exact hnam
            have k1 : rightB p.k.1 p.k.2 = true := by
              unfold keyP at hkey
              rw [if_neg (by omega)] at hkey
              exact hkey
            exact h.moreK p (f := ⟨p.k, p.nm, ⟨#[]⟩, []⟩) rfl
      · rw [if_neg e3] at hs ⊢
        by_cases e4 : p.kd = 4
        · rw [if_pos e4] at hs ⊢
          cases e : heldP p.k H with
          | none => rw [e] at hs; simp at hs
          | some y =>
            cases eu : fndV p.pa T with
            | none => rw [e, eu] at hs; simp at hs
            | some u =>
              rw [e, eu] at hs
              dsimp only at hs ⊢
              by_cases ha : p.af ≠ (0, 0) ∧ p.af ∉ u.ks.map VT.k
              · rw [if_pos ha] at hs; simp at hs
              · rw [if_neg ha]
                obtain ⟨q1, q2⟩ := heldP_some e
                refine h.permK p (T' := insV p.pa p.af y T) (H' := cutL p.k H) ?_ (insV_k ..)
                have ha2 : p.af = (0, 0) ∨ p.af ∈ u.ks.map VT.k := Classical.byContradiction fun hc => by rw [not_or] at hc; exact ha hc
                refine ((insV_perm p.pa p.af y T u hnT eu ha2).append_right _).trans ?_
                rw [List.append_assoc]
                refine (List.perm_append_left_iff _).2 ?_
                exact List.perm_append_comm.trans (cutL_perm p.k H y hnH (fnd_held hnH q1 q2)).symm
        · rw [if_neg e4] at hs ⊢
          by_cases e5 : p.kd = 5
          · rw [if_pos e5] at hs ⊢
            cases e : fndV p.k T with
            | none => rw [e] at hs; simp at hs
            | some y =>
              rw [e] at hs
              dsimp only at hs ⊢
              by_cases ht : T.k = p.k
              · rw [if_pos ht] at hs; simp at hs
              · rw [if_neg ht] at hs ⊢
                cases ep : parV p.k T with
                | none => rw [ep] at hs; simp at hs
                | some q =>
                  rw [ep] at hs
                  dsimp only at hs ⊢
                  cases eu : fndV q T with
                  | none => rw [eu] at hs; simp at hs
                  | some u =>
                    rw [eu] at hs
                    dsimp only at hs ⊢
                    by_cases ha : p.af ≠ (0, 0) ∧ p.af ∉ u.ks.map VT.k
                    · rw [if_pos ha] at hs; simp at hs
                    · rw [if_neg ha]
                      have ha2 : p.af = (0, 0) ∨ p.af ∈ u.ks.map VT.k := Classical.byContradiction fun hc => by rw [not_or] at hc; exact ha hc
                      have hf : fndL p.k T.ks = some y := by rw [fndV_eq, if_neg ht] at e; exact e
                      have hcp := cutV_perm p.k T y hnT hf
                      have hku : p.k ∈ u.ks.map VT.k := parV_kid p.k q T u hnT ep eu
                      have hak : p.af ≠ p.k ∨ p.af = (0, 0) := aft_ne e5 haft
                      refine h.permK p (T' := insV q p.af y (cutV p.k T)) (H' := H) (List.Perm.append_right _ ?_) ((insV_k ..).trans (cutV_k ..))
                      refine (insV_perm q p.af y (cutV p.k T) (cutV p.k u) ?_ (fndV_cut p.k q T u hnT eu hku) ?_).trans hcp.symm
                      · have h9 := (hcp.map Nf.k)
                        rw [List.map_append, recV_keys, recV_keys, recV_keys] at h9
                        exact (List.nodup_append.1 (h9.nodup_iff.1 hnT)).1
                      · rcases ha2 with ha2 | ha2
                        · exact .inl ha2
                        · rcases hak with hak | hak
                          · refine .inr ?_
                            rw [cutV_eq]
                            exact cutL_roots2 hak ha2
                          · exact .inl hak
          · rw [if_neg e5] at hs ⊢
            cases e : (fndV p.k T).or (fndL p.k H) with
            | none => rw [e] at hs; simp at hs
            | some y =>
              rw [e] at hs
              dsimp only at hs ⊢
              by_cases hz : (stepF p y.nf).1 ≠ 0
              · rw [if_pos hz] at hs; exact absurd hs hz
              · rw [if_neg hz]
                have hz : (stepF p y.nf).1 = 0 := Classical.byContradiction fun hc => hz hc
                exact h.withK p _ (stepF_k p)
/-- Whom no step names is as it was. -/
theorem runP_keeps : ∀ (L : List Pa) (i : Nat) (T : VT) (H : List VT), OkB T H → (runP L i T H).1 = 0 → ∀ f ∈ recV (runP L i T H).2.2.1 ++ recL (runP L i T H).2.2.2, f.k ∉ L.map Pa.k → f ∈ recV T ++ recL H
  | [], i, T, H, _, _ => fun f hf _ => hf
  | p :: r, i, T, H, h, e => by
    intro f hf hk
    rw [runP] at e hf
    split at e
    · rename_i h1; exact absurd e h1
    · rename_i h1
      rw [if_neg h1] at hf
      split at e
      · rename_i h2; exact absurd e h2
      · rename_i h2
        rw [if_neg h2] at hf
        rw [List.map_cons, List.mem_cons, not_or] at hk
        have h1 : chkP p = 0 := by simpa using h1
        have h2 : (stepU p T H).1 = 0 := by simpa using h2
        exact h.stepK h1 h2 f (runP_keeps r (i + 1) _ _ (h.step h1 h2) e f hf hk.2) hk.1
theorem appR_right {t : VT} {L : List Pa} (h : (appR t L).2.2 = 0) : OkB t [] := by
  unfold appR at h
  split at h
  · rename_i h1; exact absurd h h1
  · rename_i h1; exact (chkT_iff t).1 (by simpa using h1)
/-- A node that is not touched, and is there before and behind, is as it was. -/
theorem appR_keeps {t x y : VT} {L : List Pa} (h : (appR t L).2.2 = 0) (hx : x ∈ flT t) (hy : y ∈ flT (appR t L).1) (hk : y.k = x.k) (hn : x.k ∉ L.map Pa.k) : y.nf = x.nf := by
  have ht := appR_right h
  have hyr : y.nf ∈ recV (appR t L).1 := by rw [recV_flT]; exact List.mem_map_of_mem hy
  have hxr : x.nf ∈ recV t ++ recL [] := by rw [recL, List.append_nil, recV_flT]; exact List.mem_map_of_mem hx
  have hyt : y.nf ∈ recV t ++ recL [] := by
    unfold appR at h hyr
    split at h
    · rename_i h1; exact absurd h h1
    · rename_i h1
      rw [if_neg h1] at hyr
      split at h
      · rename_i h2; exact absurd h h2
      · rename_i h2
        rw [if_neg h2] at hyr
        split at h
        · rename_i h3
          rw [if_pos h3] at hyr
          exact runP_keeps L 0 t [] ht (by simpa using h2) y.nf (List.mem_append_left _ hyr) (by rw [show y.nf.k = y.k from rfl, hk]; exact hn)
        · rename_i h3; cases h
  have hm : ((recV t ++ recL []).map Nf.k).Nodup := by rw [List.map_append, recV_keys, recL_keys]; exact ht.nd
  obtain ⟨i, hi, ei⟩ := List.mem_iff_getElem.1 hyt
  obtain ⟨j, hj, ej⟩ := List.mem_iff_getElem.1 hxr
  have h9 : ((recV t ++ recL []).map Nf.k)[i]'(by simpa using hi) = ((recV t ++ recL []).map Nf.k)[j]'(by simpa using hj) := by
    rw [List.getElem_map, List.getElem_map, ei, ej]
    exact hk
  have h8 : i = j := (List.getElem_inj hm).1 h9
  subst h8
  exact ei.symm.trans ej

end Go.Proofs.Ytccpljllgpabnab

namespace Go.Proofs.Ytccpljllgpabnab
open Go.RowKit
set_option linter.unusedVariables false
set_option linter.unusedSimpArgs false

theorem bnA_of {t : VT} {H : List VT} (h : OkB t H) : BnA t := fun x hx => bnT_of (h.ok _ (List.mem_append_left _ (by rw [recV_flT]; exact List.mem_map.2 ⟨x.2, by rw [← flatD_snd t 0]; exact List.mem_map.2 ⟨x, hx, rfl⟩, rfl⟩)))
theorem OkB.szle {t : VT} (h : OkB t []) : t.sz ≤ 1048576 := by have := h.sz; simp [szs] at this; omega
set_option maxRecDepth 100000 in
set_option maxHeartbeats 4000000 in
theorem light_any (G : Nat → Prop) {G2 : Nat → Prop} (t : VT) (v lv : Value) (L : List Pa) (w : World) (hv : VIs G w v t) (hl : LsE paCells 9 G2 w lv L) (hsz : t.sz ≤ 1048576) : Calls Try.prog 4 #[v, lv] w fun e w' => ∃ b, e = .returned (.bool b) ∧ Below w.heap.size w w' := by
  obtain ⟨aa, ca, ak, ck, e1, fd⟩ := hv.form
  subst e1
  obtain ⟨a1, c1, e2⟩ := LsE.form hl
  subst e2
  have ht : (w.alloc (.cells #[.int .i64 t.k.1, .int .i64 t.k.2, .string t.tg, .string t.tx, .slice aa t.at_.length ca, .slice ak t.ks.length ck] 27)).heap[w.heap.size]? = some (.cells #[.int .i64 t.k.1, .int .i64 t.k.2, .string t.tg, .string t.tx, .slice aa t.at_.length ca, .slice ak t.ks.length ck] 27) := heap_alloc_new _ _
  have hb0 : Below w.heap.size w (w.alloc (.cells #[.int .i64 t.k.1, .int .i64 t.k.2, .string t.tg, .string t.tx, .slice aa t.at_.length ca, .slice ak t.ks.length ck] 27)) := (Below.refl _ _).alloc (Nat.le_refl _) _
  obtain ⟨p0, p1, p2, p3, p4, p5⟩ := row6 ht
  obtain ⟨W0, eW0⟩ : ∃ X, X = (w.alloc (.cells #[.int .i64 t.k.1, .int .i64 t.k.2, .string t.tg, .string t.tx, .slice aa t.at_.length ca, .slice ak t.ks.length ck] 27)) := ⟨_, rfl⟩
  have HE := hide9 eW0
  rw [← eW0] at ht hb0
  have HT := hide9 ht
  have HB := hide9 hb0
  have HFd := hide9 (fd.below hb0)
  have HL := hide9 (hl.below hb0)
  clear hv hl fd ht hb0 eW0
  by_cases h2 : L.length ≤ 200
  · have k1 : (L.length : Int) ≤ 200 := by omega
    clear h2
    go_enter Try.func4, Try.ntmps4
    go_wp2_with fail
    rw [← HE.out]
    clear HE p0 p1 p2 p3 p4 p5
    refine (flatF_any G t _ _ (VIs.of HFd.out) hsz).mono ?_
    rintro e w1 ⟨v1, E, rfl, h1, h3, h4, hb⟩
    obtain ⟨a5, c5, e5⟩ := OwnE.form h1
    subst e5
    replace HB : Hid (Below w.heap.size w w1) := HB.out.trans (hb.mono HB.out.size)
    clear h1 h3 h4 hb
    go_wp2
    (try rw [Exit.noGoto_ret])
    go_ret
    exact ⟨_, rfl, HB.out⟩
  · have k1 : ¬ (L.length : Int) ≤ 200 := by omega
    clear h2
    go_enter Try.func4, Try.ntmps4
    go_wp2
    (try rw [Exit.noGoto_ret])
    go_ret
    have HBl := HB.out
    rw [HE.out] at HBl
    first | exact ⟨.inl rfl, HBl⟩ | exact ⟨false, rfl, HBl⟩

end Go.Proofs.Ytccpljllgpabnab

namespace Go.Proofs.Ytccpljllgpabnab
open Go.RowKit Go.Shelf
set_option linter.unusedVariables false
set_option linter.unusedSimpArgs false

theorem kcells_len (x : St) : (stCells x).length = 2 := rfl
/-- A row of stamps of one's own is a list that came in, in the other words. -/
theorem isS_of_own {B : Nat} {w : World} {v : Value} {D : List St} (h : OwnSt B w v D) (hl : D.length ≤ 8796093022208) : S.IsS w v D := S.OwnS.isS (B := B) h hl
set_option maxRecDepth 100000 in
set_option maxHeartbeats 4000000 in
theorem touched_any {G : Nat → Prop} (L : List Pa) (v : Value) (w : World) (h : LsE paCells 9 G w v L) : Calls Try.prog 7 #[v] w fun e w' => ∃ v', e = .returned v' ∧ S.IsS w' v' (S.sortL (L.map Pa.k)) ∧ Below w.heap.size w w' := by
  obtain ⟨a1, c1, e1, hc1, hl1, r1⟩ := h
  subst e1
  obtain ⟨i0, hin, hz0, hz1, hz2⟩ := info_parts infoSk
  have HR1 := hide9 r1
  clear r1 hc1
  go_enter Try.func7, Try.ntmps7
  go_wp2
  go_loopw [3, 8] (fun sv iv wr => ∃ (i : Nat) (ao : Option Addr) (c : Nat), iv = .int .i64 (i : Int) ∧ i ≤ L.length ∧ sv = .slice ao i c ∧ Hid (OwnSt w.heap.size wr (.slice ao i c) ((L.take i).map Pa.k)) ∧ Hid (Below w.heap.size w wr)) (fun _ iv _ => L.length - (intOf iv).toNat)
  case atStart => exact ⟨0, _, _, rfl, Nat.zero_le _, rfl, OwnE.nil0 _ _, Below.refl _ _⟩
  case round =>
    obtain ⟨i, gs, cs, rfl, hil, rfl, HR, HBr⟩ := hrel
    by_cases hlt : i < L.length
    · obtain ⟨lb, lo, e9, _, hlbl, hcs⟩ := HR1.out.resolve_left (fun e => by rw [e] at hlt; simp at hlt)
      obtain ⟨p, ep⟩ : ∃ p, p = L[i] := ⟨_, rfl⟩
      have hcp : ∀ j u, (paCells p)[j]? = some u → wr.cell? ⟨lb, lo + i * 9 + j, none⟩ = some u := fun j u hj => (HBr.out.cell (p := ⟨lb, _, none⟩) hlbl).trans (hcs i hlt j u (by rw [← ep]; exact hj))
      subst e9
      have hsn : (L.take (i + 1)).map Pa.k = (L.take i).map Pa.k ++ [p.k] := (by rw [List.take_succ_eq_append_getElem hlt, List.map_append, ep]; rfl)
      have hDl : ((L.take i).map Pa.k).length = i := (by rw [List.length_map, List.length_take]; omega)
      obtain ⟨D, eD⟩ : ∃ D, D = (L.take i).map Pa.k := ⟨_, rfl⟩
      rw [← eD] at hsn hDl HR
      have Hsn := hide9 hsn
      have HDl := hide9 hDl
      have q0 : wr.cell? ⟨lb, lo + i * 9, none⟩ = some (.int .i64 p.kd) := hcp 0 _ rfl
      have q1 : wr.cell? ⟨lb, lo + i * 9 + 1, none⟩ = some (.int .i64 p.k.1) := hcp 1 _ rfl
      have q2 : wr.cell? ⟨lb, lo + i * 9 + 2, none⟩ = some (.int .i64 p.k.2) := hcp 2 _ rfl
      have q3 : wr.cell? ⟨lb, lo + i * 9 + 3, none⟩ = some (.int .i64 p.pa.1) := hcp 3 _ rfl
      have q4 : wr.cell? ⟨lb, lo + i * 9 + 4, none⟩ = some (.int .i64 p.pa.2) := hcp 4 _ rfl
      have q5 : wr.cell? ⟨lb, lo + i * 9 + 5, none⟩ = some (.int .i64 p.af.1) := hcp 5 _ rfl
      have q6 : wr.cell? ⟨lb, lo + i * 9 + 6, none⟩ = some (.int .i64 p.af.2) := hcp 6 _ rfl
      have q7 : wr.cell? ⟨lb, lo + i * 9 + 7, none⟩ = some (.string p.nm) := hcp 7 _ rfl
      have q8 : wr.cell? ⟨lb, lo + i * 9 + 8, none⟩ = some (.string p.vl) := hcp 8 _ rfl
      obtain ⟨w4, ew4⟩ : ∃ X, X = (wr.alloc (.cells #[.int .i64 p.kd, .int .i64 p.k.1, .int .i64 p.k.2, .int .i64 p.pa.1, .int .i64 p.pa.2, .int .i64 p.af.1, .int .i64 p.af.2, .string p.nm, .string p.vl] 42)).alloc (.cells #[.int .i64 p.k.1, .int .i64 p.k.2] 23) := ⟨_, rfl⟩
      have Hw4 := hide9 ew4
      have hb4 : Below wr.heap.size wr w4 := (by rw [ew4]; exact ((Below.refl _ _).alloc (Nat.le_refl _) _).alloc (by simp) _)
      have hT4 : w4.heap[wr.heap.size + 1]? = some (.cells #[.int .i64 p.k.1, .int .i64 p.k.2] 23) := (by
        rw [ew4]
        have h9 := heap_alloc_new (wr.alloc (.cells #[.int .i64 p.kd, .int .i64 p.k.1, .int .i64 p.k.2, .int .i64 p.pa.1, .int .i64 p.pa.2, .int .i64 p.af.1, .int .i64 p.af.2, .string p.nm, .string p.vl] 42)) (.cells #[.int .i64 p.k.1, .int .i64 p.k.2] 23)
        rw [show (wr.alloc (.cells #[.int .i64 p.kd, .int .i64 p.k.1, .int .i64 p.k.2, .int .i64 p.pa.1, .int .i64 p.pa.2, .int .i64 p.af.1, .int .i64 p.af.2, .string p.nm, .string p.vl] 42)).heap.size = wr.heap.size + 1 by simp] at h9
        exact h9)
      have hbx : (wr.alloc (.cells #[.int .i64 p.kd, .int .i64 p.k.1, .int .i64 p.k.2, .int .i64 p.pa.1, .int .i64 p.pa.2, .int .i64 p.af.1, .int .i64 p.af.2, .string p.nm, .string p.vl] 42)).heap[wr.heap.size]? = some (.cells #[.int .i64 p.kd, .int .i64 p.k.1, .int .i64 p.k.2, .int .i64 p.pa.1, .int .i64 p.pa.2, .int .i64 p.af.1, .int .i64 p.af.2, .string p.nm, .string p.vl] 42) := heap_alloc_new _ _
      have x1 : (wr.alloc (.cells #[.int .i64 p.kd, .int .i64 p.k.1, .int .i64 p.k.2, .int .i64 p.pa.1, .int .i64 p.pa.2, .int .i64 p.af.1, .int .i64 p.af.2, .string p.nm, .string p.vl] 42)).cell? ⟨wr.heap.size, 1, none⟩ = some (.int .i64 p.k.1) := (by rw [cell_of_row _ _ _ _ _ _ hbx]; rfl)
      have x2 : (wr.alloc (.cells #[.int .i64 p.kd, .int .i64 p.k.1, .int .i64 p.k.2, .int .i64 p.pa.1, .int .i64 p.pa.2, .int .i64 p.af.1, .int .i64 p.af.2, .string p.nm, .string p.vl] 42)).cell? ⟨wr.heap.size, 2, none⟩ = some (.int .i64 p.k.2) := (by rw [cell_of_row _ _ _ _ _ _ hbx]; rfl)
      have HT4 := hide9 hT4
      have HR4 := hide9 (OwnE.below HR.out hb4)
      have HB4 : Hid (Below w.heap.size w w4) := HBr.out.trans (hb4.mono HBr.out.size)
      have k1 : (i : Int) < (L.length : Int) := by omega
      have k0 : (0 : Int) ≤ (i : Int) := by omega
      clear ew4 hb4 hT4 HR eD hsn hDl hcs hcp ep hbx
      go_wp2_with (at_builtin; refine Stp.to ?_)
      refine Stp.of ?_
      rw [← Hw4.out]
      clear q0 q1 q2 q3 q4 q5 q6 q7 q8 x1 x2 Hw4
      refine wpList_append_lies w4 rfl _ _ 34 rfl w.heap.size 23 i0 (.agg #[.int .i64 0, .int .i64 0]) 2 16 Try.underlying34 hin hz0 hz1 hz2 rfl (by decide) (.slice gs i cs) i (flatE stCells D) rfl (by have h9 : w4.ownsRow w.heap.size 23 2 (.slice gs i cs) D.length (flatE stCells D) := HR4.out; rw [HDl.out] at h9; exact h9) ⟨wr.heap.size + 1, 0, none⟩ 1 1 (stCells p.k) rfl rfl (World.news_of_block HT4.out) (fun y hy => by simp [stCells] at hy; rcases hy with rfl | rfl <;> rfl) (by decide) (by unfold maxLen; omega) (by omega) HB4.out.size w4.heap.size rfl ?_
      intro g5 c5 w5 hown5 hgr5 hat5 hlt5
      have HB5 : Hid (Below w.heap.size w w5) := HB4.out.trans ((Touch.of_grown (F := fun k => (Value.slice gs i cs).ownBlock = some k) hgr5 (fun k e _ => e)).below (fun k q => (OwnE.lt HR4.out k q).1) HB4.out.size)
      have HR5 : Hid (OwnSt w.heap.size w5 (.slice (some ⟨g5, 0, none⟩) (i + 1) c5) ((L.take (i + 1)).map Pa.k)) := (by show OwnSt _ _ _ _; rw [Hsn.out]; exact OwnE.snoc rfl (by rw [HDl.out]; exact hown5))
      clear hown5 hgr5 hat5 hlt5 HR4 HB4 HT4
      go_wp2
      go_roundw
      case rel => exact ⟨i + 1, _, c5, by go_num, by omega, rfl, HR5, HB5⟩
      case measure => simp [intOf]; omega
    · obtain rfl : i = L.length := by omega
      have k1 : ¬ (L.length : Int) < (L.length : Int) := by omega
      have hs := HBr.out.size
      have HF := hide9 HR.out
      rw [List.take_length] at HF
      clear HR
      go_wp2_with fail
      refine (S.sort_any _ (L.map Pa.k) _ (isS_of_own HF.out (by rw [List.length_map]; exact hl1))).mono ?_
      rintro e w5 ⟨v5, rfl, h5, hb5⟩
      have HV := hide9 h5
      have HB5 : Hid (Below w.heap.size w w5) := HBr.out.trans (hb5.mono HBr.out.size)
      clear h5 hb5 HF
      have hlen : (S.sortL (L.map Pa.k)).length ≤ 8796093022208 := by
        have h8 := S.sortL_length (L.map Pa.k) (L.map Pa.k).length (Nat.le_refl _)
        rw [List.take_length, List.length_map] at h8
        omega
      have HLn := hide9 hlen
      clear hlen
      go_wp2
      go_ret
      exact ⟨_, rfl, S.OwnS.isS HV.out HLn.out, HB5.out⟩

end Go.Proofs.Ytccpljllgpabnab

namespace Go.Proofs.Ytccpljllgpabnab
open Go.RowKit
set_option linter.unusedVariables false
set_option linter.unusedSimpArgs false

theorem sizeVk : (Try.prog.info? 27).map (·.size) = some 6 := by kernel_rfl
/-- What stands while PatchKeeps goes through the nodes. -/
structure PkS (w : World) (ub : Nat) (u : VT) (ua : Option Addr) (uc : Nat) (uk : Option Addr) (ud : Nat) (lv tv : Value) (E : List (VT × Value × Value)) (D : List St) (W : World) : Prop where
  b : W.heap[ub]? = some (.cells #[.int .i64 u.k.1, .int .i64 u.k.2, .string u.tg, .string u.tx, .slice ua u.at_.length uc, .slice uk u.ks.length ud] 27)
  fd : FdIs (fun _ => True) W (.slice ua u.at_.length uc) (.slice uk u.ks.length ud) u.at_ u.ks
  ls : OwnVn 0 W lv E
  fs : ∀ x ∈ E, FdIs (fun _ => True) W x.2.1 x.2.2 x.1.at_ x.1.ks
  tv : S.IsS W tv D
  bel : Below w.heap.size w W
theorem PkS.below {w : World} {ub : Nat} {u : VT} {ua : Option Addr} {uc : Nat} {uk : Option Addr} {ud : Nat} {lv tv : Value} {E : List (VT × Value × Value)} {D : List St} {W W' : World} (h : PkS w ub u ua uc uk ud lv tv E D W) (hb : Below W.heap.size W W') : PkS w ub u ua uc uk ud lv tv E D W' := ⟨(hb.block _ (row_lt h.b)).trans h.b, h.fd.below hb, h.ls.below hb, fun x hx => (h.fs x hx).below hb, h.tv.below hb, h.bel.trans (hb.mono h.bel.size)⟩
theorem sortL_mem (x : St) : ∀ (l d : List St), x ∈ l.foldl S.putL d → x ∈ l ∨ x ∈ d
  | [], d, h => .inr h
  | y :: r, d, h => by
    rw [List.foldl_cons] at h
    rcases sortL_mem x r _ h with h | h
    · exact .inl (List.mem_cons_of_mem _ h)
    · have key : ∀ (q : List St) (p : List St × Bool), x ∈ (q.foldl (S.putStep y) p).1 → x = y ∨ x ∈ q ∨ x ∈ p.1 := by
        intro q
        induction q with
        | nil => exact fun p h => .inr (.inr h)
        | cons z q ih =>
          intro p h
          rcases ih _ h with h | h | h
          · exact .inl h
          · exact .inr (.inl (List.mem_cons_of_mem _ h))
          · unfold S.putStep at h
            split at h <;> simp only [List.mem_append, List.mem_singleton] at h
            · rcases h with (h | h) | h
              · exact .inr (.inr h)
              · exact .inl h
              · exact .inr (.inl (by rw [h]; exact List.mem_cons_self ..))
            · rcases h with h | h
              · exact .inr (.inr h)
              · exact .inr (.inl (by rw [h]; exact List.mem_cons_self ..))
      have hk : x ∈ (S.putTo y d).1 → x = y ∨ x ∈ d := fun h => by
        rcases key d ([], false) h with h | h | h
        · exact .inl h
        · exact .inr h
        · cases h
      unfold S.putL at h
      split at h
      · exact .inr h
      · split at h
        · exact (hk h).imp (fun e => by rw [e]; exact List.mem_cons_self ..) id
        · rcases List.mem_append.1 h with h | h
          · exact (hk h).imp (fun e => by rw [e]; exact List.mem_cons_self ..) id
          · exact .inl (by rw [List.mem_singleton.1 h]; exact List.mem_cons_self ..)
theorem sortL_has {x : St} : ∀ (l d : List St), x ∈ l ∨ x ∈ d → x ∈ l.foldl S.putL d
  | [], d, h => h.resolve_left fun h => by cases h
  | y :: r, d, h => by
    rw [List.foldl_cons]
    refine sortL_has r _ ?_
    by_cases hr : x ∈ r
    · exact .inl hr
    · refine .inr ?_
      have hp : ∀ (q : List St) (p : List St × Bool), (x ∈ p.1 ∨ x ∈ q) → x ∈ (q.foldl (S.putStep y) p).1 := by
        intro q
        induction q with
        | nil => exact fun p h => h.resolve_right fun h => by cases h
        | cons z q ih =>
          intro p h
          refine ih _ ?_
          unfold S.putStep
          rcases h with h | h
          · split <;> exact .inl (by simp [h])
          · rcases List.mem_cons.1 h with rfl | h
            · split <;> exact .inl (by simp)
            · exact .inr h
      have hy : ∀ (q : List St) (p : List St × Bool), (p.2 = true → y ∈ p.1) → (q.foldl (S.putStep y) p).2 = true → y ∈ (q.foldl (S.putStep y) p).1 := by
        intro q
        induction q with
        | nil => exact fun p h => h
        | cons z q ih =>
          intro p h
          refine ih _ ?_
          unfold S.putStep
          split
          · exact fun _ => by simp
          · exact fun e => by have := h e; simp [this]
      unfold S.putL
      rcases h with h | h
      · rcases List.mem_cons.1 h with rfl | h
        · split
          · assumption
          · split
            · rename_i h2; exact hy d ([], false) (fun e => by cases e) h2
            · simp
        · exact absurd h hr
      · split
        · exact h
        · have := hp d ([], false) (.inr h)
          split
          · exact this
          · exact List.mem_append_left _ this
theorem sortL_iff (x : St) (l : List St) : x ∈ S.sortL l ↔ x ∈ l := ⟨fun h => (sortL_mem x l [] h).resolve_right (fun h => by cases h), fun h => sortL_has l [] (.inl h)⟩


set_option maxRecDepth 100000 in
set_option maxHeartbeats 16000000 in
theorem patchKeeps_any (G : Nat → Prop) {G2 : Nat → Prop} (t : VT) (v lv : Value) (L : List Pa) (w : World) (hv : VIs G w v t) (hl : LsE paCells 9 G2 w lv L) (hbn : BnA t) (hsz : t.sz ≤ 1048576) (hnm : ∀ p ∈ L, p.nm.size ≤ 281474976710656) : Calls Try.prog 3 #[v, lv] w fun e w' => e = .returned (.bool true) ∧ Below w.heap.size w w' := by
  obtain ⟨aa, ca, ak, ck, e1, fd⟩ := hv.form
  subst e1
  obtain ⟨a1, c1, e2⟩ := LsE.form hl
  subst e2
  have ht : (w.alloc (.cells #[.int .i64 t.k.1, .int .i64 t.k.2, .string t.tg, .string t.tx, .slice aa t.at_.length ca, .slice ak t.ks.length ck] 27)).heap[w.heap.size]? = some (.cells #[.int .i64 t.k.1, .int .i64 t.k.2, .string t.tg, .string t.tx, .slice aa t.at_.length ca, .slice ak t.ks.length ck] 27) := heap_alloc_new _ _
  have hb0 : Below w.heap.size w (w.alloc (.cells #[.int .i64 t.k.1, .int .i64 t.k.2, .string t.tg, .string t.tx, .slice aa t.at_.length ca, .slice ak t.ks.length ck] 27)) := (Below.refl _ _).alloc (Nat.le_refl _) _
  obtain ⟨p0, p1, p2, p3, p4, p5⟩ := row6 ht
  obtain ⟨W0, eW0⟩ : ∃ X, X = (w.alloc (.cells #[.int .i64 t.k.1, .int .i64 t.k.2, .string t.tg, .string t.tx, .slice aa t.at_.length ca, .slice ak t.ks.length ck] 27)) := ⟨_, rfl⟩
  have HE := hide9 eW0
  rw [← eW0] at ht hb0
  have HT := hide9 ht
  have HB := hide9 hb0
  have HFd := hide9 (fd.below hb0)
  have HL := hide9 (hl.below hb0)
  clear hv hl fd ht hb0 eW0
  have Hbn := hide9 hbn
  have Hnm := hide9 hnm
  clear hbn hnm
  go_enter Try.func3, Try.ntmps3
  go_wp2_with fail
  rw [← HE.out]
  clear HE p0 p1 p2 p3 p4 p5
  refine (light_any G t _ _ L _ (VIs.of HFd.out) HL.out hsz).mono ?_
  rintro e w1 ⟨b, rfl, hb⟩
  replace HT : Hid (w1.heap[w.heap.size]? = some (.cells #[.int .i64 t.k.1, .int .i64 t.k.2, .string t.tg, .string t.tx, .slice aa t.at_.length ca, .slice ak t.ks.length ck] 27)) := (hb.block _ (row_lt HT.out)).trans HT.out
  replace HFd := hide9 (HFd.out.below hb)
  replace HL := hide9 (HL.out.below hb)
  replace HB : Hid (Below w.heap.size w w1) := HB.out.trans (hb.mono HB.out.size)
  clear hb
  cases b with
  | false =>
    go_wp2_with fail
    refine (awake_pa _).mono ?_
    rintro e wz ⟨rfl, hb⟩
    replace HB : Hid (Below w.heap.size w wz) := HB.out.trans (hb.mono HB.out.size)
    clear hb
    go_wp2
    (try rw [Exit.noGoto_ret])
    go_ret
    exact ⟨rfl, HB.out⟩
  | true =>
    obtain ⟨p0, p1, p2, p3, p4, p5⟩ := row6 HT.out
    go_wp2_with fail
    clear p0 p1 p2 p3 p4 p5
    refine (apply_all G _ t _ _ L _ (VIs.of HFd.out) HL.out hsz Hbn.out Hnm.out).mono ?_
    rintro e w3 ⟨v3, rfl, hv3, hb⟩
    replace HT : Hid (w3.heap[w.heap.size]? = some (.cells #[.int .i64 t.k.1, .int .i64 t.k.2, .string t.tg, .string t.tx, .slice aa t.at_.length ca, .slice ak t.ks.length ck] 27)) := (hb.block _ (row_lt HT.out)).trans HT.out
    replace HFd := hide9 (HFd.out.below hb)
    replace HL := hide9 (HL.out.below hb)
    replace HB : Hid (Below w.heap.size w w3) := HB.out.trans (hb.mono HB.out.size)
    clear hb
    obtain ⟨n, en⟩ : ∃ zz, zz = (appR t L).2.1 := ⟨_, rfl⟩
    obtain ⟨c, ec⟩ : ∃ zz, zz = (appR t L).2.2 := ⟨_, rfl⟩
    obtain ⟨u, eu⟩ : ∃ zz, zz = (appR t L).1 := ⟨_, rfl⟩
    have HA : Hid (n = (appR t L).2.1 ∧ c = (appR t L).2.2 ∧ u = (appR t L).1) := ⟨en, ec, eu⟩
    rw [← eu] at hv3
    (try rw [← en])
    (try rw [← ec])
    clear en ec eu
    obtain ⟨ua, uc, uk, ud, e1, fu⟩ := hv3.form
    subst e1
    have HFu := hide9 fu
    clear hv3 fu
    have hz : (w3.alloc (.cells #[.int .i64 0, .int .i64 0, .string ⟨#[]⟩, .string ⟨#[]⟩, .slice none 0 0, .slice none 0 0] 27)).heap[w3.heap.size]? = some (.cells #[.int .i64 0, .int .i64 0, .string ⟨#[]⟩, .string ⟨#[]⟩, .slice none 0 0, .slice none 0 0] 27) := heap_alloc_new _ _
    have Hz := hide9 hz
    obtain ⟨W5, eW5⟩ : ∃ X, X = (w3.alloc (.cells #[.int .i64 0, .int .i64 0, .string ⟨#[]⟩, .string ⟨#[]⟩, .slice none 0 0, .slice none 0 0] 27)).setRow w3.heap.size #[.int .i64 u.k.1, .int .i64 u.k.2, .string u.tg, .string u.tx, .slice ua u.at_.length uc, .slice uk u.ks.length ud] := ⟨_, rfl⟩
    have hb : Below w3.heap.size w3 W5 := (by rw [eW5]; exact ((Below.refl _ _).alloc (Nat.le_refl _) _).grown (grown_setRow _ _ _) (by simp) (fun k e => by cases e; exact Nat.le_refl _))
    obtain ⟨ub, eub⟩ : ∃ n, n = w3.heap.size := ⟨_, rfl⟩
    have Hub : Hid (W5.heap[ub]? = some (.cells #[.int .i64 u.k.1, .int .i64 u.k.2, .string u.tg, .string u.tx, .slice ua u.at_.length uc, .slice uk u.ks.length ud] 27)) := hide9 (by rw [eW5, eub]; exact setRow_same hz)
    have HE5 := hide9 (And.intro eW5 eub)
    replace HFu := hide9 (HFu.out.below hb)
    clear hz eW5 eub
    replace HT : Hid (W5.heap[w.heap.size]? = some (.cells #[.int .i64 t.k.1, .int .i64 t.k.2, .string t.tg, .string t.tx, .slice aa t.at_.length ca, .slice ak t.ks.length ck] 27)) := (hb.block _ (row_lt HT.out)).trans HT.out
    replace HFd := hide9 (HFd.out.below hb)
    replace HL := hide9 (HL.out.below hb)
    replace HB : Hid (Below w.heap.size w W5) := HB.out.trans (hb.mono HB.out.size)
    clear hb
    go_upto_region 4 with (refine wpList_store_row rfl 27 (.tmp 5) (.tmp 22) rfl w3.heap.size 27 #[.int .i64 0, .int .i64 0, .string ⟨#[]⟩, .string ⟨#[]⟩, .slice none 0 0, .slice none 0 0] #[.int .i64 u.k.1, .int .i64 u.k.2, .string u.tg, .string u.tx, .slice ua u.at_.length uc, .slice uk u.ks.length ud] rfl rfl Hz.out sizeVN rfl (by simp [Value.oneCell']) ?_)
    rw [← HE5.out.1, ← HE5.out.2]
    clear HE5 Hz
    by_cases hc : c = 0
    · subst hc
      have hA := HA.out
      obtain ⟨hok, _, _⟩ := appR_ok hA.2.1.symm
      rw [← hA.2.2] at hok
      have HOk := hide9 hok
      have HK : Hid (∀ x ∈ flT t, ∀ y ∈ flT u, y.k = x.k → x.k ∉ L.map Pa.k → y.nf = x.nf) := fun x hx y hy hk hn => appR_keeps hA.2.1.symm hx (by rw [← hA.2.2]; exact hy) hk hn
      clear hok hA HA
      go_wp2_with fail
      refine (touched_any L _ _ HL.out).mono ?_
      rintro e w6 ⟨tv, rfl, htv, hb⟩
      replace Hub : Hid (w6.heap[ub]? = some (.cells #[.int .i64 u.k.1, .int .i64 u.k.2, .string u.tg, .string u.tx, .slice ua u.at_.length uc, .slice uk u.ks.length ud] 27)) := (hb.block _ (row_lt Hub.out)).trans Hub.out
      replace HFu := hide9 (HFu.out.below hb)
      replace HT : Hid (w6.heap[w.heap.size]? = some (.cells #[.int .i64 t.k.1, .int .i64 t.k.2, .string t.tg, .string t.tx, .slice aa t.at_.length ca, .slice ak t.ks.length ck] 27)) := (hb.block _ (row_lt HT.out)).trans HT.out
      replace HFd := hide9 (HFd.out.below hb)
      replace HL := hide9 (HL.out.below hb)
      replace HB : Hid (Below w.heap.size w w6) := HB.out.trans (hb.mono HB.out.size)
      clear hb
      have HTv := hide9 htv
      clear htv
      obtain ⟨p0, p1, p2, p3, p4, p5⟩ := row6 HT.out
      go_wp2_with fail
      clear p0 p1 p2 p3 p4 p5
      refine (flatF_any G t _ _ (VIs.of HFd.out) hsz).mono ?_
      rintro e w7 ⟨lv, E, rfl, h1, h2, h3, hb⟩
      have HS : Hid (PkS w ub u ua uc uk ud lv tv E (S.sortL (L.map Pa.k)) w7) := ⟨(hb.block _ (row_lt Hub.out)).trans Hub.out, (HFu.out.below hb).mono fun _ _ _ => trivial, OwnE.low h1 (Nat.zero_le _), fun x hx => (h3 x hx).mono fun _ _ _ => trivial, HTv.out.below hb, HB.out.trans (hb.mono HB.out.size)⟩
      have HLm := hide9 h2
      have hLl : E.length = t.sz := (by rw [← flT_len, ← h2, List.length_map])
      clear Hub HFu HTv HB HT HFd HL hb h1 h2 h3
      obtain ⟨al, cl, el⟩ := OwnE.form HS.out.ls
      rw [hLl] at el
      subst el
      obtain ⟨at_, ct, et⟩ := S.IsS.form HS.out.tv
      subst et
      have HLl := hide9 hLl
      clear hLl
      obtain ⟨D, eD⟩ : ∃ D, D = S.sortL (L.map Pa.k) := ⟨_, rfl⟩
      have HD : Hid (∀ x, x ∈ D ↔ x ∈ L.map Pa.k) := fun x => by rw [eD]; exact sortL_iff x _
      rw [← eD] at HS ⊢
      clear eD
      go_wp2
      go_loopw [10] (fun iv wr => ∃ i : Nat, i ≤ t.sz ∧ iv = .int .i64 (i : Int) ∧ Hid (PkS w ub u ua uc uk ud (.slice al t.sz cl) (.slice at_ D.length ct) E D wr)) (fun iv _ => t.sz - (intOf iv).toNat)
      case atStart => exact ⟨0, Nat.zero_le _, rfl, HS⟩
      case round =>
        clear HS
        obtain ⟨i, hi, rfl, HS⟩ := hrel
        by_cases hlt : i < t.sz
        · have k1 : (i : Int) < (t.sz : Int) := by omega
          have k0 : (0 : Int) ≤ (i : Int) := by omega
          have hiL : i < E.length := by rw [HLl.out]; exact hlt
          have hiF : i < (flT t).length := by rw [flT_len]; exact hlt
          obtain ⟨gl, cpl, egl, _, hcl, _⟩ := OwnE.cells vnC_len HS.out.ls hiL
          injection egl with el1 e91 e92
          clear e91 e92
          subst el1
          have hgl := (OwnE.lt HS.out.ls gl rfl).2
          have hxe : (flT t)[i] = E[i].1 := (by simp only [← HLm.out, List.getElem_map])
          have hxm : (flT t)[i] ∈ flT t := List.getElem_mem hiF
          have hfx := HS.out.fs _ (List.getElem_mem hiL)
          have hkp := HK.out _ hxm
          have p0 := hcl 0 _ rfl
          have p1 := hcl 1 _ rfl
          have p2 := hcl 2 _ rfl
          have p3 := hcl 3 _ rfl
          have p4 := hcl 4 _ rfl
          have p5 := hcl 5 _ rfl
          obtain ⟨y, ey⟩ : ∃ y, y = E[i] := ⟨_, rfl⟩
          rw [← ey] at hxe hfx p0 p1 p2 p3 p4 p5
          rw [hxe] at hkp
          obtain ⟨x, xv, xkv⟩ := y
          obtain ⟨xa, cx, e1⟩ := hfx.at_.form
          obtain ⟨xk, dx, e2⟩ := hfx.ks.form
          dsimp only at e1 e2 hkp
          subst e1 e2
          have HXf : Hid (FdIs (fun _ => True) wr (.slice xa x.at_.length cx) (.slice xk x.ks.length dx) x.at_ x.ks) := hfx
          have HXc : Hid (gl < wr.heap.size ∧ wr.cell? ⟨gl, i * 6, none⟩ = some (.int .i64 x.k.1) ∧ wr.cell? ⟨gl, i * 6 + 1, none⟩ = some (.int .i64 x.k.2) ∧ wr.cell? ⟨gl, i * 6 + 2, none⟩ = some (.string x.tg) ∧ wr.cell? ⟨gl, i * 6 + 3, none⟩ = some (.string x.tx) ∧ wr.cell? ⟨gl, i * 6 + 4, none⟩ = some (.slice xa x.at_.length cx) ∧ wr.cell? ⟨gl, i * 6 + 5, none⟩ = some (.slice xk x.ks.length dx)) := ⟨hgl, p0, p1, p2, p3, p4, p5⟩
          have HKp := hide9 hkp
          have HFr : Hid (FdIs (fun k => k < wr.heap.size) wr (.slice ua u.at_.length uc) (.slice uk u.ks.length ud) u.at_ u.ks) := HS.out.fd.mono fun k _ q => q
          clear hcl hxe hxm hfx hkp ey p0 p1 p2 p3 p4 p5 hgl
          go_upto_region 11 with fail
          refine wp_region_held_drew (S := fun W' => Below wr.heap.size wr W') (by kernel_rfl) (Below.refl _ _).drew (fun hHeld => ?_)
          obtain ⟨Up1u0, eW⟩ : ∃ X, X = wr.drew := ⟨_, rfl⟩
          have hb : Below wr.heap.size wr Up1u0 := by rw [eW]; exact (Below.refl _ _).drew
          rw [← eW] at hHeld ⊢
          clear eW hb
          refine tkW 0 (some 39) (v := ?_) ?_ hHeld ?_
          rotate_left
          · (intro ww hSw; (try dsimp only at hSw); obtain ⟨y0, y1, y2, y3, y4, y5⟩ := row6 ((hSw.block _ (row_lt HS.out.b)).trans HS.out.b); go_simp; try with_reducible rfl)
          refine tkW 1 (some 40) (v := ?_) ?_ hHeld ?_
          rotate_left
          · (intro ww _; go_simp; try with_reducible rfl)
          refine tkW 2 (some 41) (v := ?_) ?_ hHeld ?_
          rotate_left
          · (intro ww _; go_simp; try with_reducible rfl)
          refine tkW 3 (some 42) (v := ?_) ?_ hHeld ?_
          rotate_left
          · (intro ww hSw; (try dsimp only at hSw); go_simp; try with_reducible rfl)
          refine tkW 4 (some 43) (v := ?_) ?_ hHeld ?_
          rotate_left
          · (intro ww _; go_simp; try with_reducible rfl)
          refine tkW 5 (some 44) (v := ?_) ?_ hHeld ?_
          rotate_left
          · (intro ww hSw; (try dsimp only at hSw); obtain ⟨y0, y1, y2, y3, y4, y5⟩ := ckCells6 hSw HXc.out; go_simp; try with_reducible rfl)
          refine wpAnyH_ready (rs := [6, 10]) (by kernel_rfl) (by simp) ?_
          refine AllReadyH.cons (o := ⟨some 45, _, _, _, _, _⟩) rfl (fun K hK => ?_) (AllReadyH.cons (o := ⟨some 11, _, _, _, _, _⟩) rfl (fun K hK => ?_) AllReadyH.nil)
          · go_simp
            refine (refFindN_any wr.heap.size u x.k _ _ hHeld.size (VIs.of (HFr.out.below hHeld)) HOk.out.szle).mono ?_
            rintro e Up1u1 ⟨y, av, kv9, rfl, hy, hfy, hb⟩
            obtain ⟨sa, sc, ea⟩ := hfy.at_.form
            obtain ⟨sk, dk, ek⟩ := hfy.ks.form
            subst ea ek
            obtain ⟨fb, efb⟩ : ∃ b, b = (fndT u x.k).isSome := ⟨_, rfl⟩
            rw [← efb]
            have Hfb := hide9 efb
            have Hy := hide9 hy
            have HFy : Hid (FdIs (fun k => k < wr.heap.size) Up1u1 (.slice sa y.at_.length sc) (.slice sk y.ks.length dk) y.at_ y.ks) := hfy
            clear hfy hy efb
            (try go_wp2_with fail)
            refine hK.out _ _ (hHeld.trans (hb.mono hHeld.size)) (fun hHeld2 => ?_)
            clear hK K hHeld
            have hHeld := hHeld2
            clear hHeld2
            (try simp only [Act.put, List.setIfInBounds_toArray, List.set_cons_zero, List.set_cons_succ])
            clear hb
            refine tkW 7 (some 38) (v := ?_) ?_ hHeld ?_
            rotate_left
            · (intro ww _; go_simp; try with_reducible rfl)
            refine tkW 8 (some 46) (v := ?_) ?_ hHeld ?_
            rotate_left
            · (intro ww _; go_simp; try with_reducible rfl)
            refine tkW 9 (some 47) (v := ?_) ?_ hHeld ?_
            rotate_left
            · (intro ww _; go_simp; try with_reducible rfl)
            refine wpAnyH_ready (rs := [10]) (by kernel_rfl) (by simp) ?_
            refine AllReadyH.cons (o := ⟨some 11, _, _, _, _, _⟩) rfl (fun K hK => ?_) AllReadyH.nil
            have hbx : Below Up1u1.heap.size Up1u1 (Up1u1.alloc (.cells #[.int .i64 0, .int .i64 0, .string ⟨#[]⟩, .string ⟨#[]⟩, .slice none 0 0, .slice none 0 0] 27)) := (Below.refl _ _).alloc (Nat.le_refl _) _
            have HNb : Hid (wr.heap.size ≤ Up1u1.heap.size) := hHeld.size
            go_simp
            refine hK.out _ _ (hHeld.trans (hbx.mono hHeld.size)) (fun hHeld2 => ?_)
            clear hK K hHeld
            have hHeld := hHeld2
            clear hHeld2
            (try simp only [Act.put, List.setIfInBounds_toArray, List.set_cons_zero, List.set_cons_succ])
            obtain ⟨Up1u2, eW⟩ : ∃ X, X = Up1u1.alloc (.cells #[.int .i64 0, .int .i64 0, .string ⟨#[]⟩, .string ⟨#[]⟩, .slice none 0 0, .slice none 0 0] 27) := ⟨_, rfl⟩
            have hb : Below Up1u1.heap.size Up1u1 Up1u2 := by rw [eW]; exact (Below.refl _ _).alloc (Nat.le_refl _) _
            have HZ : Hid (Up1u2.heap[Up1u1.heap.size]? = some (.cells #[.int .i64 0, .int .i64 0, .string ⟨#[]⟩, .string ⟨#[]⟩, .slice none 0 0, .slice none 0 0] 27)) := by rw [eW]; exact heap_alloc_new _ _
            rw [← eW] at hHeld ⊢
            clear eW
            clear hbx
            obtain ⟨nb, enb⟩ : ∃ b, b = Up1u1.heap.size := ⟨_, rfl⟩
            replace HFy := hide9 (HFy.out.below hb)
            rw [← enb] at HZ HNb ⊢
            clear enb
            clear hb
            refine wpAnyH_ready (rs := [11]) (by kernel_rfl) (by simp) ?_
            refine AllReadyH.cons (o := ⟨none, _, _, _, _, _⟩) rfl (fun K hK => ?_) AllReadyH.nil
            refine step_store_row rfl 27 (.tmp 11) (.tmp 46) rfl nb 27 #[.int .i64 0, .int .i64 0, .string ⟨#[]⟩, .string ⟨#[]⟩, .slice none 0 0, .slice none 0 0] #[.int .i64 y.k.1, .int .i64 y.k.2, .string y.tg, .string y.tx, (.slice sa y.at_.length sc), (.slice sk y.ks.length dk)] rfl rfl HZ.out sizeVk rfl (by simp [Value.oneCell']) ?_
            obtain ⟨Up1u3, eW⟩ : ∃ Y, Y = Up1u2.setRow nb #[.int .i64 y.k.1, .int .i64 y.k.2, .string y.tg, .string y.tx, (.slice sa y.at_.length sc), (.slice sk y.ks.length dk)] := ⟨_, rfl⟩
            rw [← eW]
            have HN : Hid (Up1u3.heap[nb]? = some (.cells #[.int .i64 y.k.1, .int .i64 y.k.2, .string y.tg, .string y.tx, (.slice sa y.at_.length sc), (.slice sk y.ks.length dk)] 27)) := (by rw [eW]; exact setRow_same HZ.out)
            have hbz : Below wr.heap.size wr Up1u3 := (by rw [eW]; exact hHeld.grown (grown_setRow _ _ _) hHeld.size (fun k e => by cases e; exact HNb.out))
            replace HFy : Hid (FdIs (fun k => k < wr.heap.size) Up1u3 (.slice sa y.at_.length sc) (.slice sk y.ks.length dk) y.at_ y.ks) := (by rw [eW]; exact HFy.out.turn (by simp) fun k q _ => ⟨q, setRow_other Up1u2 nb k _ (by have := HNb.out; omega)⟩)
            clear eW
            refine hK.out _ _ (hbz) (fun hHeld2 => ?_)
            clear hK K hHeld
            have hHeld := hHeld2
            clear hHeld2
            (try simp only [Act.put, List.setIfInBounds_toArray, List.set_cons_zero, List.set_cons_succ])
            clear hbz HZ HNb
            refine tkW 12 (some 12) (v := ?_) ?_ hHeld ?_
            rotate_left
            · (intro ww _; go_simp; try with_reducible rfl)
            refine wpAnyH_done (by kernel_rfl) ?_ _
            obtain ⟨U, eU⟩ : ∃ X, X = Up1u3 := ⟨_, rfl⟩
            rw [← eU] at hHeld HN HFy ⊢
            clear eU
            replace HS : Hid (PkS w ub u ua uc uk ud (.slice (some ⟨gl, 0, none⟩) t.sz cl) (.slice at_ D.length ct) E D U) := HS.out.below hHeld
            replace HXf := hide9 (HXf.out.below hHeld)
            have HXc9 := hide9 HXc.out
            replace HXc : Hid (gl < U.heap.size ∧ U.cell? ⟨gl, i * 6, none⟩ = some (.int .i64 x.k.1) ∧ U.cell? ⟨gl, i * 6 + 1, none⟩ = some (.int .i64 x.k.2) ∧ U.cell? ⟨gl, i * 6 + 2, none⟩ = some (.string x.tg) ∧ U.cell? ⟨gl, i * 6 + 3, none⟩ = some (.string x.tx) ∧ U.cell? ⟨gl, i * 6 + 4, none⟩ = some (.slice xa x.at_.length cx) ∧ U.cell? ⟨gl, i * 6 + 5, none⟩ = some (.slice xk x.ks.length dx)) := ⟨Nat.lt_of_lt_of_le HXc9.out.1 hHeld.size, ckCells6 hHeld HXc9.out⟩
            clear HXc9 hHeld
            cases fb with
            | false =>
              have n1 : IntKind.i64.wrap ((i : Int) + 1) = (i : Int) + 1 := by rw [IntKind.wrap_i64]; omega
              go_wp2
              go_roundw
              case rel => exact ⟨i + 1, by omega, by go_num, HS⟩
              case measure => simp [intOf]; omega
            | true =>
              obtain ⟨p0, p1, p2, p3, p4, p5⟩ := HXc.out.2
              go_wp2_with fail
              clear p0 p1 p2 p3 p4 p5
              refine (S.has_any _ D x.k.1 x.k.2 _ HS.out.tv).mono ?_
              rintro e U2 ⟨rfl, hb⟩
              replace HS : Hid (PkS w ub u ua uc uk ud (.slice (some ⟨gl, 0, none⟩) t.sz cl) (.slice at_ D.length ct) E D U2) := HS.out.below hb
              replace HXf := hide9 (HXf.out.below hb)
              replace HFy := hide9 (HFy.out.below hb)
              replace HN : Hid (U2.heap[nb]? = some (.cells #[.int .i64 y.k.1, .int .i64 y.k.2, .string y.tg, .string y.tx, (.slice sa y.at_.length sc), (.slice sk y.ks.length dk)] 27)) := (hb.block _ (row_lt HN.out)).trans HN.out
              have HXc9 := hide9 HXc.out
              replace HXc : Hid (gl < U2.heap.size ∧ U2.cell? ⟨gl, i * 6, none⟩ = some (.int .i64 x.k.1) ∧ U2.cell? ⟨gl, i * 6 + 1, none⟩ = some (.int .i64 x.k.2) ∧ U2.cell? ⟨gl, i * 6 + 2, none⟩ = some (.string x.tg) ∧ U2.cell? ⟨gl, i * 6 + 3, none⟩ = some (.string x.tx) ∧ U2.cell? ⟨gl, i * 6 + 4, none⟩ = some (.slice xa x.at_.length cx) ∧ U2.cell? ⟨gl, i * 6 + 5, none⟩ = some (.slice xk x.ks.length dx)) := ⟨Nat.lt_of_lt_of_le HXc9.out.1 hb.size, ckCells6 hb HXc9.out⟩
              clear HXc9 hb
              by_cases hm : (x.k.1, x.k.2) ∈ D
              · rw [decide_eq_true hm]
                clear hm
                have n1 : IntKind.i64.wrap ((i : Int) + 1) = (i : Int) + 1 := by rw [IntKind.wrap_i64]; omega
                go_wp2
                go_roundw
                case rel => exact ⟨i + 1, by omega, by go_num, HS⟩
                case measure => simp [intOf]; omega
              · rw [decide_eq_false hm]
                have hnf : y.nf = x.nf := (by obtain ⟨z, hz⟩ : ∃ z, fndT u x.k = some z := Option.isSome_iff_exists.1 Hfb.out.symm; have hy := Hy.out; rw [hz] at hy; have hzy : z = y := hy; subst hzy; exact HKp.out z (List.mem_of_find?_eq_some hz) (by simpa using List.find?_some hz) fun h => hm ((HD.out _).2 h))
                have e1 : y.tg = x.tg := congrArg Nf.tg hnf
                have e2 : y.tx = x.tx := congrArg Nf.tx hnf
                have e3 : y.at_ = x.at_ := congrArg Nf.at_ hnf
                rw [e1, e2, e3] at HN
                rw [e3] at HFy
                clear hm hnf e1 e2 e3 Hy Hfb HKp
                go_upto_region 13 with fail
                refine wp_region_held_drew (S := fun W' => Below U2.heap.size U2 W') (by kernel_rfl) (Below.refl _ _).drew (fun hHeld => ?_)
                obtain ⟨Uq2u0, eW⟩ : ∃ X, X = U2.drew := ⟨_, rfl⟩
                have hb : Below U2.heap.size U2 Uq2u0 := by rw [eW]; exact (Below.refl _ _).drew
                rw [← eW] at hHeld ⊢
                clear eW hb
                refine tkW 0 (some 59) (v := ?_) ?_ hHeld ?_
                rotate_left
                · (intro ww _; go_simp; try with_reducible rfl)
                refine tkW 1 (some 60) (v := ?_) ?_ hHeld ?_
                rotate_left
                · (intro ww hSw; (try dsimp only at hSw); obtain ⟨y0, y1, y2, y3, y4, y5⟩ := row6 ((hSw.block _ (row_lt HN.out)).trans HN.out); go_simp; try with_reducible rfl)
                refine tkW 2 (some 61) (v := ?_) ?_ hHeld ?_
                rotate_left
                · (intro ww _; go_simp; try with_reducible rfl)
                refine tkW 3 (some 62) (v := ?_) ?_ hHeld ?_
                rotate_left
                · (intro ww _; go_simp; try with_reducible rfl)
                refine tkW 4 (some 63) (v := ?_) ?_ hHeld ?_
                rotate_left
                · (intro ww hSw; (try dsimp only at hSw); go_simp; try with_reducible rfl)
                refine tkW 5 (some 64) (v := ?_) ?_ hHeld ?_
                rotate_left
                · (intro ww _; go_simp; try with_reducible rfl)
                refine tkW 6 (some 65) (v := ?_) ?_ hHeld ?_
                rotate_left
                · (intro ww hSw; (try dsimp only at hSw); obtain ⟨y0, y1, y2, y3, y4, y5⟩ := ckCells6 hSw HXc.out; go_simp; try with_reducible rfl)
                refine tkW 7 (some 66) (v := ?_) ?_ hHeld ?_
                rotate_left
                · (intro ww hSw; (try dsimp only at hSw); go_simp; try with_reducible rfl)
                refine tkW 8 (some 67) (v := ?_) ?_ hHeld ?_
                rotate_left
                · (intro ww _; go_simp; try with_reducible rfl)
                refine tkW 9 (some 68) (v := ?_) ?_ hHeld ?_
                rotate_left
                · (intro ww _; go_simp; try with_reducible rfl)
                refine tkW 10 (some 69) (v := ?_) ?_ hHeld ?_
                rotate_left
                · (intro ww hSw; (try dsimp only at hSw); obtain ⟨y0, y1, y2, y3, y4, y5⟩ := row6 ((hSw.block _ (row_lt HN.out)).trans HN.out); go_simp; try with_reducible rfl)
                refine tkW 11 (some 70) (v := ?_) ?_ hHeld ?_
                rotate_left
                · (intro ww _; go_simp; try with_reducible rfl)
                refine tkW 12 (some 71) (v := ?_) ?_ hHeld ?_
                rotate_left
                · (intro ww _; go_simp; try with_reducible rfl)
                refine tkW 13 (some 72) (v := ?_) ?_ hHeld ?_
                rotate_left
                · (intro ww hSw; (try dsimp only at hSw); go_simp; try with_reducible rfl)
                refine tkW 14 (some 73) (v := ?_) ?_ hHeld ?_
                rotate_left
                · (intro ww _; go_simp; try with_reducible rfl)
                refine tkW 15 (some 74) (v := ?_) ?_ hHeld ?_
                rotate_left
                · (intro ww hSw; (try dsimp only at hSw); obtain ⟨y0, y1, y2, y3, y4, y5⟩ := ckCells6 hSw HXc.out; go_simp; try with_reducible rfl)
                refine tkW 16 (some 75) (v := ?_) ?_ hHeld ?_
                rotate_left
                · (intro ww hSw; (try dsimp only at hSw); go_simp; try with_reducible rfl)
                refine tkW 17 (some 76) (v := ?_) ?_ hHeld ?_
                rotate_left
                · (intro ww _; go_simp; try with_reducible rfl)
                refine tkW 18 (some 77) (v := ?_) ?_ hHeld ?_
                rotate_left
                · (intro ww _; go_simp; try with_reducible rfl)
                refine tkW 19 (some 78) (v := ?_) ?_ hHeld ?_
                rotate_left
                · (intro ww _; go_simp; try with_reducible rfl)
                refine tkW 20 (some 79) (v := ?_) ?_ hHeld ?_
                rotate_left
                · (intro ww hSw; (try dsimp only at hSw); obtain ⟨y0, y1, y2, y3, y4, y5⟩ := row6 ((hSw.block _ (row_lt HN.out)).trans HN.out); go_simp; try with_reducible rfl)
                refine tkW 21 (some 80) (v := ?_) ?_ hHeld ?_
                rotate_left
                · (intro ww _; go_simp; try with_reducible rfl)
                refine tkW 22 (some 81) (v := ?_) ?_ hHeld ?_
                rotate_left
                · (intro ww _; go_simp; try with_reducible rfl)
                refine tkW 23 (some 82) (v := ?_) ?_ hHeld ?_
                rotate_left
                · (intro ww hSw; (try dsimp only at hSw); go_simp; try with_reducible rfl)
                refine tkW 24 (some 83) (v := ?_) ?_ hHeld ?_
                rotate_left
                · (intro ww _; go_simp; try with_reducible rfl)
                refine tkW 25 (some 84) (v := ?_) ?_ hHeld ?_
                rotate_left
                · (intro ww hSw; (try dsimp only at hSw); obtain ⟨y0, y1, y2, y3, y4, y5⟩ := ckCells6 hSw HXc.out; go_simp; try with_reducible rfl)
                refine wpAnyH_ready (rs := [26]) (by kernel_rfl) (by simp) ?_
                refine AllReadyH.cons (o := ⟨some 85, _, _, _, _, _⟩) rfl (fun K hK => ?_) AllReadyH.nil
                go_simp
                refine (sameAttrs_any _ _ _ _ x.at_ x.at_ _ (HFy.out.below hHeld).at_ (HXf.out.below hHeld).at_).mono ?_
                rintro e Uq2u1 ⟨rfl, hb⟩
                rw [decide_eq_true rfl]
                (try go_wp2_with fail)
                refine hK.out _ _ (hHeld.trans (hb.mono hHeld.size)) (fun hHeld2 => ?_)
                clear hK K hHeld
                have hHeld := hHeld2
                clear hHeld2
                (try simp only [Act.put, List.setIfInBounds_toArray, List.set_cons_zero, List.set_cons_succ])
                clear hb
                refine tkW 27 (some 86) (v := ?_) ?_ hHeld ?_
                rotate_left
                · (intro ww _; go_simp; try with_reducible rfl)
                refine tkW 28 (some 87) (v := ?_) ?_ hHeld ?_
                rotate_left
                · (intro ww _; go_simp; try with_reducible rfl)
                refine wpAnyH_done (by kernel_rfl) ?_ _
                obtain ⟨U3, eU⟩ : ∃ X, X = Uq2u1 := ⟨_, rfl⟩
                rw [← eU] at hHeld ⊢
                clear eU
                replace HS : Hid (PkS w ub u ua uc uk ud (.slice (some ⟨gl, 0, none⟩) t.sz cl) (.slice at_ D.length ct) E D U3) := HS.out.below hHeld
                clear hHeld HXc HXf HFy HN
                have n1 : IntKind.i64.wrap ((i : Int) + 1) = (i : Int) + 1 := by rw [IntKind.wrap_i64]; omega
                go_wp2
                go_roundw
                case rel => exact ⟨i + 1, by omega, by go_num, HS⟩
                case measure => simp [intOf]; omega
          · have hbx : Below Up1u0.heap.size Up1u0 (Up1u0.alloc (.cells #[.int .i64 0, .int .i64 0, .string ⟨#[]⟩, .string ⟨#[]⟩, .slice none 0 0, .slice none 0 0] 27)) := (Below.refl _ _).alloc (Nat.le_refl _) _
            have HNb : Hid (wr.heap.size ≤ Up1u0.heap.size) := hHeld.size
            go_simp
            refine hK.out _ _ (hHeld.trans (hbx.mono hHeld.size)) (fun hHeld2 => ?_)
            clear hK K hHeld
            have hHeld := hHeld2
            clear hHeld2
            (try simp only [Act.put, List.setIfInBounds_toArray, List.set_cons_zero, List.set_cons_succ])
            obtain ⟨Up1u4, eW⟩ : ∃ X, X = Up1u0.alloc (.cells #[.int .i64 0, .int .i64 0, .string ⟨#[]⟩, .string ⟨#[]⟩, .slice none 0 0, .slice none 0 0] 27) := ⟨_, rfl⟩
            have hb : Below Up1u0.heap.size Up1u0 Up1u4 := by rw [eW]; exact (Below.refl _ _).alloc (Nat.le_refl _) _
            have HZ : Hid (Up1u4.heap[Up1u0.heap.size]? = some (.cells #[.int .i64 0, .int .i64 0, .string ⟨#[]⟩, .string ⟨#[]⟩, .slice none 0 0, .slice none 0 0] 27)) := by rw [eW]; exact heap_alloc_new _ _
            rw [← eW] at hHeld ⊢
            clear eW
            clear hbx
            obtain ⟨nb, enb⟩ : ∃ b, b = Up1u0.heap.size := ⟨_, rfl⟩
            rw [← enb] at HZ HNb ⊢
            clear enb
            clear hb
            refine wpAnyH_ready (rs := [6]) (by kernel_rfl) (by simp) ?_
            refine AllReadyH.cons (o := ⟨some 45, _, _, _, _, _⟩) rfl (fun K hK => ?_) AllReadyH.nil
            go_simp
            refine (refFindN_any wr.heap.size u x.k _ _ hHeld.size (VIs.of (HFr.out.below hHeld)) HOk.out.szle).mono ?_
            rintro e Up1u5 ⟨y, av, kv9, rfl, hy, hfy, hb⟩
            obtain ⟨sa, sc, ea⟩ := hfy.at_.form
            obtain ⟨sk, dk, ek⟩ := hfy.ks.form
            subst ea ek
            obtain ⟨fb, efb⟩ : ∃ b, b = (fndT u x.k).isSome := ⟨_, rfl⟩
            rw [← efb]
            have Hfb := hide9 efb
            have Hy := hide9 hy
            have HFy : Hid (FdIs (fun k => k < wr.heap.size) Up1u5 (.slice sa y.at_.length sc) (.slice sk y.ks.length dk) y.at_ y.ks) := hfy
            have HZ : Hid (Up1u5.heap[nb]? = some (.cells #[.int .i64 0, .int .i64 0, .string ⟨#[]⟩, .string ⟨#[]⟩, .slice none 0 0, .slice none 0 0] 27)) := (hb.block _ (row_lt HZ.out)).trans HZ.out
            clear hfy hy efb
            (try go_wp2_with fail)
            refine hK.out _ _ (hHeld.trans (hb.mono hHeld.size)) (fun hHeld2 => ?_)
            clear hK K hHeld
            have hHeld := hHeld2
            clear hHeld2
            (try simp only [Act.put, List.setIfInBounds_toArray, List.set_cons_zero, List.set_cons_succ])
            clear hb
            refine tkW 7 (some 38) (v := ?_) ?_ hHeld ?_
            rotate_left
            · (intro ww _; go_simp; try with_reducible rfl)
            refine tkW 8 (some 46) (v := ?_) ?_ hHeld ?_
            rotate_left
            · (intro ww _; go_simp; try with_reducible rfl)
            refine tkW 9 (some 47) (v := ?_) ?_ hHeld ?_
            rotate_left
            · (intro ww _; go_simp; try with_reducible rfl)
            refine wpAnyH_ready (rs := [11]) (by kernel_rfl) (by simp) ?_
            refine AllReadyH.cons (o := ⟨none, _, _, _, _, _⟩) rfl (fun K hK => ?_) AllReadyH.nil
            refine step_store_row rfl 27 (.tmp 11) (.tmp 46) rfl nb 27 #[.int .i64 0, .int .i64 0, .string ⟨#[]⟩, .string ⟨#[]⟩, .slice none 0 0, .slice none 0 0] #[.int .i64 y.k.1, .int .i64 y.k.2, .string y.tg, .string y.tx, (.slice sa y.at_.length sc), (.slice sk y.ks.length dk)] rfl rfl HZ.out sizeVk rfl (by simp [Value.oneCell']) ?_
            obtain ⟨Up1u6, eW⟩ : ∃ Y, Y = Up1u5.setRow nb #[.int .i64 y.k.1, .int .i64 y.k.2, .string y.tg, .string y.tx, (.slice sa y.at_.length sc), (.slice sk y.ks.length dk)] := ⟨_, rfl⟩
            rw [← eW]
            have HN : Hid (Up1u6.heap[nb]? = some (.cells #[.int .i64 y.k.1, .int .i64 y.k.2, .string y.tg, .string y.tx, (.slice sa y.at_.length sc), (.slice sk y.ks.length dk)] 27)) := (by rw [eW]; exact setRow_same HZ.out)
            have hbz : Below wr.heap.size wr Up1u6 := (by rw [eW]; exact hHeld.grown (grown_setRow _ _ _) hHeld.size (fun k e => by cases e; exact HNb.out))
            replace HFy : Hid (FdIs (fun k => k < wr.heap.size) Up1u6 (.slice sa y.at_.length sc) (.slice sk y.ks.length dk) y.at_ y.ks) := (by rw [eW]; exact HFy.out.turn (by simp) fun k q _ => ⟨q, setRow_other Up1u5 nb k _ (by have := HNb.out; omega)⟩)
            clear eW
            refine hK.out _ _ (hbz) (fun hHeld2 => ?_)
            clear hK K hHeld
            have hHeld := hHeld2
            clear hHeld2
            (try simp only [Act.put, List.setIfInBounds_toArray, List.set_cons_zero, List.set_cons_succ])
            clear hbz HZ HNb
            refine tkW 12 (some 12) (v := ?_) ?_ hHeld ?_
            rotate_left
            · (intro ww _; go_simp; try with_reducible rfl)
            refine wpAnyH_done (by kernel_rfl) ?_ _
            obtain ⟨U, eU⟩ : ∃ X, X = Up1u6 := ⟨_, rfl⟩
            rw [← eU] at hHeld HN HFy ⊢
            clear eU
            replace HS : Hid (PkS w ub u ua uc uk ud (.slice (some ⟨gl, 0, none⟩) t.sz cl) (.slice at_ D.length ct) E D U) := HS.out.below hHeld
            replace HXf := hide9 (HXf.out.below hHeld)
            have HXc9 := hide9 HXc.out
            replace HXc : Hid (gl < U.heap.size ∧ U.cell? ⟨gl, i * 6, none⟩ = some (.int .i64 x.k.1) ∧ U.cell? ⟨gl, i * 6 + 1, none⟩ = some (.int .i64 x.k.2) ∧ U.cell? ⟨gl, i * 6 + 2, none⟩ = some (.string x.tg) ∧ U.cell? ⟨gl, i * 6 + 3, none⟩ = some (.string x.tx) ∧ U.cell? ⟨gl, i * 6 + 4, none⟩ = some (.slice xa x.at_.length cx) ∧ U.cell? ⟨gl, i * 6 + 5, none⟩ = some (.slice xk x.ks.length dx)) := ⟨Nat.lt_of_lt_of_le HXc9.out.1 hHeld.size, ckCells6 hHeld HXc9.out⟩
            clear HXc9 hHeld
            cases fb with
            | false =>
              have n1 : IntKind.i64.wrap ((i : Int) + 1) = (i : Int) + 1 := by rw [IntKind.wrap_i64]; omega
              go_wp2
              go_roundw
              case rel => exact ⟨i + 1, by omega, by go_num, HS⟩
              case measure => simp [intOf]; omega
            | true =>
              obtain ⟨p0, p1, p2, p3, p4, p5⟩ := HXc.out.2
              go_wp2_with fail
              clear p0 p1 p2 p3 p4 p5
              refine (S.has_any _ D x.k.1 x.k.2 _ HS.out.tv).mono ?_
              rintro e U2 ⟨rfl, hb⟩
              replace HS : Hid (PkS w ub u ua uc uk ud (.slice (some ⟨gl, 0, none⟩) t.sz cl) (.slice at_ D.length ct) E D U2) := HS.out.below hb
              replace HXf := hide9 (HXf.out.below hb)
              replace HFy := hide9 (HFy.out.below hb)
              replace HN : Hid (U2.heap[nb]? = some (.cells #[.int .i64 y.k.1, .int .i64 y.k.2, .string y.tg, .string y.tx, (.slice sa y.at_.length sc), (.slice sk y.ks.length dk)] 27)) := (hb.block _ (row_lt HN.out)).trans HN.out
              have HXc9 := hide9 HXc.out
              replace HXc : Hid (gl < U2.heap.size ∧ U2.cell? ⟨gl, i * 6, none⟩ = some (.int .i64 x.k.1) ∧ U2.cell? ⟨gl, i * 6 + 1, none⟩ = some (.int .i64 x.k.2) ∧ U2.cell? ⟨gl, i * 6 + 2, none⟩ = some (.string x.tg) ∧ U2.cell? ⟨gl, i * 6 + 3, none⟩ = some (.string x.tx) ∧ U2.cell? ⟨gl, i * 6 + 4, none⟩ = some (.slice xa x.at_.length cx) ∧ U2.cell? ⟨gl, i * 6 + 5, none⟩ = some (.slice xk x.ks.length dx)) := ⟨Nat.lt_of_lt_of_le HXc9.out.1 hb.size, ckCells6 hb HXc9.out⟩
              clear HXc9 hb
              by_cases hm : (x.k.1, x.k.2) ∈ D
              · rw [decide_eq_true hm]
                clear hm
                have n1 : IntKind.i64.wrap ((i : Int) + 1) = (i : Int) + 1 := by rw [IntKind.wrap_i64]; omega
                go_wp2
                go_roundw
                case rel => exact ⟨i + 1, by omega, by go_num, HS⟩
                case measure => simp [intOf]; omega
              · rw [decide_eq_false hm]
                have hnf : y.nf = x.nf := (by obtain ⟨z, hz⟩ : ∃ z, fndT u x.k = some z := Option.isSome_iff_exists.1 Hfb.out.symm; have hy := Hy.out; rw [hz] at hy; have hzy : z = y := hy; subst hzy; exact HKp.out z (List.mem_of_find?_eq_some hz) (by simpa using List.find?_some hz) fun h => hm ((HD.out _).2 h))
                have e1 : y.tg = x.tg := congrArg Nf.tg hnf
                have e2 : y.tx = x.tx := congrArg Nf.tx hnf
                have e3 : y.at_ = x.at_ := congrArg Nf.at_ hnf
                rw [e1, e2, e3] at HN
                rw [e3] at HFy
                clear hm hnf e1 e2 e3 Hy Hfb HKp
                go_upto_region 13 with fail
                refine wp_region_held_drew (S := fun W' => Below U2.heap.size U2 W') (by kernel_rfl) (Below.refl _ _).drew (fun hHeld => ?_)
                obtain ⟨Uq3u0, eW⟩ : ∃ X, X = U2.drew := ⟨_, rfl⟩
                have hb : Below U2.heap.size U2 Uq3u0 := by rw [eW]; exact (Below.refl _ _).drew
                rw [← eW] at hHeld ⊢
                clear eW hb
                refine tkW 0 (some 59) (v := ?_) ?_ hHeld ?_
                rotate_left
                · (intro ww _; go_simp; try with_reducible rfl)
                refine tkW 1 (some 60) (v := ?_) ?_ hHeld ?_
                rotate_left
                · (intro ww hSw; (try dsimp only at hSw); obtain ⟨y0, y1, y2, y3, y4, y5⟩ := row6 ((hSw.block _ (row_lt HN.out)).trans HN.out); go_simp; try with_reducible rfl)
                refine tkW 2 (some 61) (v := ?_) ?_ hHeld ?_
                rotate_left
                · (intro ww _; go_simp; try with_reducible rfl)
                refine tkW 3 (some 62) (v := ?_) ?_ hHeld ?_
                rotate_left
                · (intro ww _; go_simp; try with_reducible rfl)
                refine tkW 4 (some 63) (v := ?_) ?_ hHeld ?_
                rotate_left
                · (intro ww hSw; (try dsimp only at hSw); go_simp; try with_reducible rfl)
                refine tkW 5 (some 64) (v := ?_) ?_ hHeld ?_
                rotate_left
                · (intro ww _; go_simp; try with_reducible rfl)
                refine tkW 6 (some 65) (v := ?_) ?_ hHeld ?_
                rotate_left
                · (intro ww hSw; (try dsimp only at hSw); obtain ⟨y0, y1, y2, y3, y4, y5⟩ := ckCells6 hSw HXc.out; go_simp; try with_reducible rfl)
                refine tkW 7 (some 66) (v := ?_) ?_ hHeld ?_
                rotate_left
                · (intro ww hSw; (try dsimp only at hSw); go_simp; try with_reducible rfl)
                refine tkW 8 (some 67) (v := ?_) ?_ hHeld ?_
                rotate_left
                · (intro ww _; go_simp; try with_reducible rfl)
                refine tkW 9 (some 68) (v := ?_) ?_ hHeld ?_
                rotate_left
                · (intro ww _; go_simp; try with_reducible rfl)
                refine tkW 10 (some 69) (v := ?_) ?_ hHeld ?_
                rotate_left
                · (intro ww hSw; (try dsimp only at hSw); obtain ⟨y0, y1, y2, y3, y4, y5⟩ := row6 ((hSw.block _ (row_lt HN.out)).trans HN.out); go_simp; try with_reducible rfl)
                refine tkW 11 (some 70) (v := ?_) ?_ hHeld ?_
                rotate_left
                · (intro ww _; go_simp; try with_reducible rfl)
                refine tkW 12 (some 71) (v := ?_) ?_ hHeld ?_
                rotate_left
                · (intro ww _; go_simp; try with_reducible rfl)
                refine tkW 13 (some 72) (v := ?_) ?_ hHeld ?_
                rotate_left
                · (intro ww hSw; (try dsimp only at hSw); go_simp; try with_reducible rfl)
                refine tkW 14 (some 73) (v := ?_) ?_ hHeld ?_
                rotate_left
                · (intro ww _; go_simp; try with_reducible rfl)
                refine tkW 15 (some 74) (v := ?_) ?_ hHeld ?_
                rotate_left
                · (intro ww hSw; (try dsimp only at hSw); obtain ⟨y0, y1, y2, y3, y4, y5⟩ := ckCells6 hSw HXc.out; go_simp; try with_reducible rfl)
                refine tkW 16 (some 75) (v := ?_) ?_ hHeld ?_
                rotate_left
                · (intro ww hSw; (try dsimp only at hSw); go_simp; try with_reducible rfl)
                refine tkW 17 (some 76) (v := ?_) ?_ hHeld ?_
                rotate_left
                · (intro ww _; go_simp; try with_reducible rfl)
                refine tkW 18 (some 77) (v := ?_) ?_ hHeld ?_
                rotate_left
                · (intro ww _; go_simp; try with_reducible rfl)
                refine tkW 19 (some 78) (v := ?_) ?_ hHeld ?_
                rotate_left
                · (intro ww _; go_simp; try with_reducible rfl)
                refine tkW 20 (some 79) (v := ?_) ?_ hHeld ?_
                rotate_left
                · (intro ww hSw; (try dsimp only at hSw); obtain ⟨y0, y1, y2, y3, y4, y5⟩ := row6 ((hSw.block _ (row_lt HN.out)).trans HN.out); go_simp; try with_reducible rfl)
                refine tkW 21 (some 80) (v := ?_) ?_ hHeld ?_
                rotate_left
                · (intro ww _; go_simp; try with_reducible rfl)
                refine tkW 22 (some 81) (v := ?_) ?_ hHeld ?_
                rotate_left
                · (intro ww _; go_simp; try with_reducible rfl)
                refine tkW 23 (some 82) (v := ?_) ?_ hHeld ?_
                rotate_left
                · (intro ww hSw; (try dsimp only at hSw); go_simp; try with_reducible rfl)
                refine tkW 24 (some 83) (v := ?_) ?_ hHeld ?_
                rotate_left
                · (intro ww _; go_simp; try with_reducible rfl)
                refine tkW 25 (some 84) (v := ?_) ?_ hHeld ?_
                rotate_left
                · (intro ww hSw; (try dsimp only at hSw); obtain ⟨y0, y1, y2, y3, y4, y5⟩ := ckCells6 hSw HXc.out; go_simp; try with_reducible rfl)
                refine wpAnyH_ready (rs := [26]) (by kernel_rfl) (by simp) ?_
                refine AllReadyH.cons (o := ⟨some 85, _, _, _, _, _⟩) rfl (fun K hK => ?_) AllReadyH.nil
                go_simp
                refine (sameAttrs_any _ _ _ _ x.at_ x.at_ _ (HFy.out.below hHeld).at_ (HXf.out.below hHeld).at_).mono ?_
                rintro e Uq3u1 ⟨rfl, hb⟩
                rw [decide_eq_true rfl]
                (try go_wp2_with fail)
                refine hK.out _ _ (hHeld.trans (hb.mono hHeld.size)) (fun hHeld2 => ?_)
                clear hK K hHeld
                have hHeld := hHeld2
                clear hHeld2
                (try simp only [Act.put, List.setIfInBounds_toArray, List.set_cons_zero, List.set_cons_succ])
                clear hb
                refine tkW 27 (some 86) (v := ?_) ?_ hHeld ?_
                rotate_left
                · (intro ww _; go_simp; try with_reducible rfl)
                refine tkW 28 (some 87) (v := ?_) ?_ hHeld ?_
                rotate_left
                · (intro ww _; go_simp; try with_reducible rfl)
                refine wpAnyH_done (by kernel_rfl) ?_ _
                obtain ⟨U3, eU⟩ : ∃ X, X = Uq3u1 := ⟨_, rfl⟩
                rw [← eU] at hHeld ⊢
                clear eU
                replace HS : Hid (PkS w ub u ua uc uk ud (.slice (some ⟨gl, 0, none⟩) t.sz cl) (.slice at_ D.length ct) E D U3) := HS.out.below hHeld
                clear hHeld HXc HXf HFy HN
                have n1 : IntKind.i64.wrap ((i : Int) + 1) = (i : Int) + 1 := by rw [IntKind.wrap_i64]; omega
                go_wp2
                go_roundw
                case rel => exact ⟨i + 1, by omega, by go_num, HS⟩
                case measure => simp [intOf]; omega
        · have k1 : ¬ (i : Int) < (t.sz : Int) := by omega
          have HB := hide9 HS.out.bel
          clear HS
          go_wp2_with fail
          refine (awake_pa _).mono ?_
          rintro e wz ⟨rfl, hb⟩
          replace HB : Hid (Below w.heap.size w wz) := HB.out.trans (hb.mono HB.out.size)
          clear hb
          go_wp2
          (try rw [Exit.noGoto_ret])
          go_ret
          exact ⟨rfl, HB.out⟩
    · have k3 : (c != 0) = true := by simpa using hc
      clear hc
      go_wp2_with fail
      refine (awake_pa _).mono ?_
      rintro e wz ⟨rfl, hb⟩
      replace HB : Hid (Below w.heap.size w wz) := HB.out.trans (hb.mono HB.out.size)
      clear hb
      go_wp2
      (try rw [Exit.noGoto_ret])
      go_ret
      exact ⟨rfl, HB.out⟩
theorem patchKeeps_walk (v : Value) (t : VT) (lv : Value) (L : List Pa) (w : World) (h : VIs (fun _ => True) w v t) (hbn : BnA t) (hsz : t.sz ≤ 1048576) (hl : IsPp w lv L) : Calls Try.prog 3 #[v, lv] w fun e w' => e = .returned (.bool true) ∧ Below w.heap.size w w' := patchKeeps_any _ t v lv L w h hl.1 hbn hsz fun p hp => Nat.le_trans (hl.2 p hp).1 (by decide)

end Go.Proofs.Ytccpljllgpabnab

namespace Go.Proofs.Ytccpljllgpabnab
open Go.ChangeShapes Go.WideShapes Go.ChangeAt Go.RowKit
set_option linter.unusedVariables false

set_option maxRecDepth 100000 in
theorem patchKeeps_lifted (os : Os) (started : os.Started) (H : Type) (enc : TypeId × Value → H) (F : Stop.Interp) :
    ReturnsInHanded {} Try.checked os 3 .any ((Rows.OpenSpec.upto Rows.patchKeepsSpec).pre6 enc Try.prog Try.f3 Rows.patchKeepsUptoRow.domain false) (((Rows.OpenSpec.upto Rows.patchKeepsSpec).at F).post enc Try.prog Try.f3 false true false false) := by
  refine returnsInHanded_of_cond_sized (C := Try.checked) (s := Rows.OpenSpec.upto Rows.patchKeepsSpec) (k := Rows.uptoSmall) rfl ownI started (by kernel_rfl) Try.func3
    (OpenSpec.witness (enc := enc) (C := Try.checked) (s := Rows.OpenSpec.upto Rows.patchKeepsSpec) (k := Rows.uptoSmall) rfl false ⟨#[], #[.agg #[.int .i64 0, .int .i64 0, .string ByteArray.empty, .string ByteArray.empty, .slice none 0 0, .slice none 0 0], .slice none 0 0], []⟩ 8 (by kernel_rfl) (by kernel_rfl) (by kernel_rfl)
      (x := ([.agg [.agg [.lit (.int .i64 0), .lit (.int .i64 0)], .lit (.string []), .lit (.string []), .nil, .nil], .nil], [], [])) (by kernel_rfl) rfl (by kernel_rfl)) ?_
  intro W base args ds gs before hval0 hW _ hk hsz0 _
  have hval : ∀ (j : Nat) t v, Try.f3.params[j]? = some t → args[j]? = some v → Value.okWide Try.prog W .any base t v := hval0
  have hW' := hW
  obtain ⟨p, q, hA0, hV, rfl, hfz, hnd⟩ := hW
  have hA : DataW.TrodAll enc Try.prog W 0 (fun _ => true) true Try.f3.params.toList args.toList ds p := hA0
  rw [Try.params3] at hA hval
  obtain ⟨v0, v1, d0, d1, p0, p1, rfl, rfl, rfl, h0, h1⟩ := trodAll_two hA
  obtain ⟨rfl, rfl⟩ := trodVars_none hV
  have hk0 := h0
  have hk1 := h1
  have hb : Rows.uptoBulkAll _ ≤ 1048576 := of_decide_eq_true hk
  simp only [List.append_nil, Rows.uptoBulkAll] at hb
  have hsz : (DataW.weightsEach Try.prog [27, 28] [d0, d1]).all (· ≤ reachBytes) = true := hsz0
  have hw0 : ∀ n ∈ d0.weights Try.prog 27, n ≤ reachBytes := fun n hn => by
    have h1 := List.all_eq_true.1 hsz n (DataW.weights_mem_each (j := 0) rfl rfl n hn)
    simpa using h1
  obtain ⟨D0, is0, bn0, bk0⟩ := open_nodeV (hval 0 27 v0 rfl rfl) h0 hw0
  have hlt0 : ∀ x ∈ p0, x.block < W.heap.size := fun x hx => by simpa using hW'.lt x (by simp [hx])
  have hw1 : ∀ n ∈ d1.weights Try.prog 28, n ≤ reachBytes := fun n hn => by
    have h1 := List.all_eq_true.1 hsz n (DataW.weights_mem_each (j := 1) rfl rfl n hn)
    simpa using h1
  obtain ⟨D1, is1⟩ := open_patchesV (hval 1 28 v1 rfl rfl) h1 hw1
  have hlt1 : ∀ x ∈ p1, x.block < W.heap.size := fun x hx => by simpa using hW'.lt x (by simp [hx])
  clear hA0 hval0
  refine (patchKeeps_walk v0 D0 v1 D1 W is0 (fun x hx => bn0 0 x hx) (by omega) is1).mono fun e W' ⟨he, bel⟩ => ?_
  subst he
  exact ⟨_, rfl, _, _, _, [], _, [], hW', trodAll_mk1 (shut_bool Try.underlying4 _), trodAll_mk2 (Below.trod laidOutI (by kernel_rfl) (of_decide_eq_true (by kernel_rfl)) hk0 bel hlt0) (Below.trod laidOutI (by kernel_rfl) (of_decide_eq_true (by kernel_rfl)) hk1 bel hlt1), rfl, bel.frame _, fun h => by cases h⟩

theorem patchKeeps_holds : Rows.PatchKeepsUptoSaid :=
  OpenClaim.holds_of_cond 3 Try.f3 rfl rfl rfl rfl rfl rfl rfl ⟨rfl, rfl, rfl, rfl, rfl⟩ rfl rfl rfl rfl rfl (by kernel_rfl) Try.func3 (by kernel_rfl)
    (of_decide_eq_true (by kernel_rfl)) (by unfold Func.isWrapper; first | (rw [if_pos (by decide +kernel)]; kernel_rfl) | (rw [if_neg (by decide +kernel)]; exact ⟨rfl, rfl⟩))
    (fun os started H enc _ F => patchKeeps_lifted os started H enc F)
#print axioms patchKeeps_holds
end Go.Proofs.Ytccpljllgpabnab
