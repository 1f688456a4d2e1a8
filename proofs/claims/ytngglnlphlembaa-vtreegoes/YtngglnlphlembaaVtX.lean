/- What stands while the program copies a tree. -/
import Derived.Test.YtngglnlphlembaaVtW
import Derived.Laws.OwnMore
import Derived.Deep.MidRow
namespace Go.Proofs.Ytngglnlphlembaa
open Go.RowKit
set_option linter.unusedVariables false
set_option linter.unusedSimpArgs false

def setL (l : List Value) : Nat → List Value → List Value
  | _, [] => l
  | o, v :: vs => setL (l.set o v) (o + 1) vs
theorem setL_length (vs : List Value) : ∀ (l : List Value) (o : Nat), (setL l o vs).length = l.length := by
  induction vs with
  | nil => intro l o; rfl
  | cons v vs ih => intro l o; unfold setL; rw [ih, List.length_set]
theorem setL_left (vs : List Value) : ∀ (a b : List Value) (o : Nat), o + vs.length ≤ a.length → setL (a ++ b) o vs = setL a o vs ++ b := by
  induction vs with
  | nil => intro a b o h; rfl
  | cons v vs ih =>
    intro a b o h
    unfold setL
    simp only [List.length_cons] at h
    rw [List.set_append_left _ _ (by omega), ih _ _ _ (by rw [List.length_set]; omega)]
theorem setL_right (vs : List Value) : ∀ (a b : List Value) (o : Nat), setL (a ++ b) (a.length + o) vs = a ++ setL b o vs := by
  induction vs with
  | nil => intro a b o; rfl
  | cons v vs ih =>
    intro a b o
    unfold setL
    rw [List.set_append_right _ _ (by omega), show a.length + o - a.length = o by omega, Nat.add_assoc, ih]
theorem flatE_setL {α : Type} {enc : α → List Value} {n : Nat} (hn : ∀ x, (enc x).length = n) (D : List α) : ∀ i (h : i < D.length) (x : α) (j : Nat) (vs : List Value), j + vs.length ≤ n → enc x = setL (enc D[i]) j vs → setL (flatE enc D) (i * n + j) vs = flatE enc (D.set i x) := by
  induction D with
  | nil => intro i h; simp at h
  | cons y t ih =>
    intro i h x j vs hj e
    match i with
    | 0 =>
      rw [List.set_cons_zero, flatE_cons, flatE_cons, Nat.zero_mul, Nat.zero_add, setL_left vs _ _ _ (by rw [hn]; exact hj)]
      rw [e]
      rfl
    | i + 1 =>
      rw [List.set_cons_succ, flatE_cons, flatE_cons, show (i + 1) * n + j = (enc y).length + (i * n + j) by rw [hn, Nat.add_mul]; omega, setL_right, ih i (by simpa using h) x j vs hj (by simpa using e)]
theorem owns_setCells {e : TypeId} {size g n cap base : Nat} (vs : List Value) : ∀ (w : World) (xs : List Value) (o : Nat), w.ownsRow base e size (.slice (some ⟨g, 0, none⟩) n cap) n xs → (w.setCells g o vs).ownsRow base e size (.slice (some ⟨g, 0, none⟩) n cap) n (setL xs o vs) ∧ w.grownBy (w.setCells g o vs) (some g) := by
  induction vs with
  | nil => intro w xs o h; exact ⟨h, ⟨rfl, rfl, rfl, Nat.le_refl _, fun _ _ _ => rfl⟩⟩
  | cons v vs ih =>
    intro w xs o h
    obtain ⟨h1, h2⟩ := World.ownsRow.stored h o v
    obtain ⟨h3, h4⟩ := ih _ _ (o + 1) h1
    exact ⟨h3, ⟨h4.os.trans h2.os, h4.tape.trans h2.tape, h4.output.trans h2.output, Nat.le_trans h2.size h4.size, fun k hk hne => (h4.block k (Nat.lt_of_lt_of_le hk h2.size) hne).trans (h2.block k hk hne)⟩⟩
/-- Cells of one of them are others now. -/
theorem OwnE.over {α : Type} {enc : α → List Value} {n : Nat} {T : TypeId} {B : Nat} {w : World} {g cap : Nat} {D : List α} (hn : ∀ x, (enc x).length = n) (h : OwnE enc n T B w (.slice (some ⟨g, 0, none⟩) D.length cap) D) {i : Nat} (hi : i < D.length) (x : α) (j : Nat) (vs : List Value) (hj : j + vs.length ≤ n) (e : enc x = setL (enc D[i]) j vs) :
    OwnE enc n T B (w.setCells g (i * n + j) vs) (.slice (some ⟨g, 0, none⟩) D.length cap) (D.set i x) ∧ w.grownBy (w.setCells g (i * n + j) vs) (some g) := by
  obtain ⟨h1, h2⟩ := owns_setCells vs w _ (i * n + j) h
  refine ⟨?_, h2⟩
  unfold OwnE
  rw [List.length_set, ← flatE_setL hn D i hi x j vs hj e]
  exact h1

theorem step_store_mid {P : Program} {ops : Array Oper} {o : Oper} {a : Act} {w : World} {K : Act → World → Prop} {Q : Exit → Act → World → Prop} {E : Prop} (hgd : o.guard = none) (ty : TypeId) (x y : Operand) (ho : o.op = .store ty x y)
    (b off : Nat) (cells : Array Value) (hx : a.eval x = .pointer (some ⟨b, off, none⟩)) (hy : a.eval y = .agg cells) (ht : w.there b off cells.size)
    (hi : (P.info? ty).map (·.size) = some cells.size) (h1 : cells.all (·.oneCell') = true)
    (h : K (a.put o.dst undef) (w.setCells b off cells.toList)) : if Region.wanted o (yielded ops a.tmps) = true then Oper.wp P o a w K Q else E := by
  have hw : Region.wanted o (yielded ops a.tmps) = true := by simp [Region.wanted, hgd]
  rw [if_pos hw]
  exact wp_store_mid ty x y ho b off cells hx hy ht hi h1 h

/-- What stands in Copy's loop. -/
structure PcS (m : Nat) (w : World) (t : VT) (H : Nat → Prop) (av kv : Value) (E : List (VT × Value × Value)) (i : Nat) (W : World) : Prop where
  tb : W.heap[w.heap.size]? = some (.cells #[.int .i64 t.k.1, .int .i64 t.k.2, .string t.tg, .string t.tx, av, kv] 27)
  rb : W.heap[w.heap.size + 1]? = some (.cells #[.int .i64 0, .int .i64 0, .string ⟨#[]⟩, .string ⟨#[]⟩, .slice none 0 0, .slice none 0 0] 27)
  bel : Below w.heap.size w W
  at_ : LsE atCells 2 H W av t.at_
  row : OwnVn (w.heap.size + 2) W kv E
  es : E.map Prod.fst = t.ks
  en : ∀ j (h : j < E.length), j < i → FdIs H W E[j].2.1 E[j].2.2 E[j].1.at_ E[j].1.ks
  eo : ∀ j (h : j < E.length), i ≤ j → FdIs (fun k => k < w.heap.size) W E[j].2.1 E[j].2.2 E[j].1.at_ E[j].1.ks
  hH : ∀ k, H k → w.heap.size + 2 ≤ k ∧ k < W.heap.size ∧ kv.ownBlock ≠ some k
  ow : OwnAt 0 W av t.at_
  oh : ∀ k, av.ownBlock = some k → H k
  sp : ∃ Fs : Nat → Nat → Prop, (∀ j (h : j < E.length), j < i → SepF m W (Fs j) E[j].2.1 E[j].2.2 E[j].1) ∧ (∀ j k, Fs j k → H k ∧ av.ownBlock ≠ some k) ∧ ∀ j l k, j ≠ l → Fs j k → ¬ Fs l k
section
variable {m : Nat} {w W W' : World} {t : VT} {H : Nat → Prop} {av kv : Value} {E : List (VT × Value × Value)} {i : Nat}
theorem PcS.below (h : PcS m w t H av kv E i W) (hb : Below W.heap.size W W') : PcS m w t H av kv E i W' := ⟨(hb.block _ (row_lt h.tb)).trans h.tb, (hb.block _ (row_lt h.rb)).trans h.rb, h.bel.trans (hb.mono h.bel.size), h.at_.below hb, h.row.below hb, h.es, fun j q z => (h.en j q z).below hb, fun j q z => (h.eo j q z).below hb, fun k q => ⟨(h.hH k q).1, Nat.lt_of_lt_of_le (h.hH k q).2.1 hb.size, (h.hH k q).2.2⟩, h.ow.below hb, h.oh, (by obtain ⟨Fs, s1, s2, s3⟩ := h.sp; exact ⟨Fs, fun j q z => (s1 j q z).turn m fun k y => hb.block k (h.hH k (s2 j k y).1).2.1, s2, s3⟩)⟩
theorem PcS.len (h : PcS m w t H av kv E i W) : E.length = t.ks.length := by rw [← h.es, List.length_map]
/-- Its lists are new ones. -/
theorem PcS.start {Wa W1 W3 : World} {ax kx v1 v3 : Value} (ha : Wa.heap[w.heap.size]? = some (.cells #[.int .i64 t.k.1, .int .i64 t.k.2, .string t.tg, .string t.tx, ax, kx] 27)) (hr : Wa.heap[w.heap.size + 1]? = some (.cells #[.int .i64 0, .int .i64 0, .string ⟨#[]⟩, .string ⟨#[]⟩, .slice none 0 0, .slice none 0 0] 27)) (hba : Below w.heap.size w Wa) (hsa : Wa.heap.size = w.heap.size + 2)
    (o1 : OwnAt Wa.heap.size W1 v1 t.at_) (b1 : Below Wa.heap.size Wa W1) (hal : t.at_.length ≤ 4398046511104) (o3 : OwnVn (W1.setCell ⟨w.heap.size, 4, none⟩ v1).heap.size W3 v3 E) (b3 : Below (W1.setCell ⟨w.heap.size, 4, none⟩ v1).heap.size (W1.setCell ⟨w.heap.size, 4, none⟩ v1) W3) (es : E.map Prod.fst = t.ks) (e3 : ∀ x ∈ E, FdIs (fun k => k < w.heap.size) w x.2.1 x.2.2 x.1.at_ x.1.ks) :
    PcS m w t (fun k => v1.ownBlock = some k) v1 v3 E 0 (W3.setCell ⟨w.heap.size, 5, none⟩ v3) := by
  have r1 : W1.heap[w.heap.size]? = some (.cells #[.int .i64 t.k.1, .int .i64 t.k.2, .string t.tg, .string t.tx, ax, kx] 27) := (b1.block _ (by omega)).trans ha
  have r2 : (W1.setCell ⟨w.heap.size, 4, none⟩ v1).heap[w.heap.size]? = some (.cells #[.int .i64 t.k.1, .int .i64 t.k.2, .string t.tg, .string t.tx, v1, kx] 27) := (by rw [heap_setCell_same W1 w.heap.size 4 _ _ _ r1]; rfl)
  have s2 : (W1.setCell ⟨w.heap.size, 4, none⟩ v1).heap.size = W1.heap.size := by simp [World.setCell]
  have s1 := b1.size
  have r3 : W3.heap[w.heap.size]? = some (.cells #[.int .i64 t.k.1, .int .i64 t.k.2, .string t.tg, .string t.tx, v1, kx] 27) := (b3.block _ (by omega)).trans r2
  have s4 : (W3.setCell ⟨w.heap.size, 5, none⟩ v3).heap.size = W3.heap.size := by simp [World.setCell]
  have s3 := b3.size
  have k2 : ∀ k, k ≠ w.heap.size → (W1.setCell ⟨w.heap.size, 4, none⟩ v1).heap[k]? = W1.heap[k]? := fun k q => RowKit.Below.heap_setCell _ _ _ _ q
  have k4 : ∀ k, k ≠ w.heap.size → (W3.setCell ⟨w.heap.size, 5, none⟩ v3).heap[k]? = W3.heap[k]? := fun k q => RowKit.Below.heap_setCell _ _ _ _ q
  have hbel : Below w.heap.size w (W3.setCell ⟨w.heap.size, 5, none⟩ v3) := ((hba.trans (b1.mono hba.size)).setCell (p := ⟨w.heap.size, 4, none⟩) (Nat.le_refl _) _ |>.trans (b3.mono (by omega))).setCell (p := ⟨w.heap.size, 5, none⟩) (Nat.le_refl _) _
  have h1 : ∀ k, v1.ownBlock = some k → w.heap.size + 2 ≤ k ∧ k < W1.heap.size := fun k e => (by have := OwnE.lt o1 k e; omega)
  have h3 : ∀ k, v3.ownBlock = some k → W1.heap.size ≤ k := fun k e => (by have := (OwnE.lt o3 k e).1; omega)
  refine ⟨by rw [heap_setCell_same W3 w.heap.size 5 _ _ _ r3]; rfl, ?_, hbel, ?_, ?_, es, fun j _ q => absurd q (by omega), fun j q _ => (e3 E[j] (List.getElem_mem q)).below hbel, fun k q => ⟨(h1 k q).1, by have := (h1 k q).2; omega, fun e => by have := h3 k e; have := (h1 k q).2; omega⟩, ?_, fun k e => e, ⟨fun _ _ => False, fun j _ q => absurd q (by omega), fun _ _ q => q.elim, fun _ _ _ _ q => q.elim⟩⟩
  · rw [k4 _ (by omega), b3.block _ (by omega), k2 _ (by omega), b1.block _ (by omega)]
    exact hr
  · refine (OwnE.lsE atCells_len o1 (by omega) (fun k e => e)).turn (by omega) (fun k q _ => ⟨q, ?_⟩)
    have := h1 k q
    rw [k4 _ (by omega), b3.block _ (by omega), k2 _ (by omega)]
  · exact OwnE.low (OwnE.keep o3 fun k e => k4 k (by have := h3 k e; omega)) (by omega)
  · refine OwnE.low (OwnE.keep o1 fun k e => ?_) (Nat.zero_le _)
    have := h1 k e
    rw [k4 _ (by omega), b3.block _ (by omega), k2 _ (by omega)]
/-- One kid is copied. -/
theorem PcS.over {g n cap : Nat} {F : Nat → Prop} {W2 : World} {x : VT} {xa xk : Value} (h : PcS m w t H av (.slice (some ⟨g, 0, none⟩) n cap) E i W) (hn : n = E.length) (hi : i < E.length) (hx : x = E[i].1) (hb : Below W.heap.size W W2) (hF : ∀ k, F k → W.heap.size ≤ k ∧ k < W2.heap.size) (hf : FdIs F W2 xa xk x.at_ x.ks) (hsp : SepF m W2 F xa xk x) :
    PcS m w t (fun k => H k ∨ F k) av (.slice (some ⟨g, 0, none⟩) n cap) (E.set i (x, xa, xk)) (i + 1) (W2.setCells g (i * 6) (vnC (x, xa, xk))) := by
  subst hn
  have h2 := h.below hb
  obtain ⟨h3, h4⟩ := OwnE.over vnC_len h2.row hi (x, xa, xk) 0 (vnC (x, xa, xk)) (by rw [vnC_len]; omega) (by simp [setL, vnC, ndC])
  rw [Nat.add_zero] at h3 h4
  have hg := OwnE.lt h.row g rfl
  have hsz := h4.size
  have hbs := hb.size
  have k4 : ∀ k, k < W2.heap.size → k ≠ g → (W2.setCells g (i * 6) (vnC (x, xa, xk))).heap[k]? = W2.heap[k]? := fun k q z => h4.block k q (fun e => z (by cases e; rfl))
  have hs := h.bel.size
  have htl := row_lt h.tb
  have hrl := row_lt h.rb
  have hHk : ∀ k, H k → k ≠ g := fun k q e => (h.hH k q).2.2 (by rw [e]; rfl)
  refine ⟨(k4 _ (by omega) (by omega)).trans h2.tb, (k4 _ (by omega) (by omega)).trans h2.rb, h2.bel.grown h4 h2.bel.size (fun k e => by cases e; omega), ?_, h3, ?_, ?_, ?_, ?_, ?_, fun k e => .inl (h.oh k e), ?_⟩
  · exact h2.at_.turn hsz fun k q z => ⟨.inl q, k4 k z (hHk k q)⟩
  · rw [List.map_set, h.es]
    have he : t.ks[i]'(by rw [← h.len]; exact hi) = x := (by rw [hx]; simp only [← h.es, List.getElem_map])
    rw [show (x, xa, xk).1 = t.ks[i]'(by rw [← h.len]; exact hi) from he.symm, List.set_getElem_self]
  · intro j hj q
    have hj2 : j < E.length := by simpa using hj
    by_cases e : j = i
    · subst e
      rw [List.getElem_set_self]
      exact hf.turn hsz fun k q z => ⟨.inr q, k4 k z (by have := (hF k q).1; omega)⟩
    · rw [List.getElem_set_ne (by omega)]
      exact (h2.en j hj2 (by omega)).turn hsz fun k q z => ⟨.inl q, k4 k z (hHk k q)⟩
  · intro j hj q
    have hj2 : j < E.length := by simpa using hj
    rw [List.getElem_set_ne (by omega)]
    exact (h2.eo j hj2 (by omega)).turn hsz fun k q z => ⟨q, k4 k z (by omega)⟩
  · intro k q
    rcases q with q | q
    · exact ⟨(h.hH k q).1, by have := (h.hH k q).2.1; omega, (h.hH k q).2.2⟩
    · have := hF k q
      exact ⟨by omega, by omega, fun e => by have h9 : g = k := (by simpa [Value.ownBlock] using e); omega⟩
  · exact OwnE.keep h2.ow fun k e => k4 k (OwnE.lt h2.ow k e).2 (hHk k (h.oh k e))
  · obtain ⟨Fs, s1, s2, s3⟩ := h2.sp
    refine ⟨fun j k => if j = i then F k else Fs j k, fun j hj q => ?_, fun j k q => ?_, fun j l k hjl q q2 => ?_⟩
    · have hj2 : j < E.length := by simpa using hj
      by_cases e : j = i
      · subst e
        simp only [if_true, List.getElem_set_self]
        exact hsp.turn m fun k y => k4 k (hF k y).2 (by have := (hF k y).1; omega)
      · simp only [if_neg e]
        rw [List.getElem_set_ne (by omega)]
        exact (s1 j hj2 (by omega)).turn m fun k y => k4 k (by have := (h.hH k (s2 j k y).1).2.1; omega) (hHk k (s2 j k y).1)
    · by_cases e : j = i
      · simp only [if_pos e] at q
        exact ⟨.inr q, fun z => by have h9 := (OwnE.lt h.ow k z).2; have := (hF k q).1; omega⟩
      · simp only [if_neg e] at q
        exact ⟨.inl (s2 j k q).1, (s2 j k q).2⟩
    · by_cases e : j = i
      · have e2 : ¬ l = i := by omega
        simp only [if_pos e] at q
        simp only [if_neg e2] at q2
        have := (h.hH k (s2 l k q2).1).2.1
        have := (hF k q).1
        omega
      · simp only [if_neg e] at q
        by_cases e2 : l = i
        · simp only [if_pos e2] at q2
          have := (h.hH k (s2 j k q).1).2.1
          have := (hF k q2).1
          omega
        · simp only [if_neg e2] at q2
          exact s3 j l k hjl q q2
theorem PcS.there {g n cap : Nat} (h : PcS m w t H av (.slice (some ⟨g, 0, none⟩) n cap) E i W) (hi : i < E.length) : W.there g (i * 6) 6 := by
  obtain ⟨g', c', e, _, hcs, hfz⟩ := OwnE.cells vnC_len h.row hi
  cases e
  intro j hj
  refine ⟨?_, hfz _⟩
  obtain ⟨y, hy⟩ : ∃ y, (vnC E[i])[j]? = some y := ⟨_, List.getElem?_eq_getElem (show j < 6 from hj)⟩
  rw [hcs j y hy]
  rfl
/-- All kids. -/
theorem PcS.done (h : PcS m w t H av kv E t.ks.length W) (hl : t.ks.length ≤ 1466015503701) (hal : t.at_.length ≤ 4398046511104) : FdIs (fun k => H k ∨ kv.ownBlock = some k) W av kv t.at_ t.ks := by
  have hes := h.es
  have hEl := h.len
  refine ⟨h.at_.mono fun k q => .inl q, hal, ?_⟩
  have h0 := h.row
  rcases h.row.2 with ⟨e, hn⟩ | ⟨g, cap, cur, e, hg, hc, hcap, rest⟩
  · have : t.ks = [] := List.eq_nil_of_length_eq_zero (by omega)
    rw [this, e]
    exact ⟨none, 0, rfl, Nat.le_refl _, by simp, .inl rfl⟩
  · rw [e] at h0 ⊢
    refine ⟨some ⟨g, 0, none⟩, cap, by rw [hEl], by omega, hl, .inr ⟨g, 0, rfl, .inr rfl, row_lt hc, (VRow_iff _ _).2 fun i hi => ?_⟩⟩
    have hiE : i < E.length := by omega
    obtain ⟨g', cap', e', _, hcs, _⟩ := OwnE.cells vnC_len h0 hiE
    cases e'
    have hxi : E[i].1 = t.ks[i] := by
      have h9 : (E.map Prod.fst)[i]'(by simpa using hiE) = t.ks[i] := by simp only [hes]
      simpa using h9
    refine VAt_iff.2 ⟨E[i].2.1, E[i].2.2, fun j u hj => ?_, ?_⟩
    · rw [Nat.zero_add]
      refine hcs j u ?_
      unfold vnC
      rw [hxi]
      exact hj
    · have h9 := h.en i hiE hi
      rw [hxi] at h9
      exact h9.mono fun k q _ => .inl q
theorem PcS.sep (h : PcS m w t H av kv E t.ks.length W) (hl : t.ks.length ≤ 1466015503701) (hal : t.at_.length ≤ 4398046511104) : SepF (m + 1) W (fun k => H k ∨ kv.ownBlock = some k) av kv t := by
  obtain ⟨Fs, s1, s2, s3⟩ := h.sp
  have hEl := h.len
  exact ⟨E, Fs, h.ow, OwnE.low h.row (Nat.zero_le _), h.es, hal, hl, fun k e => .inl (h.oh k e), fun k e => .inr e, fun j hj => s1 j hj (by omega), fun j k _ q => ⟨.inl (s2 j k q).1, (s2 j k q).2, (h.hH k (s2 j k q).1).2.2⟩, s3⟩
end

end Go.Proofs.Ytngglnlphlembaa
