/- A tree in memory. -/
import Derived.Test.YtljmlbidbacdjabFlV
namespace Go.Proofs.Ytljmlbidbacdjab
open Go.RowKit
set_option linter.unusedVariables false
set_option linter.unusedSimpArgs false

/-- A node's cells. -/
def ndC (k : St) (tg tx : ByteArray) (av kv : Value) : List Value := [.int .i64 k.1, .int .i64 k.2, .string tg, .string tx, av, kv]
mutual
/-- A tree at its place; its lists lie in blocks of G. -/
def VAt (G : Nat → Prop) (w : World) : VT → Nat → Nat → Prop
  | .node k tg tx a ks, b, o => ∃ av kv, (∀ j u, (ndC k tg tx av kv)[j]? = some u → w.cell? ⟨b, o + j, none⟩ = some u) ∧ LsE atCells 2 G w av a ∧ a.length ≤ 4398046511104 ∧ ∃ ad cap, kv = .slice ad ks.length cap ∧ ks.length ≤ cap ∧ ks.length ≤ 1466015503701 ∧ (ks = [] ∨ ∃ b2 o2, ad = some ⟨b2, o2, none⟩ ∧ G b2 ∧ b2 < w.heap.size ∧ VRow G w ks b2 o2)
def VRow (G : Nat → Prop) (w : World) : List VT → Nat → Nat → Prop
  | [], _, _ => True
  | t :: r, b, o => VAt G w t b o ∧ VRow G w r b (o + 6)
end
/-- Kids, at a slice's place. -/
def KsIs (G : Nat → Prop) (w : World) (kv : Value) (ks : List VT) : Prop := ∃ ad cap, kv = .slice ad ks.length cap ∧ ks.length ≤ cap ∧ ks.length ≤ 1466015503701 ∧ (ks = [] ∨ ∃ b2 o2, ad = some ⟨b2, o2, none⟩ ∧ G b2 ∧ b2 < w.heap.size ∧ VRow G w ks b2 o2)
/-- A node's lists. -/
structure FdIs (G : Nat → Prop) (w : World) (av kv : Value) (a : List At) (ks : List VT) : Prop where
  at_ : LsE atCells 2 G w av a
  al : a.length ≤ 4398046511104
  ks : KsIs G w kv ks
/-- A tree as a value. -/
def VIs (G : Nat → Prop) (w : World) (v : Value) (t : VT) : Prop := ∃ av kv, v = .agg #[.int .i64 t.k.1, .int .i64 t.k.2, .string t.tg, .string t.tx, av, kv] ∧ FdIs G w av kv t.at_ t.ks
section
variable {G G' : Nat → Prop} {w w' : World} {t : VT} {b o : Nat} {v av kv : Value} {a : List At} {ks : List VT}
theorem VAt_iff : VAt G w t b o ↔ ∃ av kv, (∀ j u, (ndC t.k t.tg t.tx av kv)[j]? = some u → w.cell? ⟨b, o + j, none⟩ = some u) ∧ FdIs G w av kv t.at_ t.ks := by
  cases t with
  | node k tg tx a ks =>
    simp only [VAt]
    exact ⟨fun ⟨av, kv, h1, h2, h3, h4⟩ => ⟨av, kv, h1, h2, h3, h4⟩, fun ⟨av, kv, h1, h2⟩ => ⟨av, kv, h1, h2.at_, h2.al, h2.ks⟩⟩
theorem VRow_iff : ∀ (l : List VT) (o : Nat), VRow G w l b o ↔ ∀ i (h : i < l.length), VAt G w l[i] b (o + i * 6)
  | [], o => by simp [VRow]
  | x :: r, o => by
    simp only [VRow]
    rw [VRow_iff r (o + 6)]
    constructor
    · rintro ⟨h1, h2⟩ i hi
      match i with
      | 0 => simpa using h1
      | i + 1 => have := h2 i (by simpa using hi); simp only [List.getElem_cons_succ]; rw [show o + (i + 1) * 6 = o + 6 + i * 6 by omega]; exact this
    · intro h
      refine ⟨(by have h0 := h 0 (Nat.zero_lt_succ _); rw [List.getElem_cons_zero, Nat.zero_mul, Nat.add_zero] at h0; exact h0), fun i hi => ?_⟩
      have := h (i + 1) (by simpa using hi)
      simp only [List.getElem_cons_succ] at this
      rw [show o + (i + 1) * 6 = o + 6 + i * 6 by omega] at this
      exact this
theorem LsE.turn {α : Type} {enc : α → List Value} {n : Nat} {D : List α} (hs : w.heap.size ≤ w'.heap.size) (hG : ∀ k, G k → k < w.heap.size → G' k ∧ w'.heap[k]? = w.heap[k]?) (h : LsE enc n G w v D) : LsE enc n G' w' v D := by
  obtain ⟨a, cap, e, h1, h2, h3⟩ := h
  exact ⟨a, cap, e, h1, h2, h3.imp id fun ⟨b, o, e2, g, hlt, hr⟩ => ⟨b, o, e2, (hG b g hlt).1, Nat.lt_of_lt_of_le hlt hs, fun i hi j u hj => (World.cell?_of_block (w := w) (hG b g hlt).2).trans (hr i hi j u hj)⟩⟩
theorem VAt.turn_n (hs : w.heap.size ≤ w'.heap.size) (hG : ∀ k, G k → k < w.heap.size → G' k ∧ w'.heap[k]? = w.heap[k]?) : ∀ (n : Nat) (t : VT), t.sz ≤ n → ∀ b o, VAt G w t b o → w'.heap[b]? = w.heap[b]? → VAt G' w' t b o
  | 0, t, hn, _, _, _, _ => by have := t.sz_pos; omega
  | n + 1, t, hn, b, o, h, hb => by
    obtain ⟨av, kv, h1, h2⟩ := VAt_iff.1 h
    obtain ⟨ad, cap, e, c1, c2, c3⟩ := h2.ks
    refine VAt_iff.2 ⟨av, kv, fun j u hj => (World.cell?_of_block (w := w) hb).trans (h1 j u hj), h2.at_.turn hs hG, h2.al, ad, cap, e, c1, c2, c3.imp id fun ⟨b2, o2, e2, g, hlt, hr⟩ => ⟨b2, o2, e2, (hG b2 g hlt).1, Nat.lt_of_lt_of_le hlt hs, ?_⟩⟩
    rw [VRow_iff] at hr ⊢
    intro i hi
    exact VAt.turn_n hs hG n _ (by have := VT.kid (t := t) hi; omega) _ _ (hr i hi) (hG b2 g hlt).2
theorem VAt.turn (h : VAt G w t b o) (hs : w.heap.size ≤ w'.heap.size) (hG : ∀ k, G k → k < w.heap.size → G' k ∧ w'.heap[k]? = w.heap[k]?) (hb : w'.heap[b]? = w.heap[b]?) : VAt G' w' t b o := VAt.turn_n hs hG t.sz t (Nat.le_refl _) b o h hb
theorem KsIs.turn (h : KsIs G w kv ks) (hs : w.heap.size ≤ w'.heap.size) (hG : ∀ k, G k → k < w.heap.size → G' k ∧ w'.heap[k]? = w.heap[k]?) : KsIs G' w' kv ks := by
  obtain ⟨ad, cap, e, c1, c2, c3⟩ := h
  refine ⟨ad, cap, e, c1, c2, c3.imp id fun ⟨b2, o2, e2, g, hlt, hr⟩ => ⟨b2, o2, e2, (hG b2 g hlt).1, Nat.lt_of_lt_of_le hlt hs, ?_⟩⟩
  rw [VRow_iff] at hr ⊢
  intro i hi
  exact (hr i hi).turn hs hG (hG b2 g hlt).2
theorem FdIs.turn (h : FdIs G w av kv a ks) (hs : w.heap.size ≤ w'.heap.size) (hG : ∀ k, G k → k < w.heap.size → G' k ∧ w'.heap[k]? = w.heap[k]?) : FdIs G' w' av kv a ks := ⟨h.at_.turn hs hG, h.al, h.ks.turn hs hG⟩
theorem FdIs.below (h : FdIs G w av kv a ks) (hb : Below w.heap.size w w') : FdIs G w' av kv a ks := h.turn hb.size fun k g hlt => ⟨g, hb.block k hlt⟩
theorem FdIs.keep (h : FdIs G w av kv a ks) (hk : KeepsS G w w') : FdIs G w' av kv a ks := h.turn hk.1 fun k g _ => ⟨g, hk.2 k g⟩
theorem FdIs.mono (h : FdIs G w av kv a ks) (hG : ∀ k, G k → k < w.heap.size → G' k) : FdIs G' w av kv a ks := h.turn (Nat.le_refl _) fun k g q => ⟨hG k g q, rfl⟩
theorem FdIs.touch {F : Nat → Prop} (h : FdIs G w av kv a ks) (ht : Touch F w w') (hF : ∀ k, G k → ¬ F k) : FdIs G w' av kv a ks := h.turn ht.size fun k g hlt => ⟨g, ht.block k hlt (hF k g)⟩
theorem KsIs.below (h : KsIs G w kv ks) (hb : Below w.heap.size w w') : KsIs G w' kv ks := h.turn hb.size fun k g hlt => ⟨g, hb.block k hlt⟩
theorem KsIs.form (h : KsIs G w kv ks) : ∃ ad cap, kv = .slice ad ks.length cap := by obtain ⟨ad, cap, e, _⟩ := h; exact ⟨ad, cap, e⟩
theorem KsIs.len (h : KsIs G w kv ks) : ks.length ≤ 1466015503701 := by obtain ⟨ad, cap, e, _, h, _⟩ := h; exact h
theorem VIs.turn (h : VIs G w v t) (hs : w.heap.size ≤ w'.heap.size) (hG : ∀ k, G k → k < w.heap.size → G' k ∧ w'.heap[k]? = w.heap[k]?) : VIs G' w' v t := by
  obtain ⟨av, kv, e, h⟩ := h
  exact ⟨av, kv, e, h.turn hs hG⟩
theorem VIs.below (h : VIs G w v t) (hb : Below w.heap.size w w') : VIs G w' v t := h.turn hb.size fun k g hlt => ⟨g, hb.block k hlt⟩
theorem VAt.below (h : VAt G w t b o) (hb : Below w.heap.size w w') (hlt : b < w.heap.size) : VAt G w' t b o := h.turn hb.size (fun k g hlt => ⟨g, hb.block k hlt⟩) (hb.block b hlt)
theorem VAt.lt (h : VAt G w t b o) : b < w.heap.size := by
  obtain ⟨av, kv, h1, h2⟩ := VAt_iff.1 h
  exact cell_lt (p := ⟨b, o + 0, none⟩) (h1 0 _ rfl)
/-- A node's cells, one by one. -/
theorem VAt.cells (h : VAt G w t b o) : ∃ aa ca ak ck, w.cell? ⟨b, o, none⟩ = some (.int .i64 t.k.1) ∧ w.cell? ⟨b, o + 1, none⟩ = some (.int .i64 t.k.2) ∧ w.cell? ⟨b, o + 2, none⟩ = some (.string t.tg) ∧ w.cell? ⟨b, o + 3, none⟩ = some (.string t.tx) ∧ w.cell? ⟨b, o + 4, none⟩ = some (.slice aa t.at_.length ca) ∧ w.cell? ⟨b, o + 5, none⟩ = some (.slice ak t.ks.length ck) ∧ FdIs G w (.slice aa t.at_.length ca) (.slice ak t.ks.length ck) t.at_ t.ks := by
  obtain ⟨av, kv, h1, h2⟩ := VAt_iff.1 h
  obtain ⟨aa, ca, e1⟩ := h2.at_.form
  obtain ⟨ak, ck, e2⟩ := h2.ks.form
  subst e1 e2
  exact ⟨aa, ca, ak, ck, h1 0 _ rfl, h1 1 _ rfl, h1 2 _ rfl, h1 3 _ rfl, h1 4 _ rfl, h1 5 _ rfl, h2⟩
/-- A kid, at its place. -/
theorem KsIs.kid {ad : Option Addr} {n cap : Nat} (h : KsIs G w (.slice ad n cap) ks) {i : Nat} (hi : i < ks.length) : ∃ b2 o2, ad = some ⟨b2, o2, none⟩ ∧ G b2 ∧ b2 < w.heap.size ∧ VAt G w ks[i] b2 (o2 + i * 6) := by
  obtain ⟨ad', cap', e, c1, c2, c3⟩ := h
  injection e with e1 e2 e3
  subst e1
  obtain ⟨b2, o2, e4, g, hlt, hr⟩ := c3.resolve_left (fun e => by rw [e] at hi; simp at hi)
  exact ⟨b2, o2, e4, g, hlt, (VRow_iff ks o2).1 hr i hi⟩
theorem VIs.form (h : VIs G w v t) : ∃ aa ca ak ck, v = .agg #[.int .i64 t.k.1, .int .i64 t.k.2, .string t.tg, .string t.tx, .slice aa t.at_.length ca, .slice ak t.ks.length ck] ∧ FdIs G w (.slice aa t.at_.length ca) (.slice ak t.ks.length ck) t.at_ t.ks := by
  obtain ⟨av, kv, e, h⟩ := h
  obtain ⟨aa, ca, e1⟩ := h.at_.form
  obtain ⟨ak, ck, e2⟩ := h.ks.form
  subst e1 e2
  exact ⟨aa, ca, ak, ck, e, h⟩
theorem VIs.of (h : FdIs G w av kv t.at_ t.ks) : VIs G w (.agg #[.int .i64 t.k.1, .int .i64 t.k.2, .string t.tg, .string t.tx, av, kv]) t := ⟨av, kv, rfl, h⟩
end
end Go.Proofs.Ytljmlbidbacdjab
