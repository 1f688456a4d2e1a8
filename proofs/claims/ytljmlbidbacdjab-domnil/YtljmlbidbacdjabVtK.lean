/- The document's Copy. -/
import Derived.Test.YtljmlbidbacdjabVtH
namespace Go.Proofs.Ytljmlbidbacdjab
open Go.RowKit
set_option linter.unusedVariables false
set_option linter.unusedSimpArgs false

def vnC (x : VT × Value × Value) : List Value := ndC x.1.k x.1.tg x.1.tx x.2.1 x.2.2
theorem vnC_len (x : VT × Value × Value) : (vnC x).length = 6 := rfl
abbrev OwnVn (B : Nat) (w : World) (v : Value) (E : List (VT × Value × Value)) : Prop := OwnE vnC 6 42 B w v E
theorem infoVn : (Try.prog.info? 42).map (fun i => (i.zero, i.size, i.bytes)) = some (some (.agg #[.int .i64 0, .int .i64 0, .string ⟨#[]⟩, .string ⟨#[]⟩, .slice none 0 0, .slice none 0 0]), 6, 96) := by kernel_rfl
theorem infoAt : (Try.prog.info? 63).map (fun i => (i.zero, i.size, i.bytes)) = some (some (.agg #[.string ⟨#[]⟩, .string ⟨#[]⟩]), 2, 32) := by kernel_rfl
theorem flat_at (A : List At) : ∀ u ∈ flatE atCells A, u.oneCell' = true := by
  intro u hu
  simp only [flatE, List.mem_flatMap] at hu
  obtain ⟨x, _, hu⟩ := hu
  simp only [atCells, List.mem_cons, List.not_mem_nil, or_false] at hu
  rcases hu with rfl | rfl <;> rfl
/-- append of attributes to an empty row of one's own, in a region that draws. -/
theorem step_appA {w : World} {ops : Array Oper} {o : Oper} {a : Act} {K : Act → World → Prop} {Q : Exit → Act → World → Prop} {X : Prop} (hgd : o.guard = none) (s x : Operand)
    (ho : o.op = .call { callee := .builtin .append, args := #[s, x], argTypes := #[39, 39] })
    (B : Nat) (v : Value) (hs : a.eval s = v) (hown : OwnAt B w v []) (hB : B ≤ w.heap.size) (G : Nat → Prop) (vx : Value) (A : List At) (hx : a.eval x = vx) (hv : LsE atCells 2 G w vx A) (hl : A.length ≤ 4398046511104)
    (h : ∀ v' w', OwnAt B w' v' A → w.grownBy w' v.ownBlock → K (a.put o.dst v') w') : if Region.wanted o (yielded ops a.tmps) = true then Oper.wp Try.prog o a w K Q else X := by
  obtain ⟨i0, hi, hz0, hz1, hz2⟩ := info_parts infoAt
  have hw : Region.wanted o (yielded ops a.tmps) = true := by simp [Region.wanted, hgd]
  rw [if_pos hw]
  obtain ⟨a1, c1, rfl, hc1, hl1, r1⟩ := hv
  cases a1 with
  | none =>
    obtain rfl : A = [] := by rcases r1 with h | ⟨b, o, h, _⟩; exact h; cases h
    have hcl : ∀ ty, (Builtin.append_ #[39, 39] ty #[v, .slice none 0 c1]).run Try.prog w = .ok v w := fun ty => by
      rcases hown.2 with ⟨rfl, h0⟩ | ⟨g, cap, cur, rfl, _, _, hnc, _⟩
      · simp [Builtin.append_, run_underlying Try.underlying39, sizeOf, typeInfo, hi, Builtin.lenOf, Builtin.firstCells]
      · simp [Builtin.append_, run_underlying Try.underlying39, sizeOf, typeInfo, hi, Builtin.lenOf, Builtin.firstCells, hnc, storeCells]
    unfold Oper.wp
    simp only [List.length_nil] at hx
    simp [execOp, ho, resolve, invoke, builtin, hs, hx, hcl, Result.andThen]
    exact h _ _ hown ⟨rfl, rfl, rfl, Nat.le_refl _, fun _ _ _ => rfl⟩
  | some ad =>
    refine wp_append_own _ s x 39 ho B 63 i0 (.agg #[.string ⟨#[]⟩, .string ⟨#[]⟩]) 2 32 Try.underlying39 hi hz0 hz1 hz2 rfl (by decide) _ _ _ hs hown ad A.length c1 (flatE atCells A) hx (flatE_length atCells_len A) ?_ (flat_at A) (by unfold maxLen; simp; omega) (by simp; omega) hB ?_
    · intro j u hj
      rcases r1 with rfl | ⟨b, o, e, g, hlt, hr⟩
      · simp [flatE] at hj
      · cases e
        have hjl := (List.getElem?_eq_some_iff.1 hj).1
        rw [flatE_length atCells_len] at hjl
        have hq : j / 2 < A.length := by omega
        have hm : j = j / 2 * 2 + j % 2 := by omega
        have h3 : j % 2 < 2 := by omega
        have h4 : (atCells A[j / 2])[j % 2]? = some u := by
          obtain ⟨y, hy⟩ : ∃ y, (atCells A[j / 2])[j % 2]? = some y := ⟨_, List.getElem?_eq_getElem (show j % 2 < 2 by omega)⟩
          have h5 := flatE_get atCells_len A (j / 2) hq (j % 2) y hy
          rw [← hm, hj] at h5
          rw [hy, h5]
        have h6 := hr (j / 2) hq (j % 2) u h4
        rw [Addr.add_lit, hm, ← Nat.add_assoc]
        exact h6
    · intro v3 w3 hown3 hgrow _
      refine h v3 w3 ?_ hgrow
      have h9 := hown3
      simp only [flatE, List.flatMap_nil, List.nil_append, List.length_nil, Nat.zero_add] at h9
      exact h9
/-- A tree whose lists lie each in a block of its own. -/
def SepF : Nat → World → (Nat → Prop) → Value → Value → VT → Prop
  | 0, _, _, _, _, _ => False
  | m + 1, W, F, av, kv, t => ∃ (E : List (VT × Value × Value)) (Fs : Nat → Nat → Prop), OwnAt 0 W av t.at_ ∧ OwnVn 0 W kv E ∧ E.map Prod.fst = t.ks ∧ t.at_.length ≤ 4398046511104 ∧ t.ks.length ≤ 1466015503701 ∧ (∀ k, av.ownBlock = some k → F k) ∧ (∀ k, kv.ownBlock = some k → F k) ∧ (∀ i (h : i < E.length), SepF m W (Fs i) E[i].2.1 E[i].2.2 E[i].1) ∧ (∀ i k, i < E.length → Fs i k → F k ∧ av.ownBlock ≠ some k ∧ kv.ownBlock ≠ some k) ∧ ∀ i j k, i ≠ j → Fs i k → ¬ Fs j k
theorem SepF.turn : ∀ (m : Nat) {W W' : World} {F : Nat → Prop} {av kv : Value} {t : VT}, SepF m W F av kv t → (∀ k, F k → W'.heap[k]? = W.heap[k]?) → SepF m W' F av kv t
  | 0, _, _, _, _, _, _, h, _ => h.elim
  | m + 1, _, _, _, _, _, _, h, hk => by
    obtain ⟨E, Fs, h1, h2, h3, h4, h5, h6, h7, h8, h9, h10⟩ := h
    exact ⟨E, Fs, h1.keep fun k e => hk k (h6 k e), h2.keep fun k e => hk k (h7 k e), h3, h4, h5, h6, h7, fun i hi => (h8 i hi).turn m fun k q => hk k (h9 i k hi q).1, h9, h10⟩
theorem SepF.form : ∀ (m : Nat) {W : World} {F : Nat → Prop} {av kv : Value} {t : VT}, SepF m W F av kv t → ∃ a c a' c', av = .slice a t.at_.length c ∧ kv = .slice a' t.ks.length c'
  | 0, _, _, _, _, _, h => h.elim
  | m + 1, _, _, _, _, _, h => by
    obtain ⟨E, Fs, h1, h2, h3, _⟩ := h
    obtain ⟨a, c, e⟩ := OwnE.form h1
    obtain ⟨a', c', e'⟩ := OwnE.form h2
    exact ⟨a, c, a', c', e, by rw [e', ← h3, List.length_map]⟩
/-- The boxes of a tree that is copied. -/
structure Cp0 (w : World) (t : VT) (aa : Option Addr) (ca : Nat) (ak : Option Addr) (ck : Nat) (W : World) : Prop where
  tb : W.heap[w.heap.size]? = some (.cells #[.int .i64 t.k.1, .int .i64 t.k.2, .string t.tg, .string t.tx, .slice aa t.at_.length ca, .slice ak t.ks.length ck] 42)
  rb : W.heap[w.heap.size + 1]? = some (.cells #[.int .i64 0, .int .i64 0, .string ⟨#[]⟩, .string ⟨#[]⟩, .slice none 0 0, .slice none 0 0] 42)
  bel : Below w.heap.size w W
/-- What stands while kids are copied. -/
structure CpS (m : Nat) (w : World) (t : VT) (aa : Option Addr) (ca : Nat) (ak : Option Addr) (ck : Nat) (H : Nat → Prop) (ob : Nat) (av kv : Value) (E : List (VT × Value × Value)) (i : Nat) (W : World) : Prop where
  c0 : Cp0 w t aa ca ak ck W
  obx : W.heap[ob]? = some (.cells #[.int .i64 t.k.1, .int .i64 t.k.2, .string t.tg, .string t.tx, av, kv] 42)
  at_ : LsE atCells 2 H W av t.at_
  row : OwnVn (w.heap.size + 2) W kv E
  es : E.map Prod.fst = t.ks.take i
  ev : ∀ x ∈ E, FdIs H W x.2.1 x.2.2 x.1.at_ x.1.ks
  hH : ∀ k, H k → w.heap.size + 2 ≤ k ∧ k < W.heap.size ∧ k ≠ ob ∧ kv.ownBlock ≠ some k
  ho : w.heap.size + 2 ≤ ob ∧ kv.ownBlock ≠ some ob
  ow : OwnAt 0 W av t.at_
  oh : ∀ k, av.ownBlock = some k → H k
  sp : ∃ Fs : Nat → Nat → Prop, (∀ j (h : j < E.length), SepF m W (Fs j) E[j].2.1 E[j].2.2 E[j].1) ∧ (∀ j k, Fs j k → H k ∧ av.ownBlock ≠ some k) ∧ ∀ j l k, j ≠ l → Fs j k → ¬ Fs l k
section
variable {m : Nat} {w W W' : World} {t : VT} {aa : Option Addr} {ca : Nat} {ak : Option Addr} {ck : Nat} {H : Nat → Prop} {ob : Nat} {av kv : Value} {E : List (VT × Value × Value)} {i : Nat}
theorem Cp0.below (h : Cp0 w t aa ca ak ck W) (hb : Below W.heap.size W W') : Cp0 w t aa ca ak ck W' := ⟨(hb.block _ (row_lt h.tb)).trans h.tb, (hb.block _ (row_lt h.rb)).trans h.rb, h.bel.trans (hb.mono h.bel.size)⟩
theorem Cp0.grown (h : Cp0 w t aa ca ak ck W) {r : Option Nat} (hg : W.grownBy W' r) (hr : ∀ k, r = some k → w.heap.size + 2 ≤ k) : Cp0 w t aa ca ak ck W' := ⟨(hg.block _ (row_lt h.tb) (fun e => by have := hr _ e.symm; omega)).trans h.tb, (hg.block _ (row_lt h.rb) (fun e => by have := hr _ e.symm; omega)).trans h.rb, h.bel.grown hg h.bel.size (fun k e => by have := hr k e; omega)⟩
theorem CpS.below (h : CpS m w t aa ca ak ck H ob av kv E i W) (hb : Below W.heap.size W W') : CpS m w t aa ca ak ck H ob av kv E i W' := ⟨h.c0.below hb, (hb.block _ (row_lt h.obx)).trans h.obx, h.at_.below hb, h.row.below hb, h.es, fun x hx => (h.ev x hx).below hb, fun k q => ⟨(h.hH k q).1, Nat.lt_of_lt_of_le (h.hH k q).2.1 hb.size, (h.hH k q).2.2⟩, h.ho, h.ow.below hb, h.oh, (by obtain ⟨Fs, s1, s2, s3⟩ := h.sp; exact ⟨Fs, fun j q => (s1 j q).turn m fun k y => hb.block k (h.hH k (s2 j k y).1).2.1, s2, s3⟩)⟩
/-- One more kid. -/
theorem CpS.push (h : CpS m w t aa ca ak ck H ob av kv E i W) {W2 W3 : World} {x : VT} {xa xk v3 : Value} {F : Nat → Prop} (hi : i < t.ks.length) (hx : x = t.ks[i]) (hb : Below W.heap.size W W2) (hF : ∀ k, F k → W.heap.size ≤ k ∧ k < W2.heap.size) (hf : FdIs F W2 xa xk x.at_ x.ks) (hsp : SepF m W2 F xa xk x)
    (hown : OwnVn (w.heap.size + 2) W3 v3 (E ++ [(x, xa, xk)])) (hg : W2.grownBy W3 kv.ownBlock) (hat : v3.ownBlock = kv.ownBlock ∨ v3.ownBlock = some W2.heap.size) :
    CpS m w t aa ca ak ck (fun k => H k ∨ F k) ob av v3 (E ++ [(x, xa, xk)]) (i + 1) (W3.setCell ⟨ob, 5, none⟩ v3) := by
  have h2 := h.below hb
  have hob := row_lt h.obx
  have hkv : ∀ k, kv.ownBlock = some k → w.heap.size + 2 ≤ k ∧ k < W.heap.size := fun k e => (OwnE.lt h.row k e)
  have c3 := h2.c0.grown hg (fun k e => (hkv k e).1)
  have ho3 : v3.ownBlock ≠ some ob := fun e => by
    rcases hat with q | q
    · exact h.ho.2 (by rw [← q, e])
    · rw [e] at q; cases q; have := hb.size; omega
  have hb3 : W3.heap[ob]? = some (.cells #[.int .i64 t.k.1, .int .i64 t.k.2, .string t.tg, .string t.tx, av, kv] 42) := (hg.block _ (row_lt h2.obx) (fun e => h.ho.2 e.symm)).trans h2.obx
  have hs : (W3.setCell ⟨ob, 5, none⟩ v3).heap.size = W3.heap.size := by simp [World.setCell]
  have hk : ∀ k, k ≠ ob → (W3.setCell ⟨ob, 5, none⟩ v3).heap[k]? = W3.heap[k]? := fun k q => RowKit.Below.heap_setCell _ _ _ _ q
  have hHk : ∀ k, H k → (W3.setCell ⟨ob, 5, none⟩ v3).heap[k]? = W2.heap[k]? := fun k q => (hk k (h.hH k q).2.2.1).trans (hg.block k (by have := (h.hH k q).2.1; have := hb.size; omega) (fun e => (h.hH k q).2.2.2 e.symm))
  have hFk : ∀ k, F k → (W3.setCell ⟨ob, 5, none⟩ v3).heap[k]? = W2.heap[k]? := fun k q => (hk k (by have := (hF k q).1; omega)).trans (hg.block k (hF k q).2 (fun e => by have h9 := (hkv k e.symm).2; have := (hF k q).1; omega))
  refine ⟨⟨(hk _ (by have := h.ho.1; omega)).trans c3.tb, (hk _ (by have := h.ho.1; omega)).trans c3.rb, c3.bel.setCell (p := ⟨ob, 5, none⟩) (by have := h.ho.1; show w.heap.size ≤ ob; omega) _⟩, ?_, h2.at_.turn (by rw [hs]; exact hg.size) fun k q _ => ⟨.inl q, hHk k q⟩, ?_, ?_, ?_, ?_, ⟨h.ho.1, ho3⟩, ?_, fun k e => .inl (h.oh k e), ?_⟩
  · rw [heap_setCell_same W3 ob 5 _ _ _ hb3]
    rfl
  · exact OwnE.keep hown fun k e => hk k (fun e2 => ho3 (by rw [e, e2]))
  · rw [List.map_append, h.es, List.take_succ_eq_append_getElem hi, hx]
    rfl
  · intro y hy
    rcases List.mem_append.1 hy with hy | hy
    · exact (h2.ev y hy).turn (by rw [hs]; exact hg.size) fun k q _ => ⟨.inl q, hHk k q⟩
    · rw [List.mem_singleton] at hy
      subst hy
      exact hf.turn (by rw [hs]; exact hg.size) fun k q _ => ⟨.inr q, hFk k q⟩
  · intro k q
    rw [hs]
    have hl3 := hg.size
    have hl2 := hb.size
    have hl0 := h.c0.bel.size
    have hrl := row_lt h.c0.rb
    rcases q with q | q
    · have h9 := h.hH k q
      refine ⟨h9.1, by omega, h9.2.2.1, fun e => ?_⟩
      rcases hat with z | z
      · exact h9.2.2.2 (by rw [← z, e])
      · rw [e] at z; cases z; omega
    · have h9 := hF k q
      refine ⟨by omega, by omega, by omega, fun e => ?_⟩
      rcases hat with z | z
      · rw [z] at e; have := (hkv k e).2; omega
      · rw [e] at z; cases z; omega
  · exact OwnE.keep h2.ow fun k e => hHk k (h.oh k e)
  · obtain ⟨Fs, s1, s2, s3⟩ := h2.sp
    refine ⟨fun j k => if j = E.length then F k else Fs j k, fun j hj => ?_, fun j k q => ?_, fun j l k hjl q q2 => ?_⟩
    · have hj2 : j < E.length + 1 := by simpa using hj
      by_cases e : j = E.length
      · subst e
        simp only [if_true, List.getElem_concat_length]
        exact hsp.turn m fun k y => hFk k y
      · simp only [if_neg e]
        rw [List.getElem_append_left (by omega)]
        exact (s1 j (by omega)).turn m fun k y => hHk k (s2 j k y).1
    · by_cases e : j = E.length
      · simp only [if_pos e] at q
        exact ⟨.inr q, fun z => by have h9 := (OwnE.lt h.ow k z).2; have := (hF k q).1; omega⟩
      · simp only [if_neg e] at q
        exact ⟨.inl (s2 j k q).1, (s2 j k q).2⟩
    · by_cases e : j = E.length
      · have e2 : ¬ l = E.length := by omega
        simp only [if_pos e] at q
        simp only [if_neg e2] at q2
        have := (h.hH k (s2 l k q2).1).2.1
        have := (hF k q).1
        omega
      · simp only [if_neg e] at q
        by_cases e2 : l = E.length
        · simp only [if_pos e2] at q2
          have := (h.hH k (s2 j k q).1).2.1
          have := (hF k q2).1
          omega
        · simp only [if_neg e2] at q2
          exact s3 j l k hjl q q2
/-- All kids. -/
theorem CpS.done (h : CpS m w t aa ca ak ck H ob av kv E t.ks.length W) (hl : t.ks.length ≤ 1466015503701) (hal : t.at_.length ≤ 4398046511104) : FdIs (fun k => H k ∨ kv.ownBlock = some k) W av kv t.at_ t.ks := by
  have hes := h.es
  rw [List.take_length] at hes
  have hEl : E.length = t.ks.length := by rw [← hes]; simp
  refine ⟨h.at_.mono fun k q => .inl q, hal, ?_⟩
  have h0 := h.row
  rcases h.row.2 with ⟨e, hn⟩ | ⟨g, cap, cur, e, hg, hc, hcap, rest⟩
  · have : t.ks = [] := List.eq_nil_of_length_eq_zero (by omega)
    rw [this, e]
    exact ⟨none, 0, rfl, Nat.le_refl _, by simp, .inl rfl⟩
  · rw [e] at h0 ⊢
    refine ⟨some ⟨g, 0, none⟩, cap, by rw [hEl], by omega, hl, .inr ⟨g, 0, rfl, .inr rfl, row_lt hc, (VRow_iff _ _).2 fun i hi => ?_⟩⟩
    have hiE : i < E.length := by omega
    obtain ⟨g', cap', e', _, hcs, _⟩ := OwnE.cells vnC_len h0 hiE
    cases e'
    have hxi : E[i].1 = t.ks[i] := by
      have h9 : (E.map Prod.fst)[i]'(by simpa using hiE) = t.ks[i] := by simp only [hes]
      simpa using h9
    refine VAt_iff.2 ⟨E[i].2.1, E[i].2.2, fun j u hj => ?_, ?_⟩
    · rw [Nat.zero_add]
      refine hcs j u ?_
      unfold vnC
      rw [hxi]
      exact hj
    · have h9 := h.ev E[i] (List.getElem_mem hiE)
      rw [hxi] at h9
      exact h9.mono fun k q _ => .inl q
theorem CpS.sep (h : CpS m w t aa ca ak ck H ob av kv E t.ks.length W) (hl : t.ks.length ≤ 1466015503701) (hal : t.at_.length ≤ 4398046511104) : SepF (m + 1) W (fun k => H k ∨ kv.ownBlock = some k) av kv t := by
  obtain ⟨Fs, s1, s2, s3⟩ := h.sp
  have hes := h.es
  rw [List.take_length] at hes
  exact ⟨E, Fs, h.ow, OwnE.low h.row (Nat.zero_le _), hes, hal, hl, fun k e => .inl (h.oh k e), fun k e => .inr e, fun j hj => s1 j hj, fun j k _ q => ⟨.inl (s2 j k q).1, (s2 j k q).2, (h.hH k (s2 j k q).1).2.2.2⟩, s3⟩
end

end Go.Proofs.Ytljmlbidbacdjab
