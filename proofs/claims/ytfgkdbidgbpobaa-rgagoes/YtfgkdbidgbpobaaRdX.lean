/- What stands while a row is cloned. -/
import Derived.Test.YtfgkdbidgbpobaaRdW
import Derived.Test.YtfgkdbidgbpobaaMpU
namespace Go.Proofs.Ytfgkdbidgbpobaa
open Go.RowKit
set_option linter.unusedVariables false
set_option linter.unusedSimpArgs false

theorem makeBh (n : Nat) (w : World) : (Instr.makeMap 55 (some (.int .i64 (n : Int)))).run Try.prog w = .ok (.map (some w.heap.size)) (w.alloc (.map #[] 0)) := by
  simp [Instr.makeMap, run_underlying Try.underlying55, asInt, newObj, Result.andThen]
  first | done | rfl
theorem len_bh {w : World} {b : Nat} {E : List (St × Value)} (h : MapIs Prod.fst Prod.snd w b E) : (Builtin.len_ #[55] 3 #[.map (some b)]).run Try.prog w = .ok (.int .i64 (E.length : Int)) w := by
  obtain ⟨es, cl, hb, he⟩ := h
  have hz : es.size = E.length := by
    have h1 := congrArg List.length he.ent
    simpa only [List.length_map, Array.length_toList] using h1
  simp [Builtin.len_, run_underlying Try.underlying55, run_underlying Try.underlying3, MapKept.run_getObj_map hb, hz, Result.andThen]
  rfl

/-- A row that is being cloned: the source, the range over its map behind, the clone so far. -/
structure ClS (F : Nat → Prop) (w : World) (rb : Nat) (L : List Sl) (ma mb : Nat) (fv : Value) (E : List (St × Value)) (rb2 ma2 mb2 : Nat) (fv2 : Value) (it : Nat) (ex : Option St) (Q E2 : List (St × Value)) (W : World) : Prop where
  src : RowIs F W rb L (behZ L) (frL L) ma mb fv E
  slt : ∀ k, F k → k < w.heap.size
  iter : IterIs Prod.fst Prod.snd W mb it E Q
  rsub : ∀ x ∈ Q, x ∈ E
  rnod : (Q.map Prod.fst).Nodup
  row2 : W.heap[rb2]? = some (.cells #[.map (some ma2), .map (some mb2), fv2] 57)
  am2 : AMap W ma2 L
  bm2 : MapIs Prod.fst Prod.snd W mb2 E2
  nod2 : (E2.map Prod.fst).Nodup
  beh2 : ∀ x ∈ E2, OwnSt w.heap.size W x.2 (behZ L x.1)
  key : ∀ a, (∃ x ∈ E, x.1 = a) → (∃ x ∈ Q, x.1 = a) ∨ (∃ x ∈ E2, x.1 = a) ∨ ex = some a
  new : ∀ x ∈ Q, ∀ y ∈ E2, x.1 ≠ y.1
  own2 : OwnSt w.heap.size W fv2 (frL L)
  dis2 : ∀ x ∈ E2, ∀ y ∈ E2, x.1 ≠ y.1 → ∀ k, x.2.ownBlock = some k → y.2.ownBlock ≠ some k
  dif2 : ∀ x ∈ E2, ∀ k, x.2.ownBlock = some k → fv2.ownBlock ≠ some k
  lo : w.heap.size ≤ rb2 ∧ w.heap.size ≤ ma2 ∧ w.heap.size ≤ mb2 ∧ w.heap.size ≤ it
  ne2 : ma2 ≠ mb2
  bel : Below w.heap.size w W
section
variable {F : Nat → Prop} {w W W' : World} {rb : Nat} {L : List Sl} {ma mb : Nat} {fv : Value} {E : List (St × Value)} {rb2 ma2 mb2 : Nat} {fv2 : Value} {it : Nat} {ex : Option St} {Q E2 : List (St × Value)}
theorem ClS.below (h : ClS F w rb L ma mb fv E rb2 ma2 mb2 fv2 it ex Q E2 W) (hb : Below W.heap.size W W') : ClS F w rb L ma mb fv E rb2 ma2 mb2 fv2 it ex Q E2 W' where
  src := h.src.below hb
  slt := h.slt
  iter := h.iter.below hb
  rsub := h.rsub
  rnod := h.rnod
  row2 := (hb.block _ (row_lt h.row2)).trans h.row2
  am2 := h.am2.keep (hb.block _ h.am2.lt)
  bm2 := h.bm2.keep (hb.block _ h.bm2.lt)
  nod2 := h.nod2
  beh2 := fun x hx => (h.beh2 x hx).below hb
  key := h.key
  new := h.new
  own2 := h.own2.below hb
  dis2 := h.dis2
  dif2 := h.dif2
  lo := h.lo
  ne2 := h.ne2
  bel := h.bel.trans (hb.mono h.bel.size)
theorem ClS.done (h : ClS F w rb L ma mb fv E rb2 ma2 mb2 fv2 it none [] E2 W) : RowIs (fun k => w.heap.size ≤ k ∧ k < W.heap.size) W rb2 L (behZ L) (frL L) ma2 mb2 fv2 E2 where
  row := h.row2
  am := h.am2
  good := h.src.good
  bm := h.bm2
  nod := h.nod2
  beh := fun x hx => (h.beh2 x hx).low (Nat.zero_le _)
  no := fun a ha => h.src.no a fun x hx e => by
    rcases h.key a ⟨x, hx, e⟩ with ⟨y, hy, _⟩ | ⟨y, hy, e2⟩ | h3
    · cases hy
    · exact ha y hy e2
    · cases h3
  own := h.own2.low (Nat.zero_le _)
  ne := h.ne2
  fr := ⟨h.lo.1, row_lt h.row2⟩
  fa := ⟨h.lo.2.1, h.am2.lt⟩
  fb := ⟨h.lo.2.2.1, h.bm2.lt⟩
  ff := fun k e => h.own2.lt k e
  fe := fun x hx k e => (h.beh2 x hx).lt k e
  dis := h.dis2
  dif := h.dif2
  lt := fun k hk => hk.2
/-- The range's own block changes: one of those that are left comes. -/
theorem ClS.next {Q1 Q2 : List (St × Value)} {x : St × Value} (h : ClS F w rb L ma mb fv E rb2 ma2 mb2 fv2 it none Q E2 W) (hQ : Q = Q1 ++ x :: Q2) (hI : IterIs Prod.fst Prod.snd W' mb it E (Q1 ++ Q2)) (hg : W.grownBy W' (some it)) (hz : W'.heap.size = W.heap.size) :
    ClS F w rb L ma mb fv E rb2 ma2 mb2 fv2 it (some x.1) (Q1 ++ Q2) E2 W' ∧ x ∈ E ∧ (∀ y ∈ E2, y.1 ≠ x.1) := by
  have hk : ∀ k, k < W.heap.size → k ≠ it → W'.heap[k]? = W.heap[k]? := fun k hk hne => hg.block k hk fun e => hne (Option.some.inj e)
  have hlo := h.lo.2.2.2
  obtain ⟨_, _, _, _, _, hoi, _⟩ := h.iter
  have hc : ∀ k cs T fr, W.heap[k]? = some (Obj.cells cs T fr) → W'.heap[k]? = W.heap[k]? := fun k cs T fr e => hk k (row_lt e) (fun e2 => by
    subst e2
    rw [hoi] at e
    cases e)
  have hm : ∀ k es cl, W.heap[k]? = some (Obj.map es cl) → W'.heap[k]? = W.heap[k]? := fun k es cl e => hk k (row_lt e) (fun e2 => by
    subst e2
    rw [hoi] at e
    cases e)
  have hmem : ∀ y, y ∈ Q1 ++ Q2 → y ∈ Q := fun y hy => by
    rw [hQ]
    rcases List.mem_append.1 hy with h | h
    · exact List.mem_append_left _ h
    · exact List.mem_append_right _ (List.mem_cons_of_mem _ h)
  have hx : x ∈ Q := by rw [hQ]; simp
  have ho : ∀ v D, OwnSt w.heap.size W v D → OwnSt w.heap.size W' v D := fun v D hv => hv.keep fun k e => by
    obtain ⟨cur, hcur⟩ := ownsRow_type hv k e
    exact hc _ _ _ _ hcur
  refine ⟨⟨h.src.keep ⟨by rw [hz]; exact Nat.le_refl _, fun k hF => hk k (h.src.lt k hF) (fun e => by have := h.slt k hF; omega)⟩, h.slt, hI, fun y hy => h.rsub y (hmem y hy), ?_, (hc _ _ _ _ h.row2).trans h.row2, ?_, ?_, h.nod2, fun y hy => ho _ _ (h.beh2 y hy), fun a ha => ?_, fun y hy => h.new y (hmem y hy), ho _ _ h.own2, h.dis2, h.dif2, h.lo, h.ne2, h.bel.grown hg h.bel.size (fun k e => by cases e; exact hlo)⟩, h.rsub x hx, fun y hy e => h.new x hx y hy e.symm⟩
  · have := h.rnod
    rw [hQ] at this
    simp only [List.map_append, List.map_cons] at this ⊢
    exact this.sublist (List.Sublist.append_left (List.sublist_cons_self _ _) _)
  · obtain ⟨D, ⟨es, cl, h1, h2⟩, h3⟩ := h.am2
    exact ⟨D, ⟨es, cl, (hm _ _ _ h1).trans h1, h2⟩, h3⟩
  · obtain ⟨es, cl, h1, h2⟩ := h.bm2
    exact ⟨es, cl, (hm _ _ _ h1).trans h1, h2⟩
  · rcases h.key a ha with ⟨y, hy, e⟩ | h2 | h2
    · rw [hQ] at hy
      rcases List.mem_append.1 hy with h3 | h3
      · exact .inl ⟨y, List.mem_append_left _ h3, e⟩
      · rcases List.mem_cons.1 h3 with rfl | h3
        · exact .inr (.inr (by rw [e]))
        · exact .inl ⟨y, List.mem_append_right _ h3, e⟩
    · exact .inr (.inl h2)
    · cases h2
/-- Its slots are stored. -/
theorem ClS.put {x : St × Value} {v : Value} {Wp : World} (h : ClS F w rb L ma mb fv E rb2 ma2 mb2 fv2 it (some x.1) Q E2 Wp) (hb : Below Wp.heap.size Wp W) (hv : OwnSt Wp.heap.size W v (behZ L x.1)) (hx : x ∈ E) (h2 : ∀ y ∈ E2, y.1 ≠ x.1) :
    ∃ W', (Instr.mapUpdate 55 (.map (some mb2)) (stV x.1) v).run Try.prog W = .ok () W' ∧ W.grownBy W' (some mb2) ∧ ((∀ y ∈ Q, y.1 ≠ x.1) → ClS F w rb L ma mb fv E rb2 ma2 mb2 fv2 it none Q (E2 ++ [(x.1, v)]) W') := by
  have hc := h.below hb
  obtain ⟨W', hr, hg, hz, hor⟩ := store_st 55 38 uBehind hc.bm2 ((x.1, v) : St × Value)
  have hn : getP Prod.fst E2 x.1 = none := List.find?_eq_none.2 fun y hy => by simpa using h2 y hy
  have hmap : MapIs Prod.fst Prod.snd W' mb2 (E2 ++ [(x.1, v)]) := by
    rcases hor with ⟨_, h3⟩ | ⟨y, j, h3, _⟩
    · exact h3
    · rw [show getP Prod.fst E2 ((x.1, v) : St × Value).1 = getP Prod.fst E2 x.1 from rfl, hn] at h3; cases h3
  refine ⟨W', hr, hg, fun hq => ?_⟩
  have hk : ∀ k, k < W.heap.size → k ≠ mb2 → W'.heap[k]? = W.heap[k]? := fun k hk hne => hg.block k hk fun e => hne (Option.some.inj e)
  obtain ⟨es2, cl2, hm2, _⟩ := hc.bm2
  have hcc : ∀ k cs T fr, W.heap[k]? = some (Obj.cells cs T fr) → W'.heap[k]? = W.heap[k]? := fun k cs T fr e => hk k (row_lt e) (fun e2 => by
    subst e2
    rw [hm2] at e
    cases e)
  obtain ⟨_, _, _, _, _, hoi, _⟩ := hc.iter
  have hit : W'.heap[it]? = W.heap[it]? := hk it (row_lt hoi) (fun e2 => by
    subst e2
    rw [hoi] at hm2
    cases hm2)
  have hlo := hc.lo
  have hmn : mb < w.heap.size := hc.slt _ hc.src.fb
  have ho : ∀ u D, OwnSt w.heap.size W u D → OwnSt w.heap.size W' u D := fun u D hu => hu.keep fun k e => by
    obtain ⟨cur, hcur⟩ := ownsRow_type hu k e
    exact hcc _ _ _ _ hcur
  refine ⟨hc.src.keep ⟨by rw [hz]; exact Nat.le_refl _, fun k hF => hk k (hc.src.lt k hF) (fun e => by have := hc.slt k hF; omega)⟩, hc.slt, hc.iter.keep (hk mb (hc.src.bm.lt) (by omega)) hit, hc.rsub, hc.rnod, (hcc _ _ _ _ hc.row2).trans hc.row2, hc.am2.keep (hk _ hc.am2.lt hc.ne2), hmap, ?_, fun y hy => ?_, fun a ha => ?_, fun y hy z hz2 => ?_, ho _ _ hc.own2, fun y hy z hz2 hne k e => ?_, fun y hy k e => ?_, hc.lo, hc.ne2, hc.bel.grown hg hc.bel.size (fun k e => by cases e; exact hlo.2.2.1)⟩
  · rw [List.map_append, List.nodup_append]
    refine ⟨hc.nod2, by simp, fun a ha b hb2 e => ?_⟩
    obtain ⟨y, hy, rfl⟩ := List.mem_map.1 ha
    simp at hb2
    exact h2 y hy (by rw [e, hb2])
  · rcases List.mem_append.1 hy with h3 | h3
    · exact ho _ _ (hc.beh2 y h3)
    · simp at h3; subst h3; exact ho _ _ (hv.low h.bel.size)
  · rcases hc.key a ha with h3 | ⟨y, hy, e⟩ | h3
    · exact .inl h3
    · exact .inr (.inl ⟨y, List.mem_append_left _ hy, e⟩)
    · cases h3; exact .inr (.inl ⟨(x.1, v), by simp, rfl⟩)
  · rcases List.mem_append.1 hz2 with h3 | h3
    · exact hc.new y hy z h3
    · simp at h3; subst h3; exact hq y hy
  · have fresh : ∀ y ∈ E2, ∀ k, y.2.ownBlock = some k → v.ownBlock ≠ some k := fun y hy k e e2 => by
      have h3 := (h.beh2 y hy).lt k e
      have h4 := hv.lt k e2
      omega
    rcases List.mem_append.1 hy with h3 | h3 <;> rcases List.mem_append.1 hz2 with h4 | h4
    · exact hc.dis2 y h3 z h4 hne k e
    · simp at h4; subst h4; exact fresh y h3 k e
    · simp at h3; subst h3; exact fun e2 => fresh z h4 k e2 e
    · simp at h3 h4; subst h3; subst h4; exact absurd rfl hne
  · rcases List.mem_append.1 hy with h3 | h3
    · exact hc.dif2 y h3 k e
    · simp at h3; subst h3
      intro e2
      have h5 := h.own2.lt k e2
      have h6 := hv.lt k e
      omega
end

end Go.Proofs.Ytfgkdbidgbpobaa
