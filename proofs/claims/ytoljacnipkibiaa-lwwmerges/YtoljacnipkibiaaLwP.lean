/- slices.Clone of names, maps.Clone, Clone. -/
import Derived.Test.YtoljacnipkibiaaLwL
import Derived.Test.YtoljacnipkibiaaLwG
import Derived.Shelf.SlMaps.Clone
namespace Go.Proofs.Ytoljacnipkibiaa
open Go.RowKit
set_option linter.unusedVariables false
set_option linter.unusedSimpArgs false

theorem flat_nm1 (D : List ByteArray) : ∀ u ∈ flatE nmCells D, u.oneCell' = true := by
  intro u hu
  obtain ⟨x, _, hx⟩ := List.mem_flatMap.1 hu
  exact nmCells_one x u hx
theorem HMap.cut {w : World} {b : Nat} {R : List Rg} (h : HMap w b R) : ∃ es cl, w.heap[b]? = some (.map es cl) ∧ ∀ (w' : World) (b' : Nat), w'.heap[b']? = some (.map es cl) → HMap w' b' R := by
  obtain ⟨D, ⟨es, cl, h1, h2⟩, h3⟩ := h
  exact ⟨es, cl, h1, fun w' b' h4 => ⟨D, ⟨es, cl, h4, h2⟩, h3⟩⟩
theorem makeNs (n : Nat) (w : World) : (Instr.makeMap 62 (some (.int .i64 (n : Int)))).run Try.prog w = .ok (.map (some w.heap.size)) (w.alloc (.map #[] 0)) := by
  simp [Instr.makeMap, run_underlying Try.underlying62, asInt, newObj, Result.andThen]
  first | done | rfl
theorem len_n {w : World} {b : Nat} {E : List (St × Value)} (h : MapIs Prod.fst Prod.snd w b E) : (Builtin.len_ #[62] 3 #[.map (some b)]).run Try.prog w = .ok (.int .i64 (E.length : Int)) w := by
  obtain ⟨es, cl, hb, he⟩ := h
  have hz : es.size = E.length := by
    have h1 := congrArg List.length he.ent
    simpa only [List.length_map, Array.length_toList] using h1
  simp [Builtin.len_, run_underlying Try.underlying62, run_underlying Try.underlying3, MapKept.run_getObj_map hb, hz, Result.andThen]
  rfl

set_option maxRecDepth 100000 in
set_option maxHeartbeats 2000000 in
theorem cloneNm (v : Value) (R : List ByteArray) (w : World) (h : OwnNm 0 w v R) (hl : R.length ≤ 4096) :
    Calls Try.prog 43 #[v] w fun e w' => ∃ v', e = .returned v' ∧ OwnNm w.heap.size w' v' R ∧ Below w.heap.size w w' := by
  obtain ⟨ist, hist, hz0st, hz1st, hz2st⟩ := info_parts infoStr
  obtain ⟨hx, h2⟩ := h
  rcases h2 with ⟨rfl, hn⟩ | ⟨g, cap, cur, rfl, hg, hc, hcap, hm, hsz, htk⟩
  · have e : R = [] := List.eq_nil_of_length_eq_zero hn
    subst e
    have hq := fun w => Lib.run_eql_slice_nil (P := Try.prog) w 72 _ none 0 0 0 0 Try.underlying72
    clear hx hn
    go_enter Try.func43, Try.ntmps43
    go_wp2
    go_ret
    exact ⟨_, rfl, OwnE.nil0 _ _, Below.refl _ _⟩
  · have hbe : Below w.heap.size w (w.alloc (.cells #[] 9)) := (Below.refl _ _).alloc (Nat.le_refl _) _
    have HO : Hid ((w.alloc (.cells #[] 9)).ownsRow w.heap.size 9 1 (.slice (some ⟨w.heap.size, 0, none⟩) 0 0) 0 []) := World.ownsRow_made w #[] 0 (Nat.le_refl _) (by unfold maxLen; omega) (by simp)
    have HN : Hid (∀ j u, (flatE nmCells R)[j]? = some u → (w.alloc (.cells #[] 9)).cell? ((⟨g, 0, none⟩ : Addr).add j) = some u) := fun j u hj => by
      rw [Addr.add_lit, Nat.zero_add]
      refine (hbe.cell (p := ⟨g, j, none⟩) (row_lt hc)).trans ?_
      rw [cell_of_row w g j _ _ _ hc]
      rw [← htk] at hj
      have hj2 : j < R.length * 1 := by have := (List.getElem?_eq_some_iff.1 hj).1; rw [List.length_take] at this; omega
      rw [List.getElem?_take_of_lt hj2] at hj
      simpa using hj
    have HBe : Hid (Below w.heap.size w (w.alloc (.cells #[] 9))) := hbe
    have hsz0 : w.heap.size ≤ (w.alloc (.cells #[] 9)).heap.size := hbe.size
    have hq := fun w => Lib.run_eql_slice_nil (P := Try.prog) w 72 _ (some ⟨g, 0, none⟩) R.length cap 0 0 Try.underlying72
    clear hbe hx hc hsz htk
    go_enter Try.func43, Try.ntmps43
    go_wp2_with (at_builtin; refine wpList_append_own_at _ rfl _ _ 72 rfl w.heap.size 9 ist (.string ⟨#[]⟩) 1 16 Try.underlying72 hist hz0st hz1st hz2st rfl (by decide) _ _ _ rfl HO.out ⟨g, 0, none⟩ R.length cap (flatE nmCells R) rfl (flatE_length nmCells_len R) HN.out (flat_nm1 _) (by unfold maxLen; omega) (by omega) hsz0 ?_; intro v3 w3 hown3 hgrow3 hnil3 hat3; have HR3 : Hid (OwnNm w.heap.size w3 v3 R ∧ Below w.heap.size w w3) := ⟨by (have h9 := hown3; rw [Nat.zero_add, List.nil_append] at h9; exact h9), HBe.out.grown hgrow3 HBe.out.size (fun k e => by cases e; exact Nat.le_refl _)⟩; clear hown3 hgrow3 hnil3 hat3)
    go_ret
    exact ⟨_, rfl, HR3.out.1, HR3.out.2⟩

set_option maxRecDepth 100000 in
set_option maxHeartbeats 2000000 in
theorem cloneH (b : Nat) (es : Array MapEntry) (clock : Nat) (w : World) (hb : w.heap[b]? = some (.map es clock)) :
    Calls Try.prog 42 #[.map (some b)] w fun e w' => e = .returned (.map (some w.heap.size)) ∧ w' = w.alloc (.map es clock) := by
  have hq := fun w => run_eql_map_nil_sl (P := Try.prog) w 61 _ _ (some b) uHas
  go_enter Try.func42, Try.ntmps42
  go_wp2
  rw [run_callFunc_extern Try.func56 (by kernel_rfl) (by kernel_rfl) (by kernel_rfl) (e := Extern.MapsClone.clone) (by kernel_rfl), run_maps_clone_sl w 61 hb]
  simp only [Result.andThen]
  rw [Oper.upon_value]
  go_wp2
  rw [run_typeAssert_map_sl _ 61 _ _ _ _ uHas]
  simp only [Result.andThen]
  rw [Oper.upon_value]
  go_wp2
  go_ret
  exact ⟨rfl, rfl⟩
/-- Registers that are being cloned: the source, the range over its names, the clone so far. -/
structure ClS (F : Nat → Prop) (w : World) (rb : Nat) (R : List Rg) (B : St → List ByteArray) (mh mn : Nat) (E : List (St × Value)) (rb2 mh2 mn2 : Nat) (it : Nat) (ex : Option St) (Q E2 : List (St × Value)) (W : World) : Prop where
  src : RegIs F W rb R B mh mn E
  slt : ∀ k, F k → k < w.heap.size
  iter : IterIs Prod.fst Prod.snd W mn it E Q
  rsub : ∀ x ∈ Q, x ∈ E
  rnod : (Q.map Prod.fst).Nodup
  row2 : W.heap[rb2]? = some (.cells #[.map (some mh2), .map (some mn2)] 64)
  hm2 : HMap W mh2 R
  nm2 : MapIs Prod.fst Prod.snd W mn2 E2
  nod2 : (E2.map Prod.fst).Nodup
  own2 : ∀ x ∈ E2, OwnNm w.heap.size W x.2 (B x.1)
  nem2 : ∀ x ∈ E2, B x.1 ≠ []
  key : ∀ a, (∃ x ∈ E, x.1 = a) → (∃ x ∈ Q, x.1 = a) ∨ (∃ x ∈ E2, x.1 = a) ∨ ex = some a
  new : ∀ x ∈ Q, ∀ y ∈ E2, x.1 ≠ y.1
  dis2 : ∀ x ∈ E2, ∀ y ∈ E2, x.1 ≠ y.1 → ∀ k, x.2.ownBlock = some k → y.2.ownBlock ≠ some k
  lo : w.heap.size ≤ rb2 ∧ w.heap.size ≤ mh2 ∧ w.heap.size ≤ mn2 ∧ w.heap.size ≤ it
  ne2 : mh2 ≠ mn2
  bel : Below w.heap.size w W
section
variable {F : Nat → Prop} {w W W' : World} {rb : Nat} {R : List Rg} {B : St → List ByteArray} {mh mn : Nat} {E : List (St × Value)} {rb2 mh2 mn2 : Nat} {it : Nat} {ex : Option St} {Q E2 : List (St × Value)}
theorem ClS.below (h : ClS F w rb R B mh mn E rb2 mh2 mn2 it ex Q E2 W) (hb : Below W.heap.size W W') : ClS F w rb R B mh mn E rb2 mh2 mn2 it ex Q E2 W' where
  src := h.src.below hb
  slt := h.slt
  iter := h.iter.below hb
  rsub := h.rsub
  rnod := h.rnod
  row2 := (hb.block _ (row_lt h.row2)).trans h.row2
  hm2 := h.hm2.keep (hb.block _ h.hm2.lt)
  nm2 := h.nm2.keep (hb.block _ h.nm2.lt)
  nod2 := h.nod2
  own2 := fun x hx => (h.own2 x hx).below hb
  nem2 := h.nem2
  key := h.key
  new := h.new
  dis2 := h.dis2
  lo := h.lo
  ne2 := h.ne2
  bel := h.bel.trans (hb.mono h.bel.size)
theorem ClS.done (h : ClS F w rb R B mh mn E rb2 mh2 mn2 it none [] E2 W) : RegIs (fun k => w.heap.size ≤ k ∧ k < W.heap.size) W rb2 R B mh2 mn2 E2 where
  row := h.row2
  hm := h.hm2
  srt := h.src.srt
  nm := h.nm2
  nod := h.nod2
  own := fun x hx => (h.own2 x hx).low (Nat.zero_le _)
  no := fun a ha => h.src.no a fun x hx e => by
    rcases h.key a ⟨x, hx, e⟩ with ⟨y, hy, _⟩ | ⟨y, hy, e2⟩ | h3
    · cases hy
    · exact ha y hy e2
    · cases h3
  nem := h.nem2
  bn := h.src.bn
  ne := h.ne2
  fr := ⟨h.lo.1, row_lt h.row2⟩
  fa := ⟨h.lo.2.1, h.hm2.lt⟩
  fb := ⟨h.lo.2.2.1, h.nm2.lt⟩
  fe := fun x hx k e => (h.own2 x hx).lt k e
  dis := h.dis2
  lt := fun k hk => hk.2
theorem iter_obj (h : IterIs Prod.fst Prod.snd W mn it E Q) : ∃ o : Obj, W.heap[it]? = some o ∧ o.isWalk = true := h.walk
/-- The range's own block changes: one of those that are left comes. -/
theorem ClS.next {Q1 Q2 : List (St × Value)} {x : St × Value} (h : ClS F w rb R B mh mn E rb2 mh2 mn2 it none Q E2 W) (hQ : Q = Q1 ++ x :: Q2) (hI : IterIs Prod.fst Prod.snd W' mn it E (Q1 ++ Q2)) (hg : W.grownBy W' (some it)) (hz : W'.heap.size = W.heap.size) :
    ClS F w rb R B mh mn E rb2 mh2 mn2 it (some x.1) (Q1 ++ Q2) E2 W' ∧ x ∈ E ∧ (∀ y ∈ E2, y.1 ≠ x.1) := by
  have hk : ∀ k, k < W.heap.size → k ≠ it → W'.heap[k]? = W.heap[k]? := fun k hk hne => hg.block k hk fun e => hne (Option.some.inj e)
  have hlo := h.lo.2.2.2
  obtain ⟨_, _, _, _, _, hoi, _⟩ := h.iter
  have hc : ∀ k cs T fr, W.heap[k]? = some (Obj.cells cs T fr) → W'.heap[k]? = W.heap[k]? := fun k cs T fr e => hk k (row_lt e) (fun e2 => by
    subst e2
    rw [hoi] at e
    cases e)
  have hm : ∀ k es cl, W.heap[k]? = some (Obj.map es cl) → W'.heap[k]? = W.heap[k]? := fun k es cl e => hk k (row_lt e) (fun e2 => by
    subst e2
    rw [hoi] at e
    cases e)
  have hmem : ∀ y, y ∈ Q1 ++ Q2 → y ∈ Q := fun y hy => by
    rw [hQ]
    rcases List.mem_append.1 hy with h | h
    · exact List.mem_append_left _ h
    · exact List.mem_append_right _ (List.mem_cons_of_mem _ h)
  have hx : x ∈ Q := by rw [hQ]; simp
  refine ⟨⟨h.src.keep ⟨by rw [hz]; exact Nat.le_refl _, fun k hF => hk k (h.src.lt k hF) (fun e => by have := h.slt k hF; omega)⟩, h.slt, hI, fun y hy => h.rsub y (hmem y hy), ?_, (hc _ _ _ _ h.row2).trans h.row2, ?_, ?_, h.nod2, fun y hy => ?_, h.nem2, fun a ha => ?_, fun y hy => h.new y (hmem y hy), h.dis2, h.lo, h.ne2, h.bel.grown hg h.bel.size (fun k e => by cases e; exact hlo)⟩, h.rsub x hx, fun y hy e => h.new x hx y hy e.symm⟩
  · have := h.rnod
    rw [hQ] at this
    simp only [List.map_append, List.map_cons] at this ⊢
    exact this.sublist (List.Sublist.append_left (List.sublist_cons_self _ _) _)
  · obtain ⟨D, ⟨es, cl, h1, h2⟩, h3⟩ := h.hm2
    exact ⟨D, ⟨es, cl, (hm _ _ _ h1).trans h1, h2⟩, h3⟩
  · obtain ⟨es, cl, h1, h2⟩ := h.nm2
    exact ⟨es, cl, (hm _ _ _ h1).trans h1, h2⟩
  · exact (h.own2 y hy).keep fun k e => by
      obtain ⟨cur, hcur⟩ := ownsRow_type (h.own2 y hy) k e
      exact hc _ _ _ _ hcur
  · rcases h.key a ha with ⟨y, hy, e⟩ | h2 | h2
    · rw [hQ] at hy
      rcases List.mem_append.1 hy with h3 | h3
      · exact .inl ⟨y, List.mem_append_left _ h3, e⟩
      · rcases List.mem_cons.1 h3 with rfl | h3
        · exact .inr (.inr (by rw [e]))
        · exact .inl ⟨y, List.mem_append_right _ h3, e⟩
    · exact .inr (.inl h2)
    · cases h2
/-- Its names are stored. -/
theorem ClS.put {x : St × Value} {v : Value} {Wp : World} (h : ClS F w rb R B mh mn E rb2 mh2 mn2 it (some x.1) Q E2 Wp) (hb : Below Wp.heap.size Wp W) (hv : OwnNm Wp.heap.size W v (B x.1)) (hx : x ∈ E) (h2 : ∀ y ∈ E2, y.1 ≠ x.1) :
    ∃ W', (Instr.mapUpdate 62 (.map (some mn2)) (stV x.1) v).run Try.prog W = .ok () W' ∧ W.grownBy W' (some mn2) ∧ ((∀ y ∈ Q, y.1 ≠ x.1) → ClS F w rb R B mh mn E rb2 mh2 mn2 it none Q (E2 ++ [(x.1, v)]) W') := by
  have hc := h.below hb
  obtain ⟨W', hr, hg, hz, hor⟩ := store_st 62 72 uNames hc.nm2 ((x.1, v) : St × Value)
  have hn : getP Prod.fst E2 x.1 = none := List.find?_eq_none.2 fun y hy => by simpa using h2 y hy
  have hmap : MapIs Prod.fst Prod.snd W' mn2 (E2 ++ [(x.1, v)]) := by
    rcases hor with ⟨_, h3⟩ | ⟨y, j, h3, _⟩
    · exact h3
    · rw [show getP Prod.fst E2 ((x.1, v) : St × Value).1 = getP Prod.fst E2 x.1 from rfl, hn] at h3; cases h3
  refine ⟨W', hr, hg, fun hq => ?_⟩
  have hk : ∀ k, k < W.heap.size → k ≠ mn2 → W'.heap[k]? = W.heap[k]? := fun k hk hne => hg.block k hk fun e => hne (Option.some.inj e)
  obtain ⟨es2, cl2, hm2, _⟩ := hc.nm2
  have hcc : ∀ k cs T fr, W.heap[k]? = some (Obj.cells cs T fr) → W'.heap[k]? = W.heap[k]? := fun k cs T fr e => hk k (row_lt e) (fun e2 => by
    subst e2
    rw [hm2] at e
    cases e)
  obtain ⟨_, _, _, _, _, hoi, _⟩ := hc.iter
  have hit : W'.heap[it]? = W.heap[it]? := hk it (row_lt hoi) (fun e2 => by
    subst e2
    rw [hoi] at hm2
    cases hm2)
  have hlo := hc.lo
  have hmn : mn < w.heap.size := hc.slt _ hc.src.fb
  have hrow : ∀ y ∈ E2, OwnNm w.heap.size W' y.2 (B y.1) := fun y hy => (hc.own2 y hy).keep fun k e => by
    obtain ⟨cur, hcur⟩ := ownsRow_type (hc.own2 y hy) k e
    exact hcc _ _ _ _ hcur
  have hvo : OwnNm w.heap.size W' v (B x.1) := (hv.low h.bel.size).keep fun k e => by
    obtain ⟨cur, hcur⟩ := ownsRow_type hv k e
    exact hcc _ _ _ _ hcur
  refine ⟨hc.src.keep ⟨by rw [hz]; exact Nat.le_refl _, fun k hF => hk k (hc.src.lt k hF) (fun e => by have := hc.slt k hF; omega)⟩, hc.slt, hc.iter.keep (hk mn (hc.src.nm.lt) (by omega)) hit, hc.rsub, hc.rnod, (hcc _ _ _ _ hc.row2).trans hc.row2, hc.hm2.keep (hk _ hc.hm2.lt hc.ne2), hmap, ?_, fun y hy => ?_, fun y hy => ?_, fun a ha => ?_, fun y hy z hz2 => ?_, fun y hy z hz2 hne k e => ?_, hc.lo, hc.ne2, hc.bel.grown hg hc.bel.size (fun k e => by cases e; exact hlo.2.2.1)⟩
  · rw [List.map_append, List.nodup_append]
    refine ⟨hc.nod2, by simp, fun a ha b hb2 e => ?_⟩
    obtain ⟨y, hy, rfl⟩ := List.mem_map.1 ha
    simp at hb2
    exact h2 y hy (by rw [e, hb2])
  · rcases List.mem_append.1 hy with h3 | h3
    · exact hrow y h3
    · simp at h3; subst h3; exact hvo
  · rcases List.mem_append.1 hy with h3 | h3
    · exact hc.nem2 y h3
    · simp at h3; subst h3; exact hc.src.nem x hx
  · rcases hc.key a ha with h3 | ⟨y, hy, e⟩ | h3
    · exact .inl h3
    · exact .inr (.inl ⟨y, List.mem_append_left _ hy, e⟩)
    · cases h3; exact .inr (.inl ⟨(x.1, v), by simp, rfl⟩)
  · rcases List.mem_append.1 hz2 with h3 | h3
    · exact hc.new y hy z h3
    · simp at h3; subst h3; exact hq y hy
  · have fresh : ∀ y ∈ E2, ∀ k, y.2.ownBlock = some k → v.ownBlock ≠ some k := fun y hy k e e2 => by
      have h3 := (h.own2 y hy).lt k e
      have h4 := hv.lt k e2
      omega
    rcases List.mem_append.1 hy with h3 | h3 <;> rcases List.mem_append.1 hz2 with h4 | h4
    · exact hc.dis2 y h3 z h4 hne k e
    · simp at h4; subst h4; exact fresh y h3 k e
    · simp at h3; subst h3; exact fun e2 => fresh z h4 k e2 e
    · simp at h3 h4; subst h3; subst h4; exact absurd rfl hne
end

end Go.Proofs.Ytoljacnipkibiaa
