/- An entry of the map of names that is opened and stored into. -/
import Derived.Test.YtecliogffcnfiaaLwA
namespace Go.Proofs.Ytecliogffcnfiaa
open Go.RowKit
set_option linter.unusedVariables false
set_option linter.unusedSimpArgs false

theorem key_modify (l : List MapEntry) (D : List (St × Value)) (j : Nat) (x : St × Value) (h : l.map entE = D.map (entV Prod.fst Prod.snd)) (hj : D[j]? = some x) : (l.modify j fun e => { e with key := stV x.1 }).map entE = D.map (entV Prod.fst Prod.snd) := by
  induction l generalizing D j with
  | nil => simpa using h
  | cons e t ih =>
    cases D with
    | nil => simp at h
    | cons z D =>
      simp only [List.map_cons, List.cons.injEq] at h
      cases j with
      | zero =>
        have hz : z = x := by simpa using hj
        subst hz
        have h1 := h.1
        simp only [entE, entV, Prod.mk.injEq] at h1
        simp [h.2, entE, entV, h1.2]
      | succ j => simp [h.1, ih D j h.2 (by simpa using hj)]
theorem born_key (l : List MapEntry) (j : Nat) (k : Value) : (l.modify j fun e => { e with key := k }).map (·.born) = l.map (·.born) := by
  induction l generalizing j with
  | nil => simp
  | cons x t ih => cases j <;> simp_all
theorem born_val (l : List MapEntry) (j : Nat) (k : Value) : (l.modify j fun e => { e with val := k }).map (·.born) = l.map (·.born) := by
  induction l generalizing j with
  | nil => simp
  | cons x t ih => cases j <;> simp_all
theorem val_modify (l : List MapEntry) (D : List (St × Value)) (j : Nat) (x : St × Value) (n : Value) (h : l.map entE = D.map (entV Prod.fst Prod.snd)) (hj : D[j]? = some x) : (l.modify j fun e => { e with val := n }).map entE = (D.set j (x.1, n)).map (entV Prod.fst Prod.snd) := by
  induction l generalizing D j with
  | nil =>
    have : D = [] := by simpa using h.symm
    subst this
    simp at hj
  | cons e t ih =>
    cases D with
    | nil => simp at h
    | cons z D =>
      simp only [List.map_cons, List.cons.injEq] at h
      cases j with
      | zero =>
        have hz : z = x := by simpa using hj
        subst hz
        have h1 := h.1
        simp only [entE, entV, Prod.mk.injEq] at h1
        simp [h.2, entE, entV, h1.1]
      | succ j => simp [h.1, ih D j h.2 (by simpa using hj)]
theorem findIdx_born {es : Array MapEntry} {j t : Nat} (hn : (es.toList.map (·.born)).Nodup) (hj : (es.toList[j]?).map (·.born) = some t) : es.findIdx? (fun e => (e.born : Int) == (t : Int)) = some j := by
  have hjl : j < es.toList.length := by
    rcases Nat.lt_or_ge j es.toList.length with h | h
    · exact h
    · rw [List.getElem?_eq_none h] at hj; cases hj
  have hjs : j < es.size := by simpa using hjl
  rw [List.getElem?_eq_getElem hjl] at hj
  simp only [Option.map_some, Option.some.injEq] at hj
  rw [Array.findIdx?_eq_some_iff_getElem]
  have hj2 : es[j].born = t := by simpa using hj
  refine ⟨hjs, by simp [hj2], fun i hi => ?_⟩
  have := List.pairwise_iff_getElem.1 hn i j (by simp; omega) (by simpa using hjs) hi
  simp only [List.getElem_map, Array.getElem_toList] at this
  rw [hj2] at this
  simp only [Bool.not_eq_true, beq_eq_false_iff_ne, ne_eq, Int.natCast_inj]
  exact this
/-- The entry number j, of a stamp, born at a time, of the map in a block. -/
def EntIs (w : World) (b : Nat) (E : List (St × Value)) (j : Nat) (t : Nat) : Prop := ∃ (es : Array MapEntry) (clock : Nat), w.heap[b]? = some (.map es clock) ∧ MapE Prod.fst Prod.snd es clock E ∧ (es.toList[j]?).map (·.born) = some t
theorem EntIs.map {w : World} {b : Nat} {E : List (St × Value)} {j t : Nat} (h : EntIs w b E j t) : MapIs Prod.fst Prod.snd w b E := by
  obtain ⟨es, clock, h1, h2, h3⟩ := h
  exact ⟨es, clock, h1, h2⟩
theorem EntIs.keep {w w' : World} {b : Nat} {E : List (St × Value)} {j t : Nat} (h : EntIs w b E j t) (hk : w'.heap[b]? = w.heap[b]?) : EntIs w' b E j t := by
  obtain ⟨es, clock, h1, h2⟩ := h
  exact ⟨es, clock, hk.trans h1, h2⟩
/-- A look at an entry, which is made where there is none. -/
theorem entry_st {w : World} {b : Nat} {E : List (St × Value)} (h : MapIs Prod.fst Prod.snd w b E) (s : St) : ∃ (t : Nat) (w' : World) (E' : List (St × Value)) (j : Nat), (Instr.mapEntry 49 (.map (some b)) (stV s)).run Try.prog w = .ok (.tuple #[vN E s, goInt (t : Int)]) w' ∧ w.grownBy w' (some b) ∧ w'.heap.size = w.heap.size ∧ EntIs w' b E' j t ∧ E'[j]? = some (s, vN E s) ∧ ((E' = E ∧ getP Prod.fst E s = some (s, vN E s)) ∨ (E' = E ++ [(s, .slice none 0 0)] ∧ getP Prod.fst E s = none)) := by
  obtain ⟨es, clock, hb, he⟩ := h
  have hg : (getObj b).run Try.prog w = .ok (.map es clock) w := MapKept.run_getObj_map hb
  have hlen : es.toList.length = E.length := by have := congrArg List.length he.ent; simpa using this
  rcases find_st (ky := Prod.fst) (vl := Prod.snd) s w es.toList E he.ent with ⟨h1, h2⟩ | ⟨x, j, h1, h3, h2⟩
  · have hv : vN E s = .slice none 0 0 := by unfold vN; rw [h1]
    refine ⟨clock, ChangeMaps.setBlock w b (.map (es.push { key := stV s, val := .slice none 0 0, born := clock }) (clock + 1)), E ++ [(s, .slice none 0 0)], E.length, ?_, ⟨rfl, rfl, rfl, by simp [ChangeMaps.setBlock], fun i _ hi => ChangeMaps.heap_setBlock_other hb _ (fun e => hi (by rw [e]))⟩, by simp [ChangeMaps.setBlock], ?_, by rw [hv]; simp, .inr ⟨rfl, h1⟩⟩
    · rw [hv]
      simp [Instr.mapEntry, run_underlying uNames, hg, checkSt, h2, zeroNmV, MapKept.run_setObj_map _ hb, Result.andThen]
      try rfl
    · refine ⟨_, _, ChangeMaps.heap_setBlock_same hb _, ⟨by simp [he.ent, entE, entV], ?_, ?_⟩, ?_⟩
      · rw [Array.toList_push, List.map_append, List.nodup_append]
        refine ⟨he.nod, by simp, fun a ha b hb => ?_⟩
        obtain ⟨x, hx, rfl⟩ := List.mem_map.1 ha
        have := he.old x hx
        simp at hb
        omega
      · intro x hx
        rw [Array.toList_push, List.mem_append] at hx
        rcases hx with hx | hx
        · have := he.old x hx; omega
        · simp at hx; rw [hx]; exact Nat.lt_succ_self _
      · rw [Array.toList_push, ← hlen]
        simp
  · have hjl : j < E.length := (List.getElem?_eq_some_iff.1 h3).1
    have hjs : j < es.size := by simp at hlen; omega
    have hkx : x.1 = s := by simpa [getP] using List.find?_some h1
    have hv : vN E s = x.2 := by unfold vN; rw [h1]
    have hkey : es[j].key = stV s := by
      have := congrArg (fun l => l[j]?) he.ent
      simp only [List.getElem?_map] at this
      rw [List.getElem?_eq_getElem (by simpa using hjs), h3] at this
      simp only [Option.map_some, Option.some.injEq, entE, entV, Prod.mk.injEq] at this
      rw [← hkx, ← this.1]
      simp
    have hx2 : (s, vN E s) = x := by rw [hv, ← hkx]
    refine ⟨es[j].born, ChangeMaps.setBlock w b (.map (es.modify j fun e => { e with key := stV s }) clock), E, j, ?_, ⟨rfl, rfl, rfl, by simp [ChangeMaps.setBlock], fun i _ hi => ChangeMaps.heap_setBlock_other hb _ (fun e => hi (by rw [e]))⟩, by simp [ChangeMaps.setBlock], ?_, by rw [hx2]; exact h3, .inl ⟨rfl, by rw [hx2]; exact h1⟩⟩
    · have hks : (Instr.keyThatStays es[j].key (stV s)).run Try.prog w = .ok (stV s) w := by
        rw [hkey]
        unfold Instr.keyThatStays
        rw [sameBits_st, if_pos rfl]
        rfl
      rw [hv]
      simp [Instr.mapEntry, run_underlying uNames, hg, checkSt, h2, hjs, hks, MapKept.run_setObj_map _ hb, Result.andThen]
      try rfl
    · refine ⟨_, clock, ChangeMaps.heap_setBlock_same hb _, ⟨?_, ?_, ?_⟩, ?_⟩
      · rw [Array.toList_modify, ← hkx]
        exact key_modify es.toList E j x he.ent h3
      · rw [Array.toList_modify, born_key]
        exact he.nod
      · intro e hx
        have : e.born ∈ es.toList.map (·.born) := by
          rw [← born_key es.toList j (stV s), ← Array.toList_modify]
          exact List.mem_map_of_mem hx
        obtain ⟨e', he', e2⟩ := List.mem_map.1 this
        rw [← e2]
        exact he.old e' he'
      · rw [Array.toList_modify, ← List.getElem?_map, born_key, List.getElem?_map, List.getElem?_eq_getElem (by simpa using hjs)]
        simp
theorem EntIs.store {w : World} {b : Nat} {E : List (St × Value)} {j t : Nat} {x : St × Value} (h : EntIs w b E j t) (hx : E[j]? = some x) (v : Value) : ∃ w', (Instr.entryStore 49 (.map (some b)) (goInt (t : Int)) v).run Try.prog w = .ok () w' ∧ w.grownBy w' (some b) ∧ w'.heap.size = w.heap.size ∧ MapIs Prod.fst Prod.snd w' b (E.set j (x.1, v)) := by
  obtain ⟨es, clock, hb, he, hbo⟩ := h
  have hg : (getObj b).run Try.prog w = .ok (.map es clock) w := MapKept.run_getObj_map hb
  have hfi := findIdx_born he.nod hbo
  refine ⟨ChangeMaps.setBlock w b (.map (es.modify j fun e => { e with val := v }) clock), ?_, ⟨rfl, rfl, rfl, by simp [ChangeMaps.setBlock], fun i _ hi => ChangeMaps.heap_setBlock_other hb _ (fun e => hi (by rw [e]))⟩, by simp [ChangeMaps.setBlock], ?_⟩
  · unfold Instr.entryStore
    simp only [Sem.run_bind, hg, Result.andThen_ok]
    have ha : (asInt (goInt (t : Int))).run Try.prog w = .ok (t : Int) w := rfl
    simp only [ha, Result.andThen_ok, hfi]
    exact MapKept.run_setObj_map _ hb
  · refine ⟨_, clock, ChangeMaps.heap_setBlock_same hb _, ⟨?_, ?_, ?_⟩⟩
    · rw [Array.toList_modify]
      exact val_modify es.toList E j x v he.ent hx
    · rw [Array.toList_modify, born_val]
      exact he.nod
    · intro e hx
      have : e.born ∈ es.toList.map (·.born) := by
        rw [← born_val es.toList j v, ← Array.toList_modify]
        exact List.mem_map_of_mem hx
      obtain ⟨e', he', e2⟩ := List.mem_map.1 this
      rw [← e2]
      exact he.old e' he'
section
variable {F : Nat → Prop} {w w' : World} {rb : Nat} {R : List Rg} {B : St → List ByteArray} {mh mn : Nat} {E : List (St × Value)}
/-- What stands while an entry of the names is open. -/
structure OpenN (F : Nat → Prop) (w : World) (rb : Nat) (R : List Rg) (B : St → List ByteArray) (mh mn : Nat) (E : List (St × Value)) (a : St) (t : Nat) (w1 : World) : Prop where
  is : RegIs F w rb R B mh mn E
  ent : ∃ E' j, EntIs w1 mn E' j t ∧ E'[j]? = some (a, vN E a) ∧ ((E' = E ∧ getP Prod.fst E a = some (a, vN E a)) ∨ (E' = E ++ [(a, .slice none 0 0)] ∧ getP Prod.fst E a = none))
  to : w.grownBy w1 (some mn)
theorem RegIs.openN (h : RegIs F w rb R B mh mn E) (a : St) : ∃ (t : Nat) (w1 : World), (Instr.mapEntry 49 (.map (some mn)) (stV a)).run Try.prog w = .ok (.tuple #[vN E a, goInt (t : Int)]) w1 ∧ OpenN F w rb R B mh mn E a t w1 := by
  obtain ⟨t, w1, E', j, h1, h2, h3, h4, h5, h6⟩ := entry_st h.nm a
  exact ⟨t, w1, h1, h, ⟨E', j, h4, h5, h6⟩, h2⟩
theorem OpenN.size {a : St} {t : Nat} {w1 : World} (h : OpenN F w rb R B mh mn E a t w1) : w.heap.size ≤ w1.heap.size := h.to.size
theorem OpenN.blk {a : St} {t : Nat} {w1 : World} (h : OpenN F w rb R B mh mn E a t w1) {k : Nat} (hk : k < w.heap.size) (hn : k ≠ mn) : w1.heap[k]? = w.heap[k]? := h.to.block k hk (fun e => hn (by cases e; rfl))
theorem OpenN.own {a : St} {t : Nat} {w1 : World} (h : OpenN F w rb R B mh mn E a t w1) : OwnNm 0 w1 (vN E a) (B a) := (h.is.ownN a).keep fun k e => h.blk ((h.is.ownN a).lt k e).2 (h.is.apart (h.is.ownN a) e).2.2
theorem OpenN.below {a : St} {t : Nat} {w1 w2 : World} (h : OpenN F w rb R B mh mn E a t w1) (hb : Below w1.heap.size w1 w2) : OpenN F w rb R B mh mn E a t w2 := by
  obtain ⟨E', j, e1, e2, e3⟩ := h.ent
  exact ⟨h.is, ⟨E', j, e1.keep (hb.block mn e1.map.lt), e2, e3⟩, ⟨hb.os.trans h.to.os, hb.tape.trans h.to.tape, hb.output.trans h.to.output, Nat.le_trans h.to.size hb.size, fun k hk hn => (hb.block k (Nat.lt_of_lt_of_le hk h.to.size)).trans (h.to.block k hk hn)⟩⟩
/-- What is stored into it behind an append. -/
theorem OpenN.store {a : St} {t : Nat} {w1 w2 : World} (h : OpenN F w rb R B mh mn E a t w1) {v' : Value} {l' : List ByteArray} (hg : w1.grownBy w2 (vN E a).ownBlock) (ho : OwnNm 0 w2 v' l') (hl : l' ≠ []) (hn : l'.Nodup) (hv : v'.ownBlock = (vN E a).ownBlock ∨ ∃ k, v'.ownBlock = some k ∧ w.heap.size ≤ k) :
    ∃ w3 E2, (Instr.entryStore 49 (.map (some mn)) (goInt (t : Int)) v').run Try.prog w2 = .ok () w3 ∧ RegIs (fun k => F k ∨ v'.ownBlock = some k) w3 rb R (updN B a l') mh mn E2 ∧ Touch F w w3 ∧ w2.grownBy w3 (some mn) := by
  have hi := h.is
  have hap := fun {k : Nat} (e : (vN E a).ownBlock = some k) => hi.apart (hi.ownN a) e
  obtain ⟨E', j, he1, he2, he3⟩ := h.ent
  have hmb1 : w2.heap[mn]? = w1.heap[mn]? := hg.block mn he1.map.lt (fun e => (hap e.symm).2.2 rfl)
  obtain ⟨w3, r1, r2, r3, r4⟩ := (he1.keep hmb1).store he2 v'
  have hb2 : ∀ k, k < w2.heap.size → k ≠ mn → w3.heap[k]? = w2.heap[k]? := fun k hk hne => r2.block k hk (fun e => hne (by cases e; rfl))
  have hlt : ∀ k, F k → k < w1.heap.size := fun k hk => Nat.lt_of_lt_of_le (hi.lt k hk) h.size
  have hb3 : ∀ k, F k → k ≠ mn → (vN E a).ownBlock ≠ some k → w3.heap[k]? = w.heap[k]? := fun k hk h1 h2 => ((hb2 k (Nat.lt_of_lt_of_le (hlt k hk) hg.size) h1).trans (hg.block k (hlt k hk) (fun e => h2 e.symm))).trans (h.blk (hi.lt k hk) h1)
  have hvmb : v'.ownBlock ≠ some mn := fun e => by
    rcases hv with hv | ⟨k, hv, hk⟩
    · exact (hap (hv ▸ e)).2.2 rfl
    · rw [e] at hv; cases hv; have := hi.lt _ hi.fb; omega
  have ho2 : OwnNm 0 w3 v' l' := ho.keep fun k e => hb2 k (ho.lt k e).2 (fun e2 => hvmb (e2 ▸ e))
  have hEo : ∀ x ∈ E, x.1 ≠ a → OwnNm 0 w3 x.2 (B x.1) := fun x hx hne => (hi.own x hx).keep fun k e => hb3 k (hi.fe x hx k e) (hi.apart (hi.own x hx) e).2.2 (fun e2 => (hi.inN e2).2 x hx hne e)
  have hvx : ∀ x ∈ E, x.1 ≠ a → ∀ k, v'.ownBlock = some k → x.2.ownBlock ≠ some k := fun x hx hne k e e2 => by
    rcases hv with hv | ⟨k', hv, hk⟩
    · exact (hi.inN (hv ▸ e)).2 x hx hne e2
    · rw [e] at hv; cases hv; have := hi.lt _ (hi.fe x hx _ e2); omega
  have hE : (∀ z, z ∈ E'.set j (a, v') ↔ z = (a, v') ∨ (z ∈ E ∧ z.1 ≠ a)) ∧ ((E'.set j (a, v')).map Prod.fst).Nodup := by
    rcases he3 with ⟨rfl, q⟩ | ⟨rfl, q⟩
    · exact set_memF (f := Prod.fst) hi.nod (y := (a, v')) he2 rfl
    · have hno := getE_none q
      have hnd : ((E ++ [(a, Value.slice none 0 0)]).map Prod.fst).Nodup := by
        rw [List.map_append, List.nodup_append]
        refine ⟨hi.nod, by simp, fun u hu v hv => ?_⟩
        obtain ⟨x, hx, rfl⟩ := List.mem_map.1 hu
        simp at hv
        rw [hv]
        exact hno x hx
      obtain ⟨s1, s2⟩ := set_memF (f := Prod.fst) hnd (y := (a, v')) he2 rfl
      refine ⟨fun z => (s1 z).trans ?_, s2⟩
      rw [List.mem_append, List.mem_singleton]
      constructor
      · rintro (h | ⟨h | h, h2⟩)
        · exact .inl h
        · exact .inr ⟨h, h2⟩
        · rw [h] at h2; exact absurd rfl h2
      · rintro (h | ⟨h, h2⟩)
        · exact .inl h
        · exact .inr ⟨.inl h, h2⟩
  obtain ⟨m2, m3⟩ := hE
  refine ⟨w3, E'.set j (a, v'), r1, ?_, ?_, r2⟩
  · exact {
      row := (hb3 rb hi.fr hi.rmm.2 (fun e => (hap e).1 rfl)).trans hi.row
      hm := hi.hm.keep (hb3 mh hi.fa hi.ne (fun e => (hap e).2.1 rfl))
      srt := hi.srt
      nm := r4
      nod := m3
      own := fun x hx => by
        rcases (m2 x).1 hx with rfl | ⟨hx, hne⟩
        · unfold updN; rw [if_pos rfl]; exact ho2
        · unfold updN; rw [if_neg hne]; exact hEo x hx hne
      no := fun s hs => by
        have hsa : s ≠ a := fun e => hs (a, v') ((m2 _).2 (.inl rfl)) e.symm
        unfold updN
        rw [if_neg hsa]
        exact hi.no s fun x hx e => hs x ((m2 x).2 (.inr ⟨hx, by rw [e]; exact hsa⟩)) e
      nem := fun x hx => by
        rcases (m2 x).1 hx with rfl | ⟨hx, hne⟩
        · unfold updN; rw [if_pos rfl]; exact hl
        · unfold updN; rw [if_neg hne]; exact hi.nem x hx
      bn := fun s => by
        unfold updN
        split
        · exact hn
        · exact hi.bn s
      ne := hi.ne
      fr := .inl hi.fr
      fa := .inl hi.fa
      fb := .inl hi.fb
      fe := fun x hx k e => by
        rcases (m2 x).1 hx with rfl | ⟨hx, hne⟩
        · exact .inr e
        · exact .inl (hi.fe x hx k e)
      dis := fun x hx y hy hne k e e2 => by
        rcases (m2 x).1 hx with rfl | ⟨hx, hx2⟩ <;> rcases (m2 y).1 hy with rfl | ⟨hy, hy2⟩
        · exact hne rfl
        · exact hvx y hy hy2 k e e2
        · exact hvx x hx hx2 k e2 e
        · exact hi.dis x hx y hy hne k e e2
      lt := fun k hk => by
        rw [r3]
        rcases hk with hk | hk
        · exact Nat.lt_of_lt_of_le (hlt k hk) hg.size
        · exact (ho.lt k hk).2 }
  · refine ⟨r2.os.trans (hg.os.trans h.to.os), r2.tape.trans (hg.tape.trans h.to.tape), r2.output.trans (hg.output.trans h.to.output), by rw [r3]; exact Nat.le_trans h.size hg.size, fun k hk hF => ?_⟩
    have hkm : k ≠ mn := fun e => hF (e ▸ hi.fb)
    exact ((hb2 k (Nat.lt_of_lt_of_le hk (Nat.le_trans h.size hg.size)) hkm).trans (hg.block k (Nat.lt_of_lt_of_le hk h.size) (fun e => hF (hi.inN e.symm).1))).trans (h.blk hk hkm)
end
end Go.Proofs.Ytecliogffcnfiaa
