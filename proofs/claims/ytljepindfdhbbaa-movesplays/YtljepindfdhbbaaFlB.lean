/- An entry of the map of kids that is opened and stored into. -/
import Derived.Test.YtljepindfdhbbaaFlA
namespace Go.Proofs.Ytljepindfdhbbaa
open Go.RowKit
set_option linter.unusedVariables false
set_option linter.unusedSimpArgs false

/-- The entry of a stamp is there, born at a time. -/
def KEnt (w : World) (b : Nat) (f : St → Int) (s : St) (t : Nat) : Prop := ∃ (es : Array MapEntry) (clock : Nat) (E : List (St × Int)) (j : Nat), w.heap[b]? = some (.map es clock) ∧ MapE Prod.fst kdV es clock E ∧ (E.map Prod.fst).Nodup ∧ (∀ s, (match getP Prod.fst E s with | some x => x.2 | none => 0) = f s) ∧ E[j]? = some (s, f s) ∧ (es.toList[j]?).map (·.born) = some t
theorem KEnt.map {w : World} {b : Nat} {f : St → Int} {s : St} {t : Nat} (h : KEnt w b f s t) : KMap w b f := by
  obtain ⟨es, clock, E, j, h1, h2, h3, h4, _⟩ := h
  exact ⟨E, ⟨es, clock, h1, h2⟩, h3, h4⟩
theorem KEnt.keep {w w' : World} {b : Nat} {f : St → Int} {s : St} {t : Nat} (h : KEnt w b f s t) (hk : w'.heap[b]? = w.heap[b]?) : KEnt w' b f s t := by
  obtain ⟨es, clock, E, j, h1, h2⟩ := h
  exact ⟨es, clock, E, j, hk.trans h1, h2⟩
theorem key_modify (l : List MapEntry) (D : List (St × Int)) (j : Nat) (x : St × Int) (h : l.map entE = D.map (entV Prod.fst kdV)) (hj : D[j]? = some x) : (l.modify j fun e => { e with key := stV x.1 }).map entE = D.map (entV Prod.fst kdV) := by
  induction l generalizing D j with
  | nil => simpa using h
  | cons e t ih =>
    cases D with
    | nil => simp at h
    | cons z D =>
      simp only [List.map_cons, List.cons.injEq] at h
      cases j with
      | zero =>
        have hz : z = x := by simpa using hj
        subst hz
        have h1 := h.1
        simp only [entE, entV, Prod.mk.injEq] at h1
        simp [h.2, entE, entV, h1.2]
      | succ j => simp [h.1, ih D j h.2 (by simpa using hj)]
theorem born_key (l : List MapEntry) (j : Nat) (k : Value) : (l.modify j fun e => { e with key := k }).map (·.born) = l.map (·.born) := by
  induction l generalizing j with
  | nil => simp
  | cons x t ih => cases j <;> simp_all
theorem born_val (l : List MapEntry) (j : Nat) (k : Value) : (l.modify j fun e => { e with val := k }).map (·.born) = l.map (·.born) := by
  induction l generalizing j with
  | nil => simp
  | cons x t ih => cases j <;> simp_all
theorem KMap.entry {w : World} {b : Nat} {f : St → Int} (h : KMap w b f) (s : St) : ∃ (t : Nat) (w' : World), (Instr.mapEntry 63 (.map (some b)) (stV s)).run Try.prog w = .ok (.tuple #[.int .i64 (f s), goInt (t : Int)]) w' ∧ w.grownBy w' (some b) ∧ w'.heap.size = w.heap.size ∧ KEnt w' b f s t := by
  obtain ⟨E, ⟨es, clock, hb, he⟩, hn, hf⟩ := h
  have hg : (getObj b).run Try.prog w = .ok (.map es clock) w := MapKept.run_getObj_map hb
  rcases find_st (ky := Prod.fst) (vl := kdV) s w es.toList E he.ent with ⟨h1, h2⟩ | ⟨x, j, h1, h3, h2⟩
  · have hfs : f s = 0 := by rw [← hf s, h1]
    refine ⟨clock, ChangeMaps.setBlock w b (.map (es.push { key := stV s, val := .int .i64 0, born := clock }) (clock + 1)), ?_, ⟨rfl, rfl, rfl, by simp [ChangeMaps.setBlock], fun i _ hi => ChangeMaps.heap_setBlock_other hb _ (fun e => hi (by rw [e]))⟩, by simp [ChangeMaps.setBlock], ?_⟩
    · rw [hfs]
      simp [Instr.mapEntry, run_underlying uKids, hg, checkSt, h2, zeroIntV, MapKept.run_setObj_map _ hb, Result.andThen]
      try rfl
    · have hno : ∀ x ∈ E, x.1 ≠ s := fun x hx => by simpa using List.find?_eq_none.1 h1 x hx
      have hn' : ((E ++ [(s, (0 : Int))]).map Prod.fst).Nodup := by
        rw [List.map_append, List.nodup_append]
        refine ⟨hn, by simp, fun u hu v hv => ?_⟩
        obtain ⟨x, hx, rfl⟩ := List.mem_map.1 hu
        simp at hv
        rw [hv]
        exact hno x hx
      have hlen : es.toList.length = E.length := by have := congrArg List.length he.ent; simpa using this
      refine ⟨_, _, E ++ [(s, 0)], E.length, ChangeMaps.heap_setBlock_same hb _, ⟨by simp [he.ent, entE, entV, kdV], ?_, ?_⟩, hn', fun t => ?_, by simp [hfs], ?_⟩
      · rw [Array.toList_push, List.map_append, List.nodup_append]
        refine ⟨he.nod, by simp, fun a ha b hb => ?_⟩
        obtain ⟨x, hx, rfl⟩ := List.mem_map.1 ha
        have := he.old x hx
        simp at hb
        omega
      · intro x hx
        rw [Array.toList_push, List.mem_append] at hx
        rcases hx with hx | hx
        · have := he.old x hx; omega
        · simp at hx; rw [hx]; exact Nat.lt_succ_self _
      · by_cases e : t = s
        · rw [e, hfs, getK_eq hn' (o := some (s, 0)) (fun x hx => by cases hx; exact ⟨by simp, rfl⟩) (fun h => by cases h)]
        · rw [← hf t]
          suffices e5 : getP Prod.fst (E ++ [(s, (0 : Int))]) t = getP Prod.fst E t by rw [e5]; (try (cases getP Prod.fst E t <;> rfl))
          refine getK_eq hn' (fun x hx => ?_) fun hx x hm e2 => ?_
          · exact ⟨by simp [List.mem_of_find?_eq_some hx], by simpa using List.find?_some hx⟩
          · rcases List.mem_append.1 hm with hm | hm
            · exact (by simpa using List.find?_eq_none.1 hx x hm : x.1 ≠ t) e2
            · simp at hm; rw [hm] at e2; exact e e2.symm
      · rw [Array.toList_push, ← hlen]
        simp
  · have hjl : j < E.length := (List.getElem?_eq_some_iff.1 h3).1
    have hlen : es.toList.length = E.length := by have := congrArg List.length he.ent; simpa using this
    have hjs : j < es.size := by simp at hlen; omega
    have hkx : x.1 = s := by simpa [getP] using List.find?_some h1
    have hfs : f s = x.2 := by rw [← hf s, h1]
    have hkey : es[j].key = stV s := by
      have := congrArg (fun l => l[j]?) he.ent
      simp only [List.getElem?_map] at this
      rw [List.getElem?_eq_getElem (by simpa using hjs), h3] at this
      simp only [Option.map_some, Option.some.injEq, entE, entV, Prod.mk.injEq] at this
      rw [← hkx, ← this.1]
      simp
    refine ⟨es[j].born, ChangeMaps.setBlock w b (.map (es.modify j fun e => { e with key := stV s }) clock), ?_, ⟨rfl, rfl, rfl, by simp [ChangeMaps.setBlock], fun i _ hi => ChangeMaps.heap_setBlock_other hb _ (fun e => hi (by rw [e]))⟩, by simp [ChangeMaps.setBlock], ?_⟩
    · have hks : (Instr.keyThatStays es[j].key (stV s)).run Try.prog w = .ok (stV s) w := by
        rw [hkey]
        unfold Instr.keyThatStays
        rw [sameBits_st, if_pos rfl]
        rfl
      rw [hfs]
      simp [Instr.mapEntry, run_underlying uKids, hg, checkSt, h2, hjs, hks, MapKept.run_setObj_map _ hb, Result.andThen, kdV]
      try rfl
    · refine ⟨_, clock, E, j, ChangeMaps.heap_setBlock_same hb _, ⟨?_, ?_, ?_⟩, hn, hf, by rw [h3, hfs, ← hkx], ?_⟩
      · rw [Array.toList_modify, ← hkx]
        exact key_modify es.toList E j x he.ent h3
      · rw [Array.toList_modify, born_key]
        exact he.nod
      · intro e hx
        have : e.born ∈ es.toList.map (·.born) := by
          rw [← born_key es.toList j (stV s), ← Array.toList_modify]
          exact List.mem_map_of_mem hx
        obtain ⟨e', he', e2⟩ := List.mem_map.1 this
        rw [← e2]
        exact he.old e' he'
      · rw [Array.toList_modify, ← List.getElem?_map, born_key, List.getElem?_map, List.getElem?_eq_getElem (by simpa using hjs)]
        simp
theorem val_modify (l : List MapEntry) (D : List (St × Int)) (j : Nat) (x : St × Int) (n : Int) (h : l.map entE = D.map (entV Prod.fst kdV)) (hj : D[j]? = some x) : (l.modify j fun e => { e with val := .int .i64 n }).map entE = (D.set j (x.1, n)).map (entV Prod.fst kdV) := by
  induction l generalizing D j with
  | nil =>
    have : D = [] := by simpa using h.symm
    subst this
    simp at hj
  | cons e t ih =>
    cases D with
    | nil => simp at h
    | cons z D =>
      simp only [List.map_cons, List.cons.injEq] at h
      cases j with
      | zero =>
        have hz : z = x := by simpa using hj
        subst hz
        have h1 := h.1
        simp only [entE, entV, Prod.mk.injEq] at h1
        simp [h.2, entE, entV, h1.1, kdV]
      | succ j => simp [h.1, ih D j h.2 (by simpa using hj)]
theorem findIdx_born {es : Array MapEntry} {j t : Nat} (hn : (es.toList.map (·.born)).Nodup) (hj : (es.toList[j]?).map (·.born) = some t) : es.findIdx? (fun e => (e.born : Int) == (t : Int)) = some j := by
  have hjl : j < es.toList.length := by
    rcases Nat.lt_or_ge j es.toList.length with h | h
    · exact h
    · rw [List.getElem?_eq_none h] at hj; cases hj
  have hjs : j < es.size := by simpa using hjl
  rw [List.getElem?_eq_getElem hjl] at hj
  simp only [Option.map_some, Option.some.injEq] at hj
  rw [Array.findIdx?_eq_some_iff_getElem]
  have hj2 : es[j].born = t := by simpa using hj
  refine ⟨hjs, by simp [hj2], fun i hi => ?_⟩
  have := List.pairwise_iff_getElem.1 hn i j (by simp; omega) (by simpa using hjs) hi
  simp only [List.getElem_map, Array.getElem_toList] at this
  rw [hj2] at this
  simp only [Bool.not_eq_true, beq_eq_false_iff_ne, ne_eq, Int.natCast_inj]
  exact this
theorem KEnt.store {w : World} {b : Nat} {f : St → Int} {s : St} {t : Nat} (h : KEnt w b f s t) (n : Int) : ∃ w', (Instr.entryStore 63 (.map (some b)) (goInt (t : Int)) (.int .i64 n)).run Try.prog w = .ok () w' ∧ w.grownBy w' (some b) ∧ w'.heap.size = w.heap.size ∧ KMap w' b (updK f s n) := by
  obtain ⟨es, clock, E, j, hb, he, hn, hf, h3, hbo⟩ := h
  have hg : (getObj b).run Try.prog w = .ok (.map es clock) w := MapKept.run_getObj_map hb
  have hfi := findIdx_born he.nod hbo
  have hjl : j < E.length := (List.getElem?_eq_some_iff.1 h3).1
  have hx : E[j] = (s, f s) := (List.getElem?_eq_some_iff.1 h3).2
  refine ⟨ChangeMaps.setBlock w b (.map (es.modify j fun e => { e with val := .int .i64 n }) clock), ?_, ⟨rfl, rfl, rfl, by simp [ChangeMaps.setBlock], fun i _ hi => ChangeMaps.heap_setBlock_other hb _ (fun e => hi (by rw [e]))⟩, by simp [ChangeMaps.setBlock], ?_⟩
  · unfold Instr.entryStore
    simp only [Sem.run_bind, hg, Result.andThen_ok]
    have ha : (asInt (goInt (t : Int))).run Try.prog w = .ok (t : Int) w := rfl
    simp only [ha, Result.andThen_ok, hfi]
    exact MapKept.run_setObj_map _ hb
  · have hmap : (E.set j (s, n)).map Prod.fst = E.map Prod.fst := by
      rw [List.map_set]
      apply List.ext_getElem (by simp)
      intro i h1 h2
      rw [List.getElem_set]
      split
      · rename_i h3; subst h3; simp [hx]
      · rfl
    have hn' : ((E.set j (s, n)).map Prod.fst).Nodup := by rw [hmap]; exact hn
    refine ⟨E.set j (s, n), ⟨_, clock, ChangeMaps.heap_setBlock_same hb _, ⟨?_, ?_, ?_⟩⟩, hn', fun t => ?_⟩
    · rw [Array.toList_modify]
      exact val_modify es.toList E j (s, f s) n he.ent h3
    · rw [Array.toList_modify, born_val]
      exact he.nod
    · intro e hx
      have : e.born ∈ es.toList.map (·.born) := by
        rw [← born_val es.toList j (.int .i64 n), ← Array.toList_modify]
        exact List.mem_map_of_mem hx
      obtain ⟨e', he', e2⟩ := List.mem_map.1 this
      rw [← e2]
      exact he.old e' he'
    · unfold updK
      by_cases e : t = s
      · rw [e, if_pos rfl, getK_eq hn' (o := some (s, n)) (fun x hx => by cases hx; exact ⟨List.mem_set (by simpa using hjl) _, rfl⟩) (fun h => by cases h)]
      · rw [if_neg e, ← hf t]
        suffices e5 : getP Prod.fst (E.set j (s, n)) t = getP Prod.fst E t by rw [e5]; (try (cases getP Prod.fst E t <;> rfl))
        refine getK_eq hn' (fun y hy => ?_) fun hy y hm e2 => ?_
        · have hy1 : y ∈ E := List.mem_of_find?_eq_some hy
          have hy2 : y.1 = t := by simpa using List.find?_some hy
          refine ⟨?_, hy2⟩
          obtain ⟨i, hi, rfl⟩ := List.mem_iff_getElem.1 hy1
          have hij : i ≠ j := fun e3 => by subst e3; rw [hx] at hy2; exact e hy2.symm
          rw [← List.getElem_set_ne (fun e3 => hij e3.symm) (a := (s, n)) (by simpa using hi)]
          exact List.getElem_mem _
        · rcases List.mem_or_eq_of_mem_set hm with hm | hm
          · exact (by simpa using List.find?_eq_none.1 hy y hm : y.1 ≠ t) e2
          · rw [hm] at e2; exact e e2.symm

end Go.Proofs.Ytljepindfdhbbaa
