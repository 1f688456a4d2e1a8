/- Trees that lie apart are trees; what stands while Find goes over the nodes. -/
import Derived.Test.YtngglnlphlembaaVtKa
import Derived.Test.YtngglnlphlembaaVtY
import Derived.Test.YtngglnlphlembaaVtJ
namespace Go.Proofs.Ytngglnlphlembaa
open Go.RowKit Go.Shelf
set_option linter.unusedVariables false
set_option linter.unusedSimpArgs false

attribute [local go_sem] Oper.semAt_some

theorem ownE_cells {α : Type} {enc : α → List Value} {n B : Nat} {T : TypeId} {W : World} {v : Value} {D : List α} (h : OwnE enc n T B W v D) {k : Nat} (hk : v.ownBlock = some k) : ∃ c t f, W.heap[k]? = some (.cells c t f) := by
  rcases h.2 with ⟨rfl, _⟩ | ⟨g, cap, cur, rfl, _, hc, _⟩
  · cases hk
  · injection hk with hk
    subst hk
    exact ⟨cur, _, _, hc⟩
theorem SepF.clean : ∀ (m : Nat) {W : World} {F : Nat → Prop} {av kv : Value} {t : VT}, SepF m W F av kv t → SepF m W (fun k => F k ∧ ∃ c t f, W.heap[k]? = some (.cells c t f)) av kv t
  | 0, _, _, _, _, _, h => h.elim
  | m + 1, W, _, _, _, _, h => by
    obtain ⟨E, Fs, h1, h2, h3, h4, h5, h6, h7, h8, h9, h10⟩ := h
    exact ⟨E, fun i k => Fs i k ∧ ∃ c t f, W.heap[k]? = some (.cells c t f), h1, h2, h3, h4, h5, fun k e => ⟨h6 k e, ownE_cells h1 e⟩, fun k e => ⟨h7 k e, ownE_cells h2 e⟩, fun i hi => (h8 i hi).clean m, fun i k hi q => ⟨⟨(h9 i k hi q.1).1, q.2⟩, (h9 i k hi q.1).2⟩, fun i j k hij q q2 => h10 i j k hij q.1 q2.1⟩
theorem SepF.mono : ∀ (m : Nat) {W : World} {F F' : Nat → Prop} {av kv : Value} {t : VT}, SepF m W F av kv t → (∀ k, F k → F' k) → SepF m W F' av kv t
  | 0, _, _, _, _, _, _, h, _ => h.elim
  | m + 1, _, _, _, _, _, _, h, hf => by
    obtain ⟨E, Fs, h1, h2, h3, h4, h5, h6, h7, h8, h9, h10⟩ := h
    exact ⟨E, Fs, h1, h2, h3, h4, h5, fun k e => hf k (h6 k e), fun k e => hf k (h7 k e), h8, fun i k hi q => ⟨hf k (h9 i k hi q).1, (h9 i k hi q).2⟩, h10⟩
theorem SepF.vis : ∀ (m : Nat) {W : World} {F : Nat → Prop} {av kv : Value} {t : VT}, SepF m W F av kv t → FdIs F W av kv t.at_ t.ks
  | 0, _, _, _, _, _, h => h.elim
  | m + 1, W, F, av, kv, t, h => by
    obtain ⟨E, Fs, h1, h2, h3, h4, h5, h6, h7, h8, h9, h10⟩ := h
    refine ⟨OwnE.lsE atCells_len h1 (by omega) h6, h4, ?_⟩
    obtain ⟨a, c, e⟩ := OwnE.form h2
    have hl : E.length = t.ks.length := by rw [← h3, List.length_map]
    refine ⟨a, c, by rw [e, hl], ?_, h5, ?_⟩
    · rcases h2.2 with ⟨e2, hn⟩ | ⟨g, cap, cur, e2, _, _, hcap, _⟩
      · rw [e] at e2; injection e2 with _ e4 e5; omega
      · rw [e] at e2; injection e2 with _ e4 e5; omega
    · rcases Nat.eq_zero_or_pos t.ks.length with h0 | h0
      · exact .inl (List.eq_nil_of_length_eq_zero h0)
      · right
        obtain ⟨g, cap, eg, _, _⟩ := OwnE.cells vnC_len h2 (i := 0) (by omega)
        rw [e] at eg
        injection eg with e1 _ _
        refine ⟨g, 0, e1, h7 g (by rw [e, e1]; rfl), (OwnE.lt h2 g (by rw [e, e1]; rfl)).2, (VRow_iff _ _).2 fun i hi => ?_⟩
        have hiE : i < E.length := by omega
        obtain ⟨g2, cap2, eg2, _, hcs, _⟩ := OwnE.cells vnC_len h2 hiE
        rw [e] at eg2
        injection eg2 with e3 _ _
        rw [e1] at e3
        injection e3 with e3
        injection e3 with e3
        subst e3
        have hx : t.ks[i] = E[i].1 := by simp only [← h3, List.getElem_map]
        rw [hx, Nat.zero_add]
        refine VAt_iff.2 ⟨E[i].2.1, E[i].2.2, fun j u hj => hcs j u hj, ?_⟩
        exact ((h8 i hiE).vis m).mono fun k q _ => (h9 i k hiE q).1
theorem sepZ (W : World) : SepF tZ.sz W (fun _ => False) (.slice none 0 0) (.slice none 0 0) tZ := by
  rw [szZ]
  exact ⟨[], fun _ _ => False, OwnE.nil0 _ _, OwnE.nil0 _ _, rfl, by simp [tZ, VT.at_], by simp [tZ, VT.ks], fun k e => (by cases e), fun k e => (by cases e), fun i h => (by simp at h), fun i k h => (by simp at h), fun i j k _ h => (h : False).elim⟩
theorem results_two {fn : Func} {p q : Tmp} {ty : TypeId} (h : fn.results = #[.cell p ty, .cell q 4]) (tmps : Array Value) (w : World) (g h2 : Nat) (cs : Array Value) (b : Bool)
    (hp : tmps.getD p undef = .pointer (some ⟨g, 0, none⟩)) (hq : tmps.getD q undef = .pointer (some ⟨h2, 0, none⟩)) (e1 : (loadVar ty ⟨g, 0, none⟩).run Try.prog w = .ok (.agg cs) w) (hc : w.cell? ⟨h2, 0, none⟩ = some (.bool b)) :
    (results fn tmps).run Try.prog w = .ok (.tuple #[.agg cs, .bool b]) w := by
  have hp' : tmps[p]?.getD undef = .pointer (some ⟨g, 0, none⟩) := by simpa using hp
  have hq' : tmps[q]?.getD undef = .pointer (some ⟨h2, 0, none⟩) := by simpa using hq
  have e2 : (loadVar 4 ⟨h2, 0, none⟩).run Try.prog w = .ok (.bool b) w := by
    simp [loadVar, isAgg, run_underlying Try.underlying4, load, go_sem]
    simp [Sem.run, hc]
  simp [results, h, hp', hq', asAddr, e1, e2]
theorem loadVN (w : World) (g : Nat) (v0 v1 v2 v3 v4 v5 : Value) (hg : w.heap[g]? = some (.cells #[v0, v1, v2, v3, v4, v5] 27)) : (loadVar 27 ⟨g, 0, none⟩).run Try.prog w = .ok (.agg #[v0, v1, v2, v3, v4, v5]) w := run_loadVar_row w g _ _ _ _ _ hg Try.underlying27 rfl (by kernel_rfl)
theorem loadST (w : World) (g : Nat) (v0 v1 : Value) (hg : w.heap[g]? = some (.cells #[v0, v1] 23)) : (loadVar 23 ⟨g, 0, none⟩).run Try.prog w = .ok (.agg #[v0, v1]) w := run_loadVar_row w g _ _ _ _ _ hg Try.underlying23 rfl (by kernel_rfl)
theorem row_set6k {W : World} {b : Nat} {z0 z1 z2 z3 z4 z5 v0 v1 v2 v3 v4 v5 : Value} {t : TypeId} (h : W.heap[b]? = some (.cells #[z0, z1, z2, z3, z4, z5] t)) : ((((((W.setCell ⟨b, 0, none⟩ v0).setCell ⟨b, 1, none⟩ v1).setCell ⟨b, 2, none⟩ v2).setCell ⟨b, 3, none⟩ v3).setCell ⟨b, 4, none⟩ v4).setCell ⟨b, 5, none⟩ v5).heap[b]? = some (.cells #[v0, v1, v2, v3, v4, v5] t) := by
  have h0 := heap_setCell_same W b 0 _ _ v0 h
  have h1 := heap_setCell_same _ b 1 _ _ v1 h0
  have h2 := heap_setCell_same _ b 2 _ _ v2 h1
  have h3 := heap_setCell_same _ b 3 _ _ v3 h2
  have h4 := heap_setCell_same _ b 4 _ _ v4 h3
  have h5 := heap_setCell_same _ b 5 _ _ v5 h4
  simpa using h5
/-- What stands while Find goes over the nodes: the boxes of both results. -/
structure FnS (w W2 : World) (S : Nat → Prop) (rb ob : Nat) (c : Array Value) (b : Bool) (U : World) : Prop where
  r : U.heap[rb]? = some (.cells c 27)
  o : U.heap[ob]? = some (.cells #[.bool b] 4)
  bel : Below w.heap.size w U
  kp : KeepsS S W2 U
  sl : ∀ k, S k → k < W2.heap.size
  nr : ¬ S rb ∧ w.heap.size ≤ rb ∧ rb < W2.heap.size
  no : ¬ S ob ∧ w.heap.size ≤ ob ∧ ob < W2.heap.size
  ne : rb ≠ ob
  le : w.heap.size ≤ W2.heap.size
section
variable {w W2 U U' : World} {S : Nat → Prop} {rb ob : Nat} {c c' : Array Value} {b b' : Bool}
theorem FnS.below (h : FnS w W2 S rb ob c b U) (hb : Below U.heap.size U U') : FnS w W2 S rb ob c b U' := ⟨(hb.block _ (row_lt h.r)).trans h.r, (hb.block _ (row_lt h.o)).trans h.o, h.bel.trans (hb.mono h.bel.size), h.kp.trans (KeepsS.of_below hb fun k q => Nat.lt_of_lt_of_le (h.sl k q) h.kp.1), h.sl, h.nr, h.no, h.ne, h.le⟩
theorem FnS.grown (h : FnS w W2 S rb ob c b U) {row : Option Nat} (hg : U.grownBy U' row) (hr : ∀ r, row = some r → W2.heap.size ≤ r ∧ ∃ o : Obj, U.heap[r]? = some o ∧ o.isCells = false) : FnS w W2 S rb ob c b U' := by
  have hr2 : ∀ r, row = some r → ∃ o : Obj, U.heap[r]? = some o ∧ o.isCells = false := fun r e => (hr r e).2
  refine ⟨row_own h.r hg hr2, row_own h.o hg hr2, h.bel.grown hg h.bel.size (fun j e => by have := (hr j e).1; have := h.le; omega), h.kp.trans ⟨hg.size, fun k q => hg.block k (Nat.lt_of_lt_of_le (h.sl k q) h.kp.1) (fun e => ?_)⟩, h.sl, h.nr, h.no, h.ne, h.le⟩
  have h1 := (hr k e.symm).1
  have h2 := h.sl k q
  omega
theorem FnS.ro (h : FnS w W2 S rb ob c b U) : U.cell? ⟨ob, 0, none⟩ = some (.bool b) := by rw [cell_of_row U ob 0 _ _ _ h.o]; rfl
theorem FnS.fo (h : FnS w W2 S rb ob c b U) : U.frozen? ⟨ob, 0, none⟩ = false := frozen_of_row U ob 0 _ _ h.o
theorem FnS.fr (h : FnS w W2 S rb ob c b U) (i : Nat) : U.frozen? ⟨rb, i, none⟩ = false := frozen_of_row U rb i _ _ h.r
/-- Behind the stores of both results. -/
theorem FnS.told {z0 z1 z2 z3 z4 z5 v0 v1 v2 v3 v4 v5 : Value} (h : FnS w W2 S rb ob #[z0, z1, z2, z3, z4, z5] b U) (b' : Bool) (hU : U' = ((((((U.setCell ⟨rb, 0, none⟩ v0).setCell ⟨rb, 1, none⟩ v1).setCell ⟨rb, 2, none⟩ v2).setCell ⟨rb, 3, none⟩ v3).setCell ⟨rb, 4, none⟩ v4).setCell ⟨rb, 5, none⟩ v5).setCell ⟨ob, 0, none⟩ (.bool b')) : FnS w W2 S rb ob #[v0, v1, v2, v3, v4, v5] b' U' ∧ KeepsFrom W2.heap.size U U' ∧ U'.heap.size = U.heap.size ∧ ∀ k, k ≠ rb → k ≠ ob → U'.heap[k]? = U.heap[k]? := by
  subst hU
  have hk : ∀ (k : Nat), k ≠ rb → k ≠ ob → (((((((U.setCell ⟨rb, 0, none⟩ v0).setCell ⟨rb, 1, none⟩ v1).setCell ⟨rb, 2, none⟩ v2).setCell ⟨rb, 3, none⟩ v3).setCell ⟨rb, 4, none⟩ v4).setCell ⟨rb, 5, none⟩ v5).setCell ⟨ob, 0, none⟩ (.bool b')).heap[k]? = U.heap[k]? := fun k h1 h2 => by
    rw [RowKit.Below.heap_setCell _ _ _ _ h2, RowKit.Below.heap_setCell _ _ _ _ h1, RowKit.Below.heap_setCell _ _ _ _ h1, RowKit.Below.heap_setCell _ _ _ _ h1, RowKit.Below.heap_setCell _ _ _ _ h1, RowKit.Below.heap_setCell _ _ _ _ h1, RowKit.Below.heap_setCell _ _ _ _ h1]
  have hs : (((((((U.setCell ⟨rb, 0, none⟩ v0).setCell ⟨rb, 1, none⟩ v1).setCell ⟨rb, 2, none⟩ v2).setCell ⟨rb, 3, none⟩ v3).setCell ⟨rb, 4, none⟩ v4).setCell ⟨rb, 5, none⟩ v5).setCell ⟨ob, 0, none⟩ (.bool b')).heap.size = U.heap.size := by simp [World.setCell]
  have l1 := h.nr.2.1
  have l2 := h.no.2.1
  refine ⟨⟨(RowKit.Below.heap_setCell _ _ _ _ h.ne).trans (row_set6k h.r), ?_, ?_, h.kp.trans ⟨by rw [hs]; exact Nat.le_refl _, fun k q => hk k (fun e => h.nr.1 (e ▸ q)) (fun e => h.no.1 (e ▸ q))⟩, h.sl, h.nr, h.no, h.ne, h.le⟩, ?_, hs, hk⟩
  · have h9 : ((((((U.setCell ⟨rb, 0, none⟩ v0).setCell ⟨rb, 1, none⟩ v1).setCell ⟨rb, 2, none⟩ v2).setCell ⟨rb, 3, none⟩ v3).setCell ⟨rb, 4, none⟩ v4).setCell ⟨rb, 5, none⟩ v5).heap[ob]? = some (.cells #[.bool b] 4) := by
      have hno := fun e => h.ne (Eq.symm e)
      rw [RowKit.Below.heap_setCell _ _ _ _ hno, RowKit.Below.heap_setCell _ _ _ _ hno, RowKit.Below.heap_setCell _ _ _ _ hno, RowKit.Below.heap_setCell _ _ _ _ hno, RowKit.Below.heap_setCell _ _ _ _ hno, RowKit.Below.heap_setCell _ _ _ _ hno]
      exact h.o
    have := heap_setCell_same _ ob 0 _ _ (.bool b') h9
    simpa using this
  · exact ((((((h.bel.setCell (p := ⟨rb, 0, none⟩) l1 _).setCell (p := ⟨rb, 1, none⟩) l1 _).setCell (p := ⟨rb, 2, none⟩) l1 _).setCell (p := ⟨rb, 3, none⟩) l1 _).setCell (p := ⟨rb, 4, none⟩) l1 _).setCell (p := ⟨rb, 5, none⟩) l1 _).setCell (p := ⟨ob, 0, none⟩) l2 _
  · exact ((((((keepsFrom_set _ _ _).trans (keepsFrom_set _ _ _)).trans (keepsFrom_set _ _ _)).trans (keepsFrom_set _ _ _)).trans (keepsFrom_set _ _ _)).trans (keepsFrom_set _ _ _)).trans (keepsFrom_set _ _ _)
end
/-- The first node with a key. -/
def fndT (t : VT) (key : St) : Option VT := (flT t).find? fun x => decide (x.k = key)
theorem fnd_step {xs : List Nd} {k : Nat} {key : St} (hk : k < xs.length) (h : (xs.take k).find? (fun x => decide (x.t.k = key)) = none) : (xs.take (k + 1)).find? (fun x => decide (x.t.k = key)) = if xs[k].t.k = key then some xs[k] else none := by
  rw [List.take_succ_eq_append_getElem hk, List.find?_append, h]
  simp only [Option.none_or, List.find?_cons, List.find?_nil]
  split <;> simp_all
theorem fnd_all {xs : List Nd} {t : VT} {key : St} (hx : xs.map Nd.t = flT t) : fndT t key = (xs.find? fun x => decide (x.t.k = key)).map Nd.t := by
  unfold fndT
  rw [← hx, List.find?_map]
  rfl
theorem fnd_prefix {xs : List Nd} {k : Nat} {p : Nd → Bool} {y : Nd} (h : (xs.take k).find? p = some y) : xs.find? p = some y := by
  rw [← List.take_append_drop k xs, List.find?_append, h]
  rfl
/-- A list that lies in cells of its own, kept. -/
def Sp (N : Nat) (x : VT) (F : Nat → Prop) (av kv : Value) (W : World) : Prop := SepF x.sz W F av kv x ∧ ∀ k, F k → N ≤ k ∧ k < W.heap.size ∧ ∃ c t f, W.heap[k]? = some (.cells c t f)
theorem Sp.grown {N : Nat} {x : VT} {F : Nat → Prop} {av kv : Value} {W W' : World} (h : Sp N x F av kv W) {row : Option Nat} (hg : W.grownBy W' row) (hr : ∀ r, row = some r → ∃ o : Obj, W.heap[r]? = some o ∧ o.isCells = false) : Sp N x F av kv W' := by
  have hk : ∀ k, F k → W'.heap[k]? = W.heap[k]? := fun k q => by
    obtain ⟨_, _, c, t, f, hc⟩ := h.2 k q
    rw [row_own hc hg hr, hc]
  exact ⟨h.1.turn _ hk, fun k q => ⟨(h.2 k q).1, Nat.lt_of_lt_of_le (h.2 k q).2.1 hg.size, by rw [hk k q]; exact (h.2 k q).2.2⟩⟩
theorem Sp.same {N : Nat} {x : VT} {F : Nat → Prop} {av kv : Value} {W W' : World} (h : Sp N x F av kv W) (hs : W.heap.size ≤ W'.heap.size) (hk : ∀ k, F k → W'.heap[k]? = W.heap[k]?) : Sp N x F av kv W' :=
  ⟨h.1.turn _ hk, fun k q => ⟨(h.2 k q).1, Nat.lt_of_lt_of_le (h.2 k q).2.1 hs, by rw [hk k q]; exact (h.2 k q).2.2⟩⟩

end Go.Proofs.Ytngglnlphlembaa
