/- vtree.Each; the walk of VtreeGoes. -/
import Derived.Test.YtngglnlphlembaaVtGa
import Derived.Test.YtngglnlphlembaaVtU
import Derived.Test.YtngglnlphlembaaVtL
import Derived.Test.YtngglnlphlembaaVtZ
import Derived.Test.YtngglnlphlembaaVtKg
import Derived.Deep.Cut
namespace Go.Proofs.Ytngglnlphlembaa
open Go.RowKit Go.Shelf
set_option linter.unusedVariables false
set_option linter.unusedSimpArgs false
attribute [local go_sem] Oper.semAt_some

theorem sizeVG : (Try.prog.info? 27).map (·.size) = some 6 := by kernel_rfl
theorem eql_nilE (B : Nat) (w : World) : (binOp .eql 32 (.func (.func 17) #[] #[.pointer (some ⟨B, 0, none⟩)]) .nilFunc).run Try.prog w = .ok (.bool false) w := by kernel_rfl
set_option maxHeartbeats 1000000 in
theorem many_any (G : Nat → Prop) (t : VT) (v : Value) (w : World) (h : VIs G w v t) (hsz : t.sz ≤ 1048576) : Calls Try.prog 4 #[v] w fun e w' => e = .returned (.bool (decide (1500 < t.sz))) ∧ Below w.heap.size w w' := by
  obtain ⟨aa, ca, ak, ck, e1, fd⟩ := h.form
  subst e1
  obtain ⟨W0, eW⟩ : ∃ X, X = (w.alloc (.cells #[.int .i64 t.k.1, .int .i64 t.k.2, .string t.tg, .string t.tx, .slice aa t.at_.length ca, .slice ak t.ks.length ck] 27)) := ⟨_, rfl⟩
  have hb0 : Below w.heap.size w W0 := (by rw [eW]; exact (Below.refl _ _).alloc (Nat.le_refl _) _)
  have HFd := hide9 (fd.below hb0)
  have HB := hide9 hb0
  have HE := hide9 eW
  clear h fd hb0 eW
  go_enter Try.func4, Try.ntmps4
  go_wp2_with fail
  rw [← HE.out]
  refine (flatF_any G t _ _ (VIs.of HFd.out) hsz).mono ?_
  rintro e w1 ⟨v1, L, rfl, h1, h2, h3, h4⟩
  obtain ⟨a1, c1, e1⟩ := OwnE.form h1
  subst e1
  have hLl : L.length = t.sz := (by rw [← flT_len, ← h2, List.length_map])
  have HB1 : Hid (Below w.heap.size w w1) := HB.out.trans (h4.mono HB.out.size)
  rw [hLl]
  clear h1 h2 h3 h4 hLl HE HFd HB
  go_wp2
  go_ret
  exact ⟨ret_bool (by first | rfl | (apply decide_eq_decide.2; omega)), HB1.out⟩
/-- A tree of its own, as a value and its blocks. -/
def Sq (x : VT) (F : Nat → Prop) (av kv : Value) (W : World) : Prop := SepF x.sz W F av kv x ∧ ∀ k, F k → k < W.heap.size
theorem Sq.below {x : VT} {F : Nat → Prop} {av kv : Value} {W W' : World} (h : Sq x F av kv W) (hb : Below W.heap.size W W') : Sq x F av kv W' := ⟨h.1.turn _ fun k q => hb.block k (h.2 k q), fun k q => Nat.lt_of_lt_of_le (h.2 k q) hb.size⟩
theorem Sq.row {x : VT} {F : Nat → Prop} {av kv : Value} {W : World} {nb : Nat} {c : Array Value} (h : Sq x F av kv W) (hn : ∀ k, F k → k ≠ nb) : Sq x F av kv (W.setRow nb c) := ⟨h.1.turn _ fun k q => setRow_other W nb k c (hn k q), fun k q => by have := h.2 k q; simpa using this⟩
set_option maxRecDepth 100000 in
set_option maxHeartbeats 2000000 in
theorem each_any (G : Nat → Prop) (t : VT) (v : Value) (w : World) (h : VIs G w v t) : Calls Try.prog 7 #[v] w fun e w' => ∃ (be : Nat) (za : Option Addr) (cz : Nat) (zk : Option Addr) (dz : Nat) (F : Nat → Prop), e = .returned (.func (.func 17) #[] #[.pointer (some ⟨be, 0, none⟩)]) ∧ w'.heap[be]? = some (.cells #[.int .i64 t.k.1, .int .i64 t.k.2, .string t.tg, .string t.tx, .slice za t.at_.length cz, .slice zk t.ks.length dz] 27) ∧ FdIs F w' (.slice za t.at_.length cz) (.slice zk t.ks.length dz) t.at_ t.ks ∧ (∀ k, F k → w.heap.size ≤ k ∧ k < w'.heap.size) ∧ w.heap.size ≤ be ∧ Below w.heap.size w w' := by
  obtain ⟨aa, ca, ak, ck, e1, fd⟩ := h.form
  subst e1
  obtain ⟨W0, eW⟩ : ∃ X, X = (w.alloc (.cells #[.int .i64 t.k.1, .int .i64 t.k.2, .string t.tg, .string t.tx, .slice aa t.at_.length ca, .slice ak t.ks.length ck] 27)) := ⟨_, rfl⟩
  have hb0 : Below w.heap.size w W0 := (by rw [eW]; exact (Below.refl _ _).alloc (Nat.le_refl _) _)
  have hT : W0.heap[w.heap.size]? = some (.cells #[.int .i64 t.k.1, .int .i64 t.k.2, .string t.tg, .string t.tx, .slice aa t.at_.length ca, .slice ak t.ks.length ck] 27) := (by rw [eW]; exact heap_alloc_new _ _)
  have HFd := hide9 (fd.below hb0)
  have HB := hide9 hb0
  have HE := hide9 eW
  obtain ⟨y0, y1, y2, y3, y4, y5⟩ := row6 hT
  clear h fd hb0 eW hT
  go_enter Try.func7, Try.ntmps7
  go_upto_region 1 with fail
  rw [← HE.out]
  go_wp2_with fail
  clear HE y0 y1 y2 y3 y4 y5
  refine (copy_any G t _ _ (VIs.of HFd.out)).mono ?_
  rintro e W1 ⟨v', F, rfl, hv, hF, hb⟩
  obtain ⟨za, cz, zk, dz, e1, fz⟩ := hv.form
  subst e1
  have HF : Hid (∀ k, F k → w.heap.size ≤ k ∧ k < W1.heap.size) := fun k q => ⟨Nat.le_trans HB.out.size (hF k q).1, (hF k q).2⟩
  have HB1 : Hid (Below w.heap.size w W1) := HB.out.trans (hb.mono HB.out.size)
  have Hz : Hid ((W1.alloc (.cells #[.int .i64 0, .int .i64 0, .string ⟨#[]⟩, .string ⟨#[]⟩, .slice none 0 0, .slice none 0 0] 27)).heap[W1.heap.size]? = some (.cells #[.int .i64 0, .int .i64 0, .string ⟨#[]⟩, .string ⟨#[]⟩, .slice none 0 0, .slice none 0 0] 27)) := heap_alloc_new _ _
  obtain ⟨W2, eW2⟩ : ∃ X, X = (W1.alloc (.cells #[.int .i64 0, .int .i64 0, .string ⟨#[]⟩, .string ⟨#[]⟩, .slice none 0 0, .slice none 0 0] 27)).setRow W1.heap.size #[.int .i64 t.k.1, .int .i64 t.k.2, .string t.tg, .string t.tx, .slice za t.at_.length cz, .slice zk t.ks.length dz] := ⟨_, rfl⟩
  have hb2 : Below W1.heap.size W1 W2 := (by rw [eW2]; exact ((Below.refl _ _).alloc (Nat.le_refl _) _).grown (grown_setRow _ _ _) (by simp) (fun k e => by cases e; exact Nat.le_refl _))
  have HN : Hid (W2.heap[W1.heap.size]? = some (.cells #[.int .i64 t.k.1, .int .i64 t.k.2, .string t.tg, .string t.tx, .slice za t.at_.length cz, .slice zk t.ks.length dz] 27)) := (by rw [eW2]; exact setRow_same Hz.out)
  have HFz := hide9 (fz.below hb2)
  have HB2 : Hid (Below w.heap.size w W2) := HB1.out.trans (hb2.mono HB1.out.size)
  have HE2 := hide9 eW2
  have Hs2 : Hid (W1.heap.size ≤ W2.heap.size) := hb2.size
  clear hv hF hb fz hb2 eW2 HFd HB
  go_wp2_with (refine wpList_store_row rfl 27 (.tmp 3) (.tmp 5) rfl W1.heap.size 27 #[.int .i64 0, .int .i64 0, .string ⟨#[]⟩, .string ⟨#[]⟩, .slice none 0 0, .slice none 0 0] #[.int .i64 t.k.1, .int .i64 t.k.2, .string t.tg, .string t.tx, .slice za t.at_.length cz, .slice zk t.ks.length dz] rfl rfl Hz.out sizeVG rfl (by simp [Value.oneCell']) ?_)
  rw [← HE2.out]
  go_ret
  exact ⟨W1.heap.size, za, cz, zk, dz, F, rfl, HN.out, HFz.out, fun k q => ⟨(HF.out k q).1, Nat.lt_of_lt_of_le (HF.out k q).2 Hs2.out⟩, HB1.out.size, HB2.out⟩
/-- What stands while VtreeGoes goes over the nodes: all below block nb. -/
structure GxS (w : World) (tb sb rb wb db be nb : Nat) (t : VT) (stop : Int) (aw : Option Addr) (cw : Nat) (ad : Option Addr) (cd : Nat) (E : List (VT × Value × Value)) (W : World) : Prop where
  s : W.heap[sb]? = some (.cells #[.int .i64 stop] 3)
  r : W.heap[rb]? = some (.cells #[.bool false] 4)
  wl : W.heap[wb]? = some (.cells #[.slice aw t.sz cw] 25)
  dl : W.heap[db]? = some (.cells #[.slice ad t.sz cd] 36)
  ow : OwnVn 0 W (.slice aw t.sz cw) E
  em : E.map Prod.fst = flT t
  fs : ∀ x ∈ E, FdIs (fun k => k < nb) W x.2.1 x.2.2 x.1.at_ x.1.ks
  od : OwnNt 0 W (.slice ad t.sz cd) (dpL t 0)
  bw : ∀ k, (Value.slice aw t.sz cw).ownBlock = some k → k < nb
  bd : ∀ k, (Value.slice ad t.sz cd).ownBlock = some k → k < nb
  ev : VAt (fun k => k < nb) W t be 0
  lt : w.heap.size ≤ sb ∧ sb < nb ∧ w.heap.size ≤ rb ∧ rb < nb ∧ wb < nb ∧ db < nb ∧ be < nb ∧ nb ≤ W.heap.size ∧ w.heap.size ≤ nb
section
variable {w W W' : World} {tb sb rb wb db be nb : Nat} {t : VT} {stop : Int} {aw : Option Addr} {cw : Nat} {ad : Option Addr} {cd : Nat} {E : List (VT × Value × Value)}
theorem GxS.below (h : GxS w tb sb rb wb db be nb t stop aw cw ad cd E W) (hb : Below nb W W') : GxS w tb sb rb wb db be nb t stop aw cw ad cd E W' := by
  have hl := h.lt
  have hk : KeepsS (fun k => k < nb) W W' := ⟨hb.size, fun k hk => hb.block k hk⟩
  exact ⟨(hb.block _ (by omega)).trans h.s, (hb.block _ (by omega)).trans h.r, (hb.block _ (by omega)).trans h.wl, (hb.block _ (by omega)).trans h.dl, h.ow.keep fun k e => hb.block k (h.bw k e), h.em, fun x hx => (h.fs x hx).keep hk, h.od.keep fun k e => hb.block k (h.bd k e), h.bw, h.bd, h.ev.turn hb.size (fun k q _ => ⟨q, hb.block k q⟩) (hb.block _ (by omega)), by have := hb.size; omega⟩
/-- The same, with the bound further up. -/
theorem GxS.up (h : GxS w tb sb rb wb db be nb t stop aw cw ad cd E W) {nb2 : Nat} (h1 : nb ≤ nb2) (h2 : nb2 ≤ W.heap.size) : GxS w tb sb rb wb db be nb2 t stop aw cw ad cd E W := by
  have hl := h.lt
  exact ⟨h.s, h.r, h.wl, h.dl, h.ow, h.em, fun x hx => (h.fs x hx).mono fun k q _ => Nat.lt_of_lt_of_le q h1, h.od, fun k e => Nat.lt_of_lt_of_le (h.bw k e) h1, fun k e => Nat.lt_of_lt_of_le (h.bd k e) h1, h.ev.turn (Nat.le_refl _) (fun k q _ => ⟨Nat.lt_of_lt_of_le q h1, rfl⟩) rfl, by omega⟩
end
theorem results_boolCell4 {fn : Func} (hr : fn.results = #[.cell 4 4]) (tmps : Array Value) (R : Nat) (w : World) (b : Bool) (hp : tmps.getD 4 undef = .pointer (some ⟨R, 0, none⟩)) (hc : w.cell? ⟨R, 0, none⟩ = some (.bool b)) : (results fn tmps).run Try.prog w = .ok (.bool b) w := by
  have hp' : tmps[4]?.getD undef = .pointer (some ⟨R, 0, none⟩) := by simpa using hp
  simp [results, hr, hp', asAddr, loadVar, isAgg, run_underlying Try.underlying4, load, go_sem]
  simp [Sem.run, hc]

theorem run_store_row6 {P : Program} {w : World} {b : Nat} {t ty : TypeId} {c c' : Array Value} (hr : w.heap[b]? = some (.cells c t)) (hi : (P.info? ty).map (·.size) = some c'.size) (hs : c.size = c'.size) (h1 : c'.all (·.oneCell') = true) : (storeVar ty ⟨b, 0, none⟩ (.agg c')).run P w = .ok () (w.setRow b c') := run_storeVar_row w b t ty c c' hr hi hs h1
theorem wpListIn_store_row {F : Fence} {n : Nat} {P : Program} {ops : Array Oper} {rest : List Oper} {op : Oper} {a : Act} {w : World} {Q : Exit → Act → World → Prop} (hgd : op.guard = none) (ty : TypeId) (x y : Operand) (ho : op.op = .store ty x y)
    (b : Nat) (t : TypeId) (c c' : Array Value) (hx : a.eval x = .pointer (some ⟨b, 0, none⟩)) (hy : a.eval y = .agg c') (hr : w.heap[b]? = some (.cells c t))
    (hi : (P.info? ty).map (·.size) = some c'.size) (hs : c.size = c'.size) (h1 : c'.all (·.oneCell') = true)
    (h : wpListIn F n P ops Q rest (a.put op.dst undef) (w.setRow b c')) : wpListIn F n P ops Q (op :: rest) a w := by
  refine wpListIn_plain hgd fun K hK => ?_
  unfold Oper.wpIn
  refine ⟨?_, ?_⟩
  · simp [Oper.about, ho]
  · rw [Oper.semAt_plain F _ _ (by rw [ho]; intro c hc; cases hc)]
    simp only [execOp, ho, hx, hy, Instr.storeAt, Instr.sureAddr, Sem.run_bind, Sem.run_pure, Result.andThen_ok, run_storeVar_row w b t ty c c' hr hi hs h1]
    exact hK _ _ h
/-- The copy that is handed out, in its box. -/
structure AxX (N xb : Nat) (x : Nat × VT) (sa : Option Addr) (sc : Nat) (sk : Option Addr) (dk : Nat) (F : Nat → Prop) (W : World) : Prop where
  box : W.heap[xb]? = some (.cells #[.int .i64 x.2.k.1, .int .i64 x.2.k.2, .string x.2.tg, .string x.2.tx, (.slice sa x.2.at_.length sc), (.slice sk x.2.ks.length dk)] 27)
  sep : SepF x.2.sz W F (.slice sa x.2.at_.length sc) (.slice sk x.2.ks.length dk) x.2
  fr : ∀ k, F k → N ≤ k ∧ k < xb ∧ ∃ c f, W.heap[k]? = some (.cells c 27 f) ∨ W.heap[k]? = some (.cells c 57 f)
  lo : N ≤ xb
section
variable {N xb : Nat} {x : Nat × VT} {sa : Option Addr} {sc : Nat} {sk : Option Addr} {dk : Nat} {F : Nat → Prop} {W W' : World}
theorem AxX.same (h : AxX N xb x sa sc sk dk F W) (hk : ∀ k, (k = xb ∨ F k) → W'.heap[k]? = W.heap[k]?) : AxX N xb x sa sc sk dk F W' := ⟨(hk _ (.inl rfl)).trans h.box, h.sep.turn _ fun k q => hk k (.inr q), fun k q => ⟨(h.fr k q).1, (h.fr k q).2.1, by obtain ⟨c, f, hc⟩ := (h.fr k q).2.2; exact ⟨c, f, hc.imp (hk k (.inr q)).trans (hk k (.inr q)).trans⟩⟩, h.lo⟩
theorem AxX.lt (h : AxX N xb x sa sc sk dk F W) {k : Nat} (hk : k = xb ∨ F k) : k < W.heap.size := by
  have h1 := row_lt h.box
  rcases hk with rfl | hk
  · exact h1
  · have := (h.fr k hk).2.1; omega
theorem AxX.below (h : AxX N xb x sa sc sk dk F W) (hb : Below W.heap.size W W') : AxX N xb x sa sc sk dk F W' := h.same fun k q => hb.block k (h.lt q)
theorem AxX.grown (h : AxX N xb x sa sc sk dk F W) {row : Option Nat} (hg : W.grownBy W' row) (hr : ∀ r, row = some r → ∃ o : Obj, W.heap[r]? = some o ∧ o.isCells = false) : AxX N xb x sa sc sk dk F W' := h.same fun k q => hg.block k (h.lt q) fun e => by
  obtain ⟨o, h1, h2⟩ := hr k e.symm
  rcases q with rfl | q
  · rw [h.box] at h1; cases h1; cases h2
  · obtain ⟨c, f, hc⟩ := (h.fr k q).2.2
    rcases hc with hc | hc <;> (rw [hc] at h1; cases h1; cases h2)
theorem AxX.set (h : AxX N xb x sa sc sk dk F W) {b i : Nat} {v : Value} (hb : b < N) : AxX N xb x sa sc sk dk F (W.setCell ⟨b, i, none⟩ v) := h.same fun k q => RowKit.Below.heap_setCell _ _ _ _ (fun (e : k = b) => by
  have h1 := h.lo
  rcases q with rfl | q
  · omega
  · have := (h.fr k q).1; omega)
/-- The copy is written over: nothing else is touched. -/
theorem AxX.spoilt (h : AxX N xb x sa sc sk dk F W) (ht : Touch F W W') : KeepsFrom N W W' ∧ ∀ S : Nat → Prop, (∀ k, S k → k < N) → (∀ k, S k → k < W.heap.size) → KpE S N W W' := by
  have hno : ∀ k, F k → ∃ c t f, W.heap[k]? = some (.cells c t f) ∧ (t = 27 ∨ t = 57) := fun k q => by
    obtain ⟨c, f, hc⟩ := (h.fr k q).2.2
    exact hc.elim (fun e => ⟨c, _, f, e, .inl rfl⟩) fun e => ⟨c, _, f, e, .inr rfl⟩
  refine ⟨⟨ht.size, fun k o _ h1 h2 => (ht.block k (row_lt h1) fun q => ?_).trans h1⟩, fun S hS hl => ⟨ht.size, fun k hk => ht.block k ?_ fun q => ?_⟩⟩
  · obtain ⟨c, t, f, h3, _⟩ := hno k q
    rw [h3] at h1; cases h1; cases h2
  · rcases hk with hk | ⟨_, c, f, hk⟩
    · exact hl k hk
    · exact hk.elim row_lt row_lt
  · rcases hk with hk | ⟨_, c, f, hk⟩
    · have := hS k hk; have := (h.fr k q).1; omega
    · obtain ⟨c2, t, f2, h3, h4⟩ := hno k q
      rcases hk with hk | hk <;> (rw [h3] at hk; injection hk with hk; injection hk with _ hk _; rcases h4 with h4 | h4 <;> (rw [h4] at hk; exact absurd hk (by decide)))
end
theorem KpE.set {S : Nat → Prop} {N : Nat} {A : World} {b i : Nat} {v : Value} (hb : ¬ S b) (hN : b < N) : KpE S N A (A.setCell ⟨b, i, none⟩ v) := ⟨by simp [World.setCell], fun k hk => RowKit.Below.heap_setCell _ _ _ _ (fun (e : k = b) => by
  subst e
  rcases hk with hk | ⟨hk, _⟩
  · exact hb hk
  · omega)⟩
theorem two_marks {w Wz : World} {rb Dd De : Nat} (hb : Wz.heap[rb]? = some (.cells #[.bool false] 4)) (bel : Below w.heap.size w Wz) (h1 : Wz.heap[Dd]? = some (.deferred (some []))) (h2 : Wz.heap[De]? = some (.deferred (some []))) (hne : Dd < De) (l1 : w.heap.size ≤ rb) (l2 : w.heap.size ≤ Dd) :
    (Wz.setCell ⟨rb, 0, none⟩ (.bool true)).heap[De]? = some (.deferred (some [])) ∧ ((Wz.setCell ⟨rb, 0, none⟩ (.bool true)).putObj De (.deferred none)).heap[Dd]? = some (.deferred (some [])) ∧ (((Wz.setCell ⟨rb, 0, none⟩ (.bool true)).putObj De (.deferred none)).putObj Dd (.deferred none)).cell? ⟨rb, 0, none⟩ = some (.bool true) ∧ Below w.heap.size w (((Wz.setCell ⟨rb, 0, none⟩ (.bool true)).putObj De (.deferred none)).putObj Dd (.deferred none)) := by
  have n1 : Dd ≠ rb := fun e => by rw [e, hb] at h1; cases h1
  have n2 : De ≠ rb := fun e => by rw [e, hb] at h2; cases h2
  have k1 : (Wz.setCell ⟨rb, 0, none⟩ (.bool true)).heap[De]? = some (.deferred (some [])) := (Below.heap_setCell _ _ _ _ (by show De ≠ rb; exact n2)).trans h2
  have k1' : (Wz.setCell ⟨rb, 0, none⟩ (.bool true)).heap[Dd]? = some (.deferred (some [])) := (Below.heap_setCell _ _ _ _ (by show Dd ≠ rb; exact n1)).trans h1
  have k2 : ((Wz.setCell ⟨rb, 0, none⟩ (.bool true)).putObj De (.deferred none)).heap[Dd]? = some (.deferred (some [])) := ((grownBy_putObj' _ De _).block Dd (row_lt k1') (fun e => by have := Option.some.inj e; omega)).trans k1'
  have b1 : (Wz.setCell ⟨rb, 0, none⟩ (.bool true)).heap[rb]? = some (.cells #[.bool true] 4) := by
    have := heap_setCell_same Wz rb 0 _ _ (.bool true) hb
    exact this
  have b2 := ((grownBy_putObj' (Wz.setCell ⟨rb, 0, none⟩ (.bool true)) De (.deferred none)).block rb (row_lt b1) (fun e => n2 (Option.some.inj e).symm)).trans b1
  have b3 := ((grownBy_putObj' ((Wz.setCell ⟨rb, 0, none⟩ (.bool true)).putObj De (.deferred none)) Dd (.deferred none)).block rb (row_lt b2) (fun e => n1 (Option.some.inj e).symm)).trans b2
  refine ⟨k1, k2, by rw [cell_of_row _ rb 0 _ _ _ b3]; rfl, ?_⟩
  have e1 : Below w.heap.size w (Wz.setCell ⟨rb, 0, none⟩ (.bool true)) := bel.setCell (p := ⟨rb, 0, none⟩) l1 _
  have e2 := e1.grown (grownBy_putObj' _ De (.deferred none)) e1.size (fun k e => by have := Option.some.inj e; omega)
  exact e2.grown (grownBy_putObj' _ Dd (.deferred none)) e2.size (fun k e => by have := Option.some.inj e; omega)
theorem flatD_len (t : VT) : (flatD t 0).length = t.sz := by rw [← flT_len, ← flatD_snd t 0, List.length_map]

set_option maxRecDepth 100000 in
set_option maxHeartbeats 16000000 in
theorem vtreeGoes_walk0 (G : Nat → Prop) (v : Value) (t : VT) (stop : Int) (w : World) (h : VIs G w v t) (hsz : t.sz ≤ 1048576) :
    Calls Try.prog 3 #[v, .int .i64 stop] w fun e w' => e = .returned (.bool true) ∧ Below w.heap.size w w' := by
  refine (callsIn_wide (n := 20)).1 ?_
  obtain ⟨n0, en0⟩ : ∃ n, n = 20 := ⟨_, rfl⟩
  have h1n : 10 ≤ n0 := by omega
  rw [← en0]
  clear en0
  have hro : Fence.wide.round = none := rfl
  obtain ⟨aa, ca, ak, ck, e1, fd⟩ := h.form
  subst e1
  clear h
  obtain ⟨W0, eW⟩ : ∃ X, X = ((w.alloc (.cells #[.int .i64 t.k.1, .int .i64 t.k.2, .string t.tg, .string t.tx, .slice aa t.at_.length ca, .slice ak t.ks.length ck] 27)).alloc (.cells #[.int .i64 stop] 3)).alloc (.cells #[.bool false] 4) := ⟨_, rfl⟩
  have hb0 : Below w.heap.size w W0 := (by rw [eW]; exact (((Below.refl _ _).alloc (Nat.le_refl _) _).alloc (by simp) _).alloc (by simp; omega) _)
  have hs0 : W0.heap.size = w.heap.size + 3 := (by rw [eW]; simp)
  have hT : W0.heap[w.heap.size]? = some (.cells #[.int .i64 t.k.1, .int .i64 t.k.2, .string t.tg, .string t.tx, .slice aa t.at_.length ca, .slice ak t.ks.length ck] 27) := (by rw [eW, Below.heap_alloc _ _ _ (by simp; omega), Below.heap_alloc _ _ _ (by simp)]; exact heap_alloc_new _ _)
  have hS : W0.heap[w.heap.size + 1]? = some (.cells #[.int .i64 stop] 3) := (by rw [eW, Below.heap_alloc _ _ _ (by simp)]; have h9 := heap_alloc_new (w.alloc (.cells #[.int .i64 t.k.1, .int .i64 t.k.2, .string t.tg, .string t.tx, .slice aa t.at_.length ca, .slice ak t.ks.length ck] 27)) (.cells #[.int .i64 stop] 3); rw [show (w.alloc (.cells #[.int .i64 t.k.1, .int .i64 t.k.2, .string t.tg, .string t.tx, .slice aa t.at_.length ca, .slice ak t.ks.length ck] 27)).heap.size = w.heap.size + 1 by simp] at h9; exact h9)
  have hR : W0.heap[w.heap.size + 2]? = some (.cells #[.bool false] 4) := (by rw [eW]; have h9 := heap_alloc_new ((w.alloc (.cells #[.int .i64 t.k.1, .int .i64 t.k.2, .string t.tg, .string t.tx, .slice aa t.at_.length ca, .slice ak t.ks.length ck] 27)).alloc (.cells #[.int .i64 stop] 3)) (.cells #[.bool false] 4); rw [show ((w.alloc (.cells #[.int .i64 t.k.1, .int .i64 t.k.2, .string t.tg, .string t.tx, .slice aa t.at_.length ca, .slice ak t.ks.length ck] 27)).alloc (.cells #[.int .i64 stop] 3)).heap.size = w.heap.size + 2 by simp] at h9; exact h9)
  obtain ⟨y0, y1, y2, y3, y4, y5⟩ := row6 hT
  have HFd : Hid (FdIs (fun k => k < w.heap.size) W0 (.slice aa t.at_.length ca) (.slice ak t.ks.length ck) t.at_ t.ks) := fd.turn hb0.size fun k _ q => ⟨q, hb0.block k q⟩
  have HB := hide9 hb0
  have HE := hide9 eW
  have HT := hide9 hT
  have HS := hide9 hS
  have HR := hide9 hR
  have Hs0 := hide9 hs0
  clear fd hb0 eW hT hS hR hs0
  refine callsIn_of_wp_marks Try.func3 rfl trivial ?_ hro
  simp only [Try.ntmps3, List.size_toArray, List.length_cons, List.length_nil, Nat.reduceAdd, Nat.reduceSub, Array.replicate_succ, Array.replicate_zero, List.push_toArray, List.append_toArray, List.nil_append, List.cons_append]
  refine wpIn_wide.2 ?_
  obtain ⟨tb, etb⟩ : ∃ n, n = w.heap.size := ⟨_, rfl⟩
  obtain ⟨sb, esb⟩ : ∃ n, n = w.heap.size + 1 := ⟨_, rfl⟩
  obtain ⟨rb, erb⟩ : ∃ n, n = w.heap.size + 2 := ⟨_, rfl⟩
  rw [← etb] at HT y0 y1 y2 y3 y4 y5
  rw [← esb] at HS
  rw [← erb] at HR
  have HLo : Hid (w.heap.size ≤ sb ∧ w.heap.size ≤ rb ∧ sb ≠ rb ∧ tb ≠ rb ∧ W0.heap.size = w.heap.size + 3 ∧ sb < W0.heap.size ∧ rb < W0.heap.size) := (by have := Hs0.out; refine ⟨?_, ?_, ?_, ?_, ?_, ?_, ?_⟩ <;> omega)
  have HEb0 : Hid (tb = w.heap.size ∧ w.heap.size + 1 = sb ∧ w.heap.size + 1 + 1 = rb) := ⟨etb, esb.symm, by omega⟩
  clear etb esb erb
  skip
  go_wp2_with fail
  (try rw [← HE.out])
  rw [HEb0.out.2.2, HEb0.out.2.1, ← HEb0.out.1]
  clear HEb0 HE Hs0 y0 y1 y2 y3 y4 y5
  refine (many_any _ t _ _ (VIs.of HFd.out) hsz).mono ?_
  rintro e W1 ⟨rfl, hb⟩
  replace HT : Hid (W1.heap[tb]? = some (.cells #[.int .i64 t.k.1, .int .i64 t.k.2, .string t.tg, .string t.tx, .slice aa t.at_.length ca, .slice ak t.ks.length ck] 27)) := (hb.block _ (row_lt HT.out)).trans HT.out
  replace HS : Hid (W1.heap[sb]? = some (.cells #[.int .i64 stop] 3)) := (hb.block _ (row_lt HS.out)).trans HS.out
  replace HR : Hid (W1.heap[rb]? = some (.cells #[.bool false] 4)) := (hb.block _ (row_lt HR.out)).trans HR.out
  replace HFd := hide9 (HFd.out.below hb)
  replace HB := hide9 (HB.out.trans (hb.mono HB.out.size))
  replace HLo : Hid (w.heap.size ≤ sb ∧ w.heap.size ≤ rb ∧ sb ≠ rb ∧ tb ≠ rb ∧ sb < W1.heap.size ∧ rb < W1.heap.size) := (by obtain ⟨h1, h2, h3, h4, _, h5, h6⟩ := HLo.out; have := hb.size; exact ⟨h1, h2, h3, h4, by omega, by omega⟩)
  have HW1 : Hid (w.heap.size ≤ W1.heap.size ∧ tb < W1.heap.size) := ⟨HB.out.size, row_lt HT.out⟩
  clear hb
  by_cases hmn : 1500 < t.sz
  · rw [decide_eq_true hmn]
    clear hmn
    go_wp2_with fail
    refine (awake_any _).mono ?_
    rintro e W2 ⟨rfl, hb⟩
    replace HT : Hid (W2.heap[tb]? = some (.cells #[.int .i64 t.k.1, .int .i64 t.k.2, .string t.tg, .string t.tx, .slice aa t.at_.length ca, .slice ak t.ks.length ck] 27)) := (hb.block _ (row_lt HT.out)).trans HT.out
    replace HS : Hid (W2.heap[sb]? = some (.cells #[.int .i64 stop] 3)) := (hb.block _ (row_lt HS.out)).trans HS.out
    replace HR : Hid (W2.heap[rb]? = some (.cells #[.bool false] 4)) := (hb.block _ (row_lt HR.out)).trans HR.out
    replace HFd := hide9 (HFd.out.below hb)
    replace HB := hide9 (HB.out.trans (hb.mono HB.out.size))
    clear hb
    have cr := (by have h9 := cell_of_row W2 rb 0 _ _ _ HR.out; exact h9)
    have fr := frozen_of_row W2 rb 0 _ _ HR.out
    go_wp2
    have HR3 : Hid ((W2.setCell ⟨rb, 0, none⟩ (.bool true)).heap[rb]? = some (.cells #[.bool true] 4)) := (by rw [heap_setCell_same W2 rb 0 _ _ _ HR.out]; rfl)
    exact ⟨_, results_boolCell4 rfl _ rb _ true rfl (by rw [cell_of_row _ _ _ _ _ _ HR3.out]; rfl), rfl, HB.out.setCell (p := ⟨rb, 0, none⟩) HLo.out.2.1 _⟩
  · rw [decide_eq_false hmn]
    have hmn := hide9 hmn
    obtain ⟨y0, y1, y2, y3, y4, y5⟩ := row6 HT.out
    go_wp2_with fail
    clear y0 y1 y2 y3 y4 y5
    refine (refCopy_sep _ t _ _ (VIs.of HFd.out)).mono ?_
    rintro e W2 ⟨v', F1, rfl, _, hF1, hb, av, kv, rfl, hsp⟩
    obtain ⟨ya, cy, yk, dy, ea, ek⟩ := SepF.form _ hsp
    subst ea ek
    replace HT : Hid (W2.heap[tb]? = some (.cells #[.int .i64 t.k.1, .int .i64 t.k.2, .string t.tg, .string t.tx, .slice aa t.at_.length ca, .slice ak t.ks.length ck] 27)) := (hb.block _ (row_lt HT.out)).trans HT.out
    replace HS : Hid (W2.heap[sb]? = some (.cells #[.int .i64 stop] 3)) := (hb.block _ (row_lt HS.out)).trans HS.out
    replace HR : Hid (W2.heap[rb]? = some (.cells #[.bool false] 4)) := (hb.block _ (row_lt HR.out)).trans HR.out
    replace HFd := hide9 (HFd.out.below hb)
    replace HB := hide9 (HB.out.trans (hb.mono HB.out.size))
    have HF1 : Hid (∀ k, F1 k → W1.heap.size ≤ k) := fun k q => (hF1 k q).1
    have HW12 : Hid (W1.heap.size ≤ W2.heap.size) := hb.size
    have HSq : Hid (Sq t F1 (.slice ya t.at_.length cy) (.slice yk t.ks.length dy) W2) := ⟨hsp, fun k q => (hF1 k q).2⟩
    clear hsp hF1 hb
    have Hz : Hid ((W2.alloc (.cells #[.int .i64 0, .int .i64 0, .string ⟨#[]⟩, .string ⟨#[]⟩, .slice none 0 0, .slice none 0 0] 27)).heap[W2.heap.size]? = some (.cells #[.int .i64 0, .int .i64 0, .string ⟨#[]⟩, .string ⟨#[]⟩, .slice none 0 0, .slice none 0 0] 27)) := heap_alloc_new _ _
    obtain ⟨W3, eW⟩ : ∃ X, X = (W2.alloc (.cells #[.int .i64 0, .int .i64 0, .string ⟨#[]⟩, .string ⟨#[]⟩, .slice none 0 0, .slice none 0 0] 27)).setRow W2.heap.size #[.int .i64 t.k.1, .int .i64 t.k.2, .string t.tg, .string t.tx, .slice ya t.at_.length cy, .slice yk t.ks.length dy] := ⟨_, rfl⟩
    have hb : Below W2.heap.size W2 W3 := (by rw [eW]; exact ((Below.refl _ _).alloc (Nat.le_refl _) _).grown (grown_setRow _ _ _) (by simp) (fun k e => by cases e; exact Nat.le_refl _))
    obtain ⟨ob, enb⟩ : ∃ n, n = W2.heap.size := ⟨_, rfl⟩
    have HO : Hid (W3.heap[ob]? = some (.cells #[.int .i64 t.k.1, .int .i64 t.k.2, .string t.tg, .string t.tx, .slice ya t.at_.length cy, .slice yk t.ks.length dy] 27)) := (by rw [eW, enb]; exact setRow_same Hz.out)
    replace HT : Hid (W3.heap[tb]? = some (.cells #[.int .i64 t.k.1, .int .i64 t.k.2, .string t.tg, .string t.tx, .slice aa t.at_.length ca, .slice ak t.ks.length ck] 27)) := (hb.block _ (row_lt HT.out)).trans HT.out
    replace HS : Hid (W3.heap[sb]? = some (.cells #[.int .i64 stop] 3)) := (hb.block _ (row_lt HS.out)).trans HS.out
    replace HR : Hid (W3.heap[rb]? = some (.cells #[.bool false] 4)) := (hb.block _ (row_lt HR.out)).trans HR.out
    replace HFd := hide9 (HFd.out.below hb)
    replace HB := hide9 (HB.out.trans (hb.mono HB.out.size))
    replace HSq := hide9 (HSq.out.below hb)
    have HF1h : Hid (∀ k, F1 k → W1.heap.size ≤ k ∧ k < W3.heap.size) := fun k q => ⟨HF1.out k q, HSq.out.2 k q⟩
    have HSz : Hid (w.heap.size ≤ W1.heap.size ∧ W1.heap.size ≤ W2.heap.size ∧ W2.heap.size ≤ W3.heap.size ∧ tb < W1.heap.size) := ⟨HW1.out.1, HW12.out, hb.size, HW1.out.2⟩
    have HEv := hide9 eW
    have Hnb := hide9 enb
    clear eW hb enb
    go_upto_region 4 with (refine wpList_store_row rfl 27 (.tmp 5) (.tmp 19) rfl W2.heap.size 27 #[.int .i64 0, .int .i64 0, .string ⟨#[]⟩, .string ⟨#[]⟩, .slice none 0 0, .slice none 0 0] #[.int .i64 t.k.1, .int .i64 t.k.2, .string t.tg, .string t.tx, .slice ya t.at_.length cy, .slice yk t.ks.length dy] rfl rfl Hz.out sizeVG rfl (by simp [Value.oneCell']) ?_)
    rw [← HEv.out, ← Hnb.out]
    clear HEv Hz Hnb HF1
    obtain ⟨y0, y1, y2, y3, y4, y5⟩ := row6 HO.out
    go_wp2_with fail
    clear y0 y1 y2 y3 y4 y5
    refine (each_any _ t _ _ (VIs.of (HSq.out.1.vis _))).mono ?_
    rintro e W4 ⟨be, za, cz, zk, dz, F2, rfl, hbe, hfe, hF2, hle, hb⟩
    replace HT : Hid (W4.heap[tb]? = some (.cells #[.int .i64 t.k.1, .int .i64 t.k.2, .string t.tg, .string t.tx, .slice aa t.at_.length ca, .slice ak t.ks.length ck] 27)) := (hb.block _ (row_lt HT.out)).trans HT.out
    replace HS : Hid (W4.heap[sb]? = some (.cells #[.int .i64 stop] 3)) := (hb.block _ (row_lt HS.out)).trans HS.out
    replace HR : Hid (W4.heap[rb]? = some (.cells #[.bool false] 4)) := (hb.block _ (row_lt HR.out)).trans HR.out
    replace HO : Hid (W4.heap[ob]? = some (.cells #[.int .i64 t.k.1, .int .i64 t.k.2, .string t.tg, .string t.tx, .slice ya t.at_.length cy, .slice yk t.ks.length dy] 27)) := (hb.block _ (row_lt HO.out)).trans HO.out
    replace HFd := hide9 (HFd.out.below hb)
    replace HB := hide9 (HB.out.trans (hb.mono HB.out.size))
    have HEb : Hid (W4.heap[be]? = some (.cells #[.int .i64 t.k.1, .int .i64 t.k.2, .string t.tg, .string t.tx, .slice za t.at_.length cz, .slice zk t.ks.length dz] 27)) := hbe
    have HFe := hide9 hfe
    have HF2 : Hid (∀ k, F2 k → W3.heap.size ≤ k ∧ k < W4.heap.size) := hF2
    have Hbe : Hid (W3.heap.size ≤ be ∧ be < W4.heap.size) := ⟨hle, row_lt hbe⟩
    replace HSq := hide9 (HSq.out.below hb)
    have HW34 : Hid (W3.heap.size ≤ W4.heap.size) := hb.size
    clear hbe hfe hF2 hle hb
    have hq := eql_nilE be
    obtain ⟨y0, y1, y2, y3, y4, y5⟩ := row6 HO.out
    go_wp2_with fail
    clear y0 y1 y2 y3 y4 y5 hq
    refine (spoil_n t.sz F1 t _ _ _ HSq.out.1 HSq.out.2).mono ?_
    rintro e W5 ⟨⟨v9, rfl⟩, ht⟩
    replace HT : Hid (W5.heap[tb]? = some (.cells #[.int .i64 t.k.1, .int .i64 t.k.2, .string t.tg, .string t.tx, .slice aa t.at_.length ca, .slice ak t.ks.length ck] 27)) := (ht.block _ (row_lt HT.out) (fun q => by have h1 := HF1h.out _ q; have h2 := HSz.out; have h3 := HLo.out; omega)).trans HT.out
    replace HS : Hid (W5.heap[sb]? = some (.cells #[.int .i64 stop] 3)) := (ht.block _ (row_lt HS.out) (fun q => by have h1 := HF1h.out _ q; have h2 := HSz.out; have h3 := HLo.out; omega)).trans HS.out
    replace HR : Hid (W5.heap[rb]? = some (.cells #[.bool false] 4)) := (ht.block _ (row_lt HR.out) (fun q => by have h1 := HF1h.out _ q; have h2 := HSz.out; have h3 := HLo.out; omega)).trans HR.out
    replace HEb : Hid (W5.heap[be]? = some (.cells #[.int .i64 t.k.1, .int .i64 t.k.2, .string t.tg, .string t.tx, .slice za t.at_.length cz, .slice zk t.ks.length dz] 27)) := (ht.block _ (row_lt HEb.out) (fun q => by have h1 := HF1h.out _ q; have h2 := Hbe.out; omega)).trans HEb.out
    replace HFe := hide9 (HFe.out.touch ht (fun k q z => by have h1 := HF1h.out _ z; have h2 := HF2.out k q; omega))
    replace HFd := hide9 (HFd.out.touch ht (fun k q z => by have h1 := HF1h.out _ z; have h2 := HSz.out; omega))
    replace HB : Hid (Below w.heap.size w W5) := HB.out.trans (ht.below (fun k q => by have h1 := HF1h.out _ q; have h2 := HSz.out; omega) HB.out.size)
    have HW45 : Hid (W4.heap.size ≤ W5.heap.size) := ht.size
    clear ht HSq HO HF1h
    obtain ⟨y0, y1, y2, y3, y4, y5⟩ := row6 HT.out
    go_wp2_with fail
    clear y0 y1 y2 y3 y4 y5
    refine (flatF_any _ t _ _ (VIs.of HFd.out) hsz).mono ?_
    rintro e W6 ⟨wv, E, rfl, h1, h2, h3, hb⟩
    replace HT : Hid (W6.heap[tb]? = some (.cells #[.int .i64 t.k.1, .int .i64 t.k.2, .string t.tg, .string t.tx, .slice aa t.at_.length ca, .slice ak t.ks.length ck] 27)) := (hb.block _ (row_lt HT.out)).trans HT.out
    replace HS : Hid (W6.heap[sb]? = some (.cells #[.int .i64 stop] 3)) := (hb.block _ (row_lt HS.out)).trans HS.out
    replace HR : Hid (W6.heap[rb]? = some (.cells #[.bool false] 4)) := (hb.block _ (row_lt HR.out)).trans HR.out
    replace HEb : Hid (W6.heap[be]? = some (.cells #[.int .i64 t.k.1, .int .i64 t.k.2, .string t.tg, .string t.tx, .slice za t.at_.length cz, .slice zk t.ks.length dz] 27)) := (hb.block _ (row_lt HEb.out)).trans HEb.out
    replace HFd := hide9 (HFd.out.below hb)
    replace HB := hide9 (HB.out.trans (hb.mono HB.out.size))
    replace HFe := hide9 (HFe.out.below hb)
    have hEl : E.length = t.sz := (by rw [← flT_len, ← h2, List.length_map])
    obtain ⟨aw, cw, e1⟩ := OwnE.form h1
    subst e1
    rw [hEl] at h1 ⊢
    have HOw0 : Hid (∀ k, (Value.slice aw t.sz cw).ownBlock = some k → k < W6.heap.size) := fun k e => (World.ownsRow.lt h1 k e).2
    have HOw := hide9 h1
    have HEm := hide9 h2
    have HFs : Hid (∀ x ∈ E, FdIs (fun k => k < W5.heap.size) W6 x.2.1 x.2.2 x.1.at_ x.1.ks) := h3
    have HW56 : Hid (W5.heap.size ≤ W6.heap.size) := hb.size
    clear h1 h2 h3 hb hEl
    go_upto_region 9 with fail
    obtain ⟨wb, enb⟩ : ∃ n, n = W6.heap.size := ⟨_, rfl⟩
    obtain ⟨W7, eW⟩ : ∃ X, X = W6.alloc (.cells #[.slice aw t.sz cw] 25) := ⟨_, rfl⟩
    have hb : Below W6.heap.size W6 W7 := (by rw [eW]; exact (Below.refl _ _).alloc (Nat.le_refl _) _)
    have HWb : Hid (W7.heap[wb]? = some (.cells #[.slice aw t.sz cw] 25)) := (by rw [eW, enb]; exact heap_alloc_new _ _)
    have Hwbz : Hid (wb = W6.heap.size ∧ W7.heap.size = W6.heap.size + 1) := ⟨enb, by rw [eW]; simp⟩
    replace HT : Hid (W7.heap[tb]? = some (.cells #[.int .i64 t.k.1, .int .i64 t.k.2, .string t.tg, .string t.tx, .slice aa t.at_.length ca, .slice ak t.ks.length ck] 27)) := (hb.block _ (row_lt HT.out)).trans HT.out
    replace HS : Hid (W7.heap[sb]? = some (.cells #[.int .i64 stop] 3)) := (hb.block _ (row_lt HS.out)).trans HS.out
    replace HR : Hid (W7.heap[rb]? = some (.cells #[.bool false] 4)) := (hb.block _ (row_lt HR.out)).trans HR.out
    replace HEb : Hid (W7.heap[be]? = some (.cells #[.int .i64 t.k.1, .int .i64 t.k.2, .string t.tg, .string t.tx, .slice za t.at_.length cz, .slice zk t.ks.length dz] 27)) := (hb.block _ (row_lt HEb.out)).trans HEb.out
    replace HFd := hide9 (HFd.out.below hb)
    replace HB := hide9 (HB.out.trans (hb.mono HB.out.size))
    replace HFe := hide9 (HFe.out.below hb)
    replace HOw := hide9 (OwnE.below HOw.out hb)
    replace HFs : Hid (∀ x ∈ E, FdIs (fun k => k < W5.heap.size) W7 x.2.1 x.2.2 x.1.at_ x.1.ks) := fun x hx => (HFs.out x hx).below hb
    rw [← eW, ← enb]
    clear eW hb enb
    obtain ⟨y0, y1, y2, y3, y4, y5⟩ := row6 HT.out
    go_wp2_with fail
    clear y0 y1 y2 y3 y4 y5
    refine (deepsF_any _ t _ _ (VIs.of HFd.out) hsz).mono ?_
    rintro e W8 ⟨dv, rfl, h1, hb⟩
    replace HT : Hid (W8.heap[tb]? = some (.cells #[.int .i64 t.k.1, .int .i64 t.k.2, .string t.tg, .string t.tx, .slice aa t.at_.length ca, .slice ak t.ks.length ck] 27)) := (hb.block _ (row_lt HT.out)).trans HT.out
    replace HS : Hid (W8.heap[sb]? = some (.cells #[.int .i64 stop] 3)) := (hb.block _ (row_lt HS.out)).trans HS.out
    replace HR : Hid (W8.heap[rb]? = some (.cells #[.bool false] 4)) := (hb.block _ (row_lt HR.out)).trans HR.out
    replace HEb : Hid (W8.heap[be]? = some (.cells #[.int .i64 t.k.1, .int .i64 t.k.2, .string t.tg, .string t.tx, .slice za t.at_.length cz, .slice zk t.ks.length dz] 27)) := (hb.block _ (row_lt HEb.out)).trans HEb.out
    replace HWb : Hid (W8.heap[wb]? = some (.cells #[.slice aw t.sz cw] 25)) := (hb.block _ (row_lt HWb.out)).trans HWb.out
    replace HFd := hide9 (HFd.out.below hb)
    replace HB := hide9 (HB.out.trans (hb.mono HB.out.size))
    replace HFe := hide9 (HFe.out.below hb)
    replace HOw := hide9 (OwnE.below HOw.out hb)
    replace HFs : Hid (∀ x ∈ E, FdIs (fun k => k < W5.heap.size) W8 x.2.1 x.2.2 x.1.at_ x.1.ks) := fun x hx => (HFs.out x hx).below hb
    obtain ⟨ad, cd, e1⟩ := OwnE.form h1
    subst e1
    rw [dpL_len] at h1 ⊢
    have HOd0 : Hid (∀ k, (Value.slice ad t.sz cd).ownBlock = some k → k < W8.heap.size) := fun k e => (World.ownsRow.lt h1 k e).2
    have HOd := hide9 h1
    have HW78 : Hid (W7.heap.size ≤ W8.heap.size) := hb.size
    clear h1 hb
    go_upto_region 10 with fail
    obtain ⟨db, enb⟩ : ∃ n, n = W8.heap.size := ⟨_, rfl⟩
    obtain ⟨W9, eW⟩ : ∃ X, X = W8.alloc (.cells #[.slice ad t.sz cd] 36) := ⟨_, rfl⟩
    have hb : Below W8.heap.size W8 W9 := (by rw [eW]; exact (Below.refl _ _).alloc (Nat.le_refl _) _)
    have HDb : Hid (W9.heap[db]? = some (.cells #[.slice ad t.sz cd] 36)) := (by rw [eW, enb]; exact heap_alloc_new _ _)
    have Hdbz : Hid (db = W8.heap.size ∧ W9.heap.size = W8.heap.size + 1) := ⟨enb, by rw [eW]; simp⟩
    replace HT : Hid (W9.heap[tb]? = some (.cells #[.int .i64 t.k.1, .int .i64 t.k.2, .string t.tg, .string t.tx, .slice aa t.at_.length ca, .slice ak t.ks.length ck] 27)) := (hb.block _ (row_lt HT.out)).trans HT.out
    replace HS : Hid (W9.heap[sb]? = some (.cells #[.int .i64 stop] 3)) := (hb.block _ (row_lt HS.out)).trans HS.out
    replace HR : Hid (W9.heap[rb]? = some (.cells #[.bool false] 4)) := (hb.block _ (row_lt HR.out)).trans HR.out
    replace HEb : Hid (W9.heap[be]? = some (.cells #[.int .i64 t.k.1, .int .i64 t.k.2, .string t.tg, .string t.tx, .slice za t.at_.length cz, .slice zk t.ks.length dz] 27)) := (hb.block _ (row_lt HEb.out)).trans HEb.out
    replace HWb : Hid (W9.heap[wb]? = some (.cells #[.slice aw t.sz cw] 25)) := (hb.block _ (row_lt HWb.out)).trans HWb.out
    replace HFd := hide9 (HFd.out.below hb)
    replace HB := hide9 (HB.out.trans (hb.mono HB.out.size))
    replace HFe := hide9 (HFe.out.below hb)
    replace HOw := hide9 (OwnE.below HOw.out hb)
    replace HFs : Hid (∀ x ∈ E, FdIs (fun k => k < W5.heap.size) W9 x.2.1 x.2.2 x.1.at_ x.1.ks) := fun x hx => (HFs.out x hx).below hb
    replace HOd := hide9 (OwnE.below HOd.out hb)
    rw [← eW, ← enb]
    clear eW hb enb
    go_upto_region 11 with fail
    obtain ⟨nb, enb⟩ : ∃ n, n = W9.heap.size := ⟨_, rfl⟩
    obtain ⟨W10, eW⟩ : ∃ X, X = W9.alloc (.cells #[.int .i64 0] 3) := ⟨_, rfl⟩
    have hb : Below W9.heap.size W9 W10 := (by rw [eW]; exact (Below.refl _ _).alloc (Nat.le_refl _) _)
    have HN : Hid (W10.heap[nb]? = some (.cells #[.int .i64 0] 3)) := (by rw [eW, enb]; exact heap_alloc_new _ _)
    have Hnbz : Hid (nb = W9.heap.size ∧ W10.heap.size = W9.heap.size + 1) := ⟨enb, by rw [eW]; simp⟩
    replace HT : Hid (W10.heap[tb]? = some (.cells #[.int .i64 t.k.1, .int .i64 t.k.2, .string t.tg, .string t.tx, .slice aa t.at_.length ca, .slice ak t.ks.length ck] 27)) := (hb.block _ (row_lt HT.out)).trans HT.out
    replace HS : Hid (W10.heap[sb]? = some (.cells #[.int .i64 stop] 3)) := (hb.block _ (row_lt HS.out)).trans HS.out
    replace HR : Hid (W10.heap[rb]? = some (.cells #[.bool false] 4)) := (hb.block _ (row_lt HR.out)).trans HR.out
    replace HEb : Hid (W10.heap[be]? = some (.cells #[.int .i64 t.k.1, .int .i64 t.k.2, .string t.tg, .string t.tx, .slice za t.at_.length cz, .slice zk t.ks.length dz] 27)) := (hb.block _ (row_lt HEb.out)).trans HEb.out
    replace HWb : Hid (W10.heap[wb]? = some (.cells #[.slice aw t.sz cw] 25)) := (hb.block _ (row_lt HWb.out)).trans HWb.out
    replace HDb : Hid (W10.heap[db]? = some (.cells #[.slice ad t.sz cd] 36)) := (hb.block _ (row_lt HDb.out)).trans HDb.out
    replace HFd := hide9 (HFd.out.below hb)
    replace HB := hide9 (HB.out.trans (hb.mono HB.out.size))
    replace HFe := hide9 (HFe.out.below hb)
    replace HOw := hide9 (OwnE.below HOw.out hb)
    replace HFs : Hid (∀ x ∈ E, FdIs (fun k => k < W5.heap.size) W10 x.2.1 x.2.2 x.1.at_ x.1.ks) := fun x hx => (HFs.out x hx).below hb
    replace HOd := hide9 (OwnE.below HOd.out hb)
    have HW910 : Hid (W9.heap.size ≤ W10.heap.size) := hb.size
    rw [← eW, ← enb]
    clear eW hb enb
    have hz1 := HLo.out
    have hz2 := Hnbz.out
    have hz3 := Hdbz.out
    have hz4 := Hwbz.out
    have hz5 := HW78.out
    have hz6 := HW56.out
    have hz7 := HW45.out
    have hz8 := HW34.out
    have hz9 := Hbe.out
    have hz10 := HSz.out
    have hva : VAt (fun k => k < nb) W10 t be 0 := (by obtain ⟨c0, c1, c2, c3, c4, c5⟩ := row6 HEb.out; refine VAt_iff.2 ⟨_, _, fun j u hj => ?_, HFe.out.mono fun k q _ => by have := HF2.out k q; omega⟩; rw [Nat.zero_add]; exact (match j, hj with | 0, hj => by (injection hj with hj; subst hj; exact c0) | 1, hj => by (injection hj with hj; subst hj; exact c1) | 2, hj => by (injection hj with hj; subst hj; exact c2) | 3, hj => by (injection hj with hj; subst hj; exact c3) | 4, hj => by (injection hj with hj; subst hj; exact c4) | 5, hj => by (injection hj with hj; subst hj; exact c5) | j + 6, hj => by simp [ndC] at hj))
    have hbw : ∀ k, (Value.slice aw t.sz cw).ownBlock = some k → k < nb := fun k e => (by have := (HOw0.out k e); omega)
    have hbd : ∀ k, (Value.slice ad t.sz cd).ownBlock = some k → k < nb := fun k e => (by have := (HOd0.out k e); omega)
    have HG : Hid (GxS w tb sb rb wb db be nb t stop aw cw ad cd E W10) := ⟨HS.out, HR.out, HWb.out, HDb.out, OwnE.low HOw.out (Nat.zero_le _), HEm.out, fun x hx => (HFs.out x hx).mono fun k q _ => by omega, OwnE.low HOd.out (Nat.zero_le _), fun k e => hbw k e, fun k e => hbd k e, hva, by omega⟩
    have HBn : Hid (Below w.heap.size w W10) := HB.out
    have HNlt : Hid (nb < W10.heap.size ∧ w.heap.size ≤ nb) := ⟨by omega, by omega⟩
    have HNr : Hid (W10.heap[nb]? = some (.cells #[.int .i64 ((0 : Nat) : Int)] 3)) := HN.out
    clear hva hbw hbd hz1 hz2 hz3 hz4 hz5 hz6 hz7 hz8 hz9 hz10
    have HSq1 := each1_seq (n0 - 1) (by omega) (fun k => k < nb) W10.heap.size be t W10 (fun k q => Nat.lt_trans q HNlt.out.1) (Nat.le_refl _) HG.out.ev (by have := HG.out.lt; omega) hsz
    have HRn : Hid (w.heap.size ≤ rb) := HG.out.lt.2.2.1
    clear HS HR HWb HDb HOw HEm HFs HOd HEb HFe HF2 HFd HT HB HN
    go_wp2
    refine (wpIn_wide (n := n0)).1 ?_
    refine range_ofY (by omega) (gf := 17) (lb := #[.pointer (some ⟨be, 0, none⟩)]) rfl (enters_of Try.func17 (by kernel_rfl) rfl) HSq1 KpE.trans (fun W l o o' hl ho hc _ => KpE.obj hl (fun k q => Nat.lt_trans q HNlt.out.1) ho hc) (Below.refl _ _) (fun x u W h => by obtain ⟨_, _, _, rfl, _⟩ := h; rfl)
      (fun k W => (W.heap[nb]? = some (.cells #[.int .i64 ((k : Nat) : Int)] 3) ∧ Below nb W10 W)) (fun c k W => c = .exit 0 ∧ ∃ m : Nat, k = m + 1 ∧ (m : Int) = stop ∧ m < (flatD t 0).length ∧ (W.heap[nb]? = some (.cells #[.int .i64 ((m : Nat) : Int)] 3) ∧ Below nb W10 W))
      (fun k A B row h1 hg hr => ⟨row_own h1.1 hg (fun r e => (hr r e).2), h1.2.grown hg (Nat.le_trans (Nat.le_of_lt HNlt.out.1) h1.2.size) (fun j e => by have := (hr j e).1; have := HNlt.out.1; omega)⟩) (fun c k A B row hf hg hr => by obtain ⟨e1, m, e2, e3, e4, h1⟩ := hf; exact ⟨e1, m, e2, e3, e4, ⟨row_own h1.1 hg (fun r e => (hr r e).2), h1.2.grown hg (Nat.le_trans (Nat.le_of_lt HNlt.out.1) h1.2.size) (fun j e => by have := (hr j e).1; have := HNlt.out.1; omega)⟩⟩) ⟨HNr.out, Below.refl _ _⟩
      (fun x a' W => ∃ xb sa sc sk dk F, AxX W10.heap.size xb x sa sc sk dk F W ∧ ∃ u : Nat → Value, a' = { tmps := #[u 0, u 1, .pointer (some ⟨tb, 0, none⟩), .pointer (some ⟨sb, 0, none⟩), .pointer (some ⟨rb, 0, none⟩), u 5, .func (.func 17) #[] #[.pointer (some ⟨be, 0, none⟩)], .pointer (some ⟨wb, 0, none⟩), .pointer (some ⟨db, 0, none⟩), .pointer (some ⟨nb, 0, none⟩), .int .i64 (x.1 : Int), .pointer (some ⟨xb, 0, none⟩), u 12, u 13, u 14, u 15, u 16, u 17, u 18, u 19, u 20, u 21, u 22, u 23, u 24, u 25, u 26, u 27, u 28, u 29, u 30, u 31, u 32, u 33, u 34, u 35, u 36, u 37, u 38, u 39, u 40, u 41, u 42, u 43, u 44, u 45, u 46, u 47, u 48, u 49, u 50, u 51, u 52, u 53, u 54, u 55, u 56, u 57, u 58, u 59, u 60, u 61, u 62, u 63, u 64, u 65, u 66, u 67, u 68, u 69, u 70, u 71, u 72, u 73, u 74, u 75, u 76, u 77, u 78, u 79, u 80, u 81, u 82, u 83, u 84, u 85, u 86, u 87, u 88, u 89, u 90, u 91, u 92, u 93, u 94, u 95, u 96, u 97, u 98, u 99, u 100, u 101, u 102, u 103, u 104], defers := [] })
      (fun x a' u A B row ⟨xb, sa, sc, sk, dk, F, h1, h5⟩ hg hr => ⟨xb, sa, sc, sk, dk, F, h1.grown hg (fun r e => (hr r e).2), h5⟩)
      ?assign1 ?body1 ?done1 ?stop1
    case assign1 =>
      rintro l k hk uu Wa K hu hI hK
      obtain ⟨x, hx⟩ : ∃ x, x = (flatD t 0)[k] := ⟨_, rfl⟩
      rw [← hx] at hK hu
      clear hx
      obtain ⟨av, kv, F, rfl, hsep, hF⟩ := hu
      obtain ⟨sa, sc, sk, dk, ea, ek⟩ := SepF.form _ hsep
      subst ea ek
      have Hz : Hid ((Wa.alloc (.cells #[.int .i64 0, .int .i64 0, .string ⟨#[]⟩, .string ⟨#[]⟩, .slice none 0 0, .slice none 0 0] 27)).heap[Wa.heap.size]? = some (.cells #[.int .i64 0, .int .i64 0, .string ⟨#[]⟩, .string ⟨#[]⟩, .slice none 0 0, .slice none 0 0] 27)) := heap_alloc_new _ _
      obtain ⟨Wn, eW⟩ : ∃ X, X = (Wa.alloc (.cells #[.int .i64 0, .int .i64 0, .string ⟨#[]⟩, .string ⟨#[]⟩, .slice none 0 0, .slice none 0 0] 27)).setRow Wa.heap.size #[.int .i64 x.2.k.1, .int .i64 x.2.k.2, .string x.2.tg, .string x.2.tx, (.slice sa x.2.at_.length sc), (.slice sk x.2.ks.length dk)] := ⟨_, rfl⟩
      have hb : Below Wa.heap.size Wa Wn := (by rw [eW]; exact ((Below.refl _ _).alloc (Nat.le_refl _) _).grown (grown_setRow _ _ _) (by simp) (fun k e => by cases e; exact Nat.le_refl _))
      obtain ⟨xb, exb⟩ : ∃ n, n = Wa.heap.size := ⟨_, rfl⟩
      have hax : AxX W10.heap.size xb x sa sc sk dk F Wn := ⟨by rw [eW, exb]; exact setRow_same Hz.out, hsep.turn _ fun k q => hb.block k (hF k q).2.1, fun k q => ⟨(hF k q).1, by rw [exb]; exact (hF k q).2.1, by obtain ⟨c, f, hc⟩ := (hF k q).2.2; exact ⟨c, f, hc.imp (hb.block k (hF k q).2.1).trans (hb.block k (hF k q).2.1).trans⟩⟩, by rw [exb]; exact hI.2.size⟩
      have hI2 : (Wn.heap[nb]? = some (.cells #[.int .i64 ((k : Nat) : Int)] 3) ∧ Below nb W10 Wn) := ⟨(hb.block _ (row_lt hI.1)).trans hI.1, hI.2.trans (hb.mono (Nat.le_trans (Nat.le_of_lt HNlt.out.1) hI.2.size))⟩
      have HFin : Hid (∀ a' : Act, a' = { tmps := #[a'.tmps.getD 0 undef, a'.tmps.getD 1 undef, .pointer (some ⟨tb, 0, none⟩), .pointer (some ⟨sb, 0, none⟩), .pointer (some ⟨rb, 0, none⟩), a'.tmps.getD 5 undef, .func (.func 17) #[] #[.pointer (some ⟨be, 0, none⟩)], .pointer (some ⟨wb, 0, none⟩), .pointer (some ⟨db, 0, none⟩), .pointer (some ⟨nb, 0, none⟩), .int .i64 (x.1 : Int), .pointer (some ⟨xb, 0, none⟩), a'.tmps.getD 12 undef, a'.tmps.getD 13 undef, a'.tmps.getD 14 undef, a'.tmps.getD 15 undef, a'.tmps.getD 16 undef, a'.tmps.getD 17 undef, a'.tmps.getD 18 undef, a'.tmps.getD 19 undef, a'.tmps.getD 20 undef, a'.tmps.getD 21 undef, a'.tmps.getD 22 undef, a'.tmps.getD 23 undef, a'.tmps.getD 24 undef, a'.tmps.getD 25 undef, a'.tmps.getD 26 undef, a'.tmps.getD 27 undef, a'.tmps.getD 28 undef, a'.tmps.getD 29 undef, a'.tmps.getD 30 undef, a'.tmps.getD 31 undef, a'.tmps.getD 32 undef, a'.tmps.getD 33 undef, a'.tmps.getD 34 undef, a'.tmps.getD 35 undef, a'.tmps.getD 36 undef, a'.tmps.getD 37 undef, a'.tmps.getD 38 undef, a'.tmps.getD 39 undef, a'.tmps.getD 40 undef, a'.tmps.getD 41 undef, a'.tmps.getD 42 undef, a'.tmps.getD 43 undef, a'.tmps.getD 44 undef, a'.tmps.getD 45 undef, a'.tmps.getD 46 undef, a'.tmps.getD 47 undef, a'.tmps.getD 48 undef, a'.tmps.getD 49 undef, a'.tmps.getD 50 undef, a'.tmps.getD 51 undef, a'.tmps.getD 52 undef, a'.tmps.getD 53 undef, a'.tmps.getD 54 undef, a'.tmps.getD 55 undef, a'.tmps.getD 56 undef, a'.tmps.getD 57 undef, a'.tmps.getD 58 undef, a'.tmps.getD 59 undef, a'.tmps.getD 60 undef, a'.tmps.getD 61 undef, a'.tmps.getD 62 undef, a'.tmps.getD 63 undef, a'.tmps.getD 64 undef, a'.tmps.getD 65 undef, a'.tmps.getD 66 undef, a'.tmps.getD 67 undef, a'.tmps.getD 68 undef, a'.tmps.getD 69 undef, a'.tmps.getD 70 undef, a'.tmps.getD 71 undef, a'.tmps.getD 72 undef, a'.tmps.getD 73 undef, a'.tmps.getD 74 undef, a'.tmps.getD 75 undef, a'.tmps.getD 76 undef, a'.tmps.getD 77 undef, a'.tmps.getD 78 undef, a'.tmps.getD 79 undef, a'.tmps.getD 80 undef, a'.tmps.getD 81 undef, a'.tmps.getD 82 undef, a'.tmps.getD 83 undef, a'.tmps.getD 84 undef, a'.tmps.getD 85 undef, a'.tmps.getD 86 undef, a'.tmps.getD 87 undef, a'.tmps.getD 88 undef, a'.tmps.getD 89 undef, a'.tmps.getD 90 undef, a'.tmps.getD 91 undef, a'.tmps.getD 92 undef, a'.tmps.getD 93 undef, a'.tmps.getD 94 undef, a'.tmps.getD 95 undef, a'.tmps.getD 96 undef, a'.tmps.getD 97 undef, a'.tmps.getD 98 undef, a'.tmps.getD 99 undef, a'.tmps.getD 100 undef, a'.tmps.getD 101 undef, a'.tmps.getD 102 undef, a'.tmps.getD 103 undef, a'.tmps.getD 104 undef], defers := [] } → K a' Wn) := fun a' e => hK a' Wn (keepsFrom_below hb) (KpE.of_below hb fun j q => Nat.lt_of_lt_of_le (Nat.lt_trans q HNlt.out.1) hI.2.size) hI2 ⟨xb, sa, sc, sk, dk, F, hax, fun k => a'.tmps.getD k undef, e⟩
      have HEw : Hid (Wn = (Wa.alloc (.cells #[.int .i64 0, .int .i64 0, .string ⟨#[]⟩, .string ⟨#[]⟩, .slice none 0 0, .slice none 0 0] 27)).setRow Wa.heap.size #[.int .i64 x.2.k.1, .int .i64 x.2.k.2, .string x.2.tg, .string x.2.tx, (.slice sa x.2.at_.length sc), (.slice sk x.2.ks.length dk)] ∧ xb = Wa.heap.size) := ⟨eW, exb⟩
      clear hK hb hax hI2 eW exb hsep hF hI
      gi_wp2_with (refine wpListIn_store_row rfl 27 (.tmp 11) (.tmp 32) rfl Wa.heap.size 27 #[.int .i64 0, .int .i64 0, .string ⟨#[]⟩, .string ⟨#[]⟩, .slice none 0 0, .slice none 0 0] #[.int .i64 x.2.k.1, .int .i64 x.2.k.2, .string x.2.tg, .string x.2.tx, (.slice sa x.2.at_.length sc), (.slice sk x.2.ks.length dk)] rfl rfl Hz.out sizeVG rfl (by simp [Value.oneCell']) ?_)
      rw [← HEw.out.1, ← HEw.out.2]
      exact HFin.out _ rfl
    case body1 =>
      rintro l k hk a' Wb hlD ⟨hnr, hbel⟩ ⟨xb, sa, sc, sk, dk, F, hax, u, rfl⟩
      have hkz : k < t.sz := (by rw [← flatD_len]; exact hk)
      have HGb : Hid (GxS w tb sb rb wb db be nb t stop aw cw ad cd E Wb) := HG.out.below hbel
      have hEl : E.length = t.sz := (by rw [← flT_len, ← HGb.out.em, List.length_map])
      have hiL : k < E.length := by omega
      have hiD : k < (dpL t 0).length := (by rw [dpL_len]; exact hkz)
      obtain ⟨gl, cpl, egl, _, hcl, _⟩ := OwnE.cells vnC_len HGb.out.ow hiL
      obtain ⟨gd, cpd, egd, _, hcd, _⟩ := OwnE.cells ntC_len HGb.out.od hiD
      injection egl with el1 e91 e92
      injection egd with ed1 e93 e94
      clear e91 e92 e93 e94
      subst el1 ed1
      have hgl := (OwnE.lt HGb.out.ow gl rfl).2
      have hgd := (OwnE.lt HGb.out.od gd rfl).2
      have hx2 : (flatD t 0)[k].2 = E[k].1 := (by have h1 : (flatD t 0)[k].2 = ((flatD t 0).map Prod.snd)[k]'(by simpa using hk) := (by simp); rw [h1]; simp only [flatD_snd, ← HGb.out.em, List.getElem_map])
      have hx1 : (dpL t 0)[k] = (flatD t 0)[k].1 := (by simp only [dpL, List.getElem_map])
      have hfx := HGb.out.fs _ (List.getElem_mem hiL)
      have d0 := hcd 0 _ rfl
      rw [hx1] at d0
      have p0 := hcl 0 _ rfl
      have p1 := hcl 1 _ rfl
      have p2 := hcl 2 _ rfl
      have p3 := hcl 3 _ rfl
      have p4 := hcl 4 _ rfl
      have p5 := hcl 5 _ rfl
      obtain ⟨y, ey⟩ : ∃ y, y = E[k] := ⟨_, rfl⟩
      rw [← ey] at hx2 hfx p0 p1 p2 p3 p4 p5
      obtain ⟨x, ex⟩ : ∃ x, x = (flatD t 0)[k] := ⟨_, rfl⟩
      rw [← ex] at hx2 d0 hax ⊢
      obtain ⟨y1, xv, xkv⟩ := y
      dsimp only at hx2
      subst hx2
      obtain ⟨xa, cx, e1⟩ := hfx.at_.form
      obtain ⟨xk, dx, e2⟩ := hfx.ks.form
      dsimp only at e1 e2
      subst e1 e2
      have HXf : Hid (FdIs (fun k => k < nb) Wb (.slice xa x.2.at_.length cx) (.slice xk x.2.ks.length dx) x.2.at_ x.2.ks) := hfx
      have HXc : Hid (gl < Wb.heap.size ∧ Wb.cell? ⟨gl, k * 6, none⟩ = some (.int .i64 x.2.k.1) ∧ Wb.cell? ⟨gl, k * 6 + 1, none⟩ = some (.int .i64 x.2.k.2) ∧ Wb.cell? ⟨gl, k * 6 + 2, none⟩ = some (.string x.2.tg) ∧ Wb.cell? ⟨gl, k * 6 + 3, none⟩ = some (.string x.2.tx) ∧ Wb.cell? ⟨gl, k * 6 + 4, none⟩ = some (.slice xa x.2.at_.length cx) ∧ Wb.cell? ⟨gl, k * 6 + 5, none⟩ = some (.slice xk x.2.ks.length dx)) := ⟨hgl, p0, p1, p2, p3, p4, p5⟩
      have HDc : Hid (gd < Wb.heap.size ∧ Wb.cell? ⟨gd, k, none⟩ = some (.int .i64 (x.1 : Int))) := ⟨hgd, by have h9 := d0; rw [Nat.mul_one] at h9; exact h9⟩
      have HAx : Hid (AxX W10.heap.size xb x sa sc sk dk F Wb) := hax
      have HNb : Hid (Wb.heap[nb]? = some (.cells #[.int .i64 ((k : Nat) : Int)] 3)) := hnr
      have HBl : Hid (Below nb W10 Wb) := hbel
      have k1 : (k : Int) < (t.sz : Int) := by omega
      have k0 : (0 : Int) ≤ (k : Int) := by omega
      have HSz : Hid (W10.heap.size ≤ Wb.heap.size ∧ k + 1 ≤ 1048577) := ⟨hbel.size, by omega⟩
      have HKs : Hid (k < (flatD t 0).length) := hk
      clear hcl hcd hx1 hfx d0 p0 p1 p2 p3 p4 p5 ey ex hgl hgd hax hnr hbel hkz hEl hiL hiD hk
      have cN : Wb.cell? ⟨nb, 0, none⟩ = some (.int .i64 (k : Int)) := (by rw [cell_of_row _ _ _ _ _ _ HNb.out]; rfl)
      have cS : Wb.cell? ⟨sb, 0, none⟩ = some (.int .i64 stop) := (by rw [cell_of_row _ _ _ _ _ _ HGb.out.s]; rfl)
      by_cases hst : (k : Int) = stop
      · have qs : ((k : Int) == stop) = true := by simp [hst]
        gi_wp2
        exact ⟨KeepsFrom.refl _ _, rfl, k, rfl, hst, HKs.out, HNb.out, HBl.out⟩
      · have qs : ((k : Int) == stop) = false := by simp [hst]
        gi_wp2
        clear cN cS qs hst
        refine region_round_held (S := fun W' => Below Wb.heap.size Wb W') l (by kernel_rfl) (by kernel_rfl) (by first | exact lets_block lets_round | exact lets_then (lets_block lets_round) | exact lets_then (lets_then (lets_block lets_round)) | exact lets_then (lets_then (lets_then (lets_block lets_round)))) (Below.refl _ _).drew (fun hHeld => ?_)
        obtain ⟨Ur11u0, eW⟩ : ∃ X, X = Wb.drew := ⟨_, rfl⟩
        have hb : Below Wb.heap.size Wb Ur11u0 := by rw [eW]; exact (Below.refl _ _).drew
        rw [← eW] at hHeld ⊢
        clear eW hb
        refine tkW 0 (some 36) (v := ?_) ?_ hHeld ?_
        rotate_left
        · (intro ww hSw; (try dsimp only at hSw); have c0 : ww.cell? ⟨nb, 0, none⟩ = some (.int .i64 (k : Int)) := (by rw [cell_of_row _ _ _ _ _ _ ((hSw.block _ (row_lt HNb.out)).trans HNb.out)]; rfl); go_simp; try with_reducible rfl)
        refine tkW 1 (some 37) (v := ?_) ?_ hHeld ?_
        rotate_left
        · (intro ww hSw; (try dsimp only at hSw); have c0 : ww.cell? ⟨wb, 0, none⟩ = some (.slice (some ⟨gl, 0, none⟩) t.sz cw) := (by rw [cell_of_row _ _ _ _ _ _ ((hSw.block _ (row_lt HGb.out.wl)).trans HGb.out.wl)]; rfl); go_simp; try with_reducible rfl)
        refine tkW 2 (some 38) (v := ?_) ?_ hHeld ?_
        rotate_left
        · (intro ww hSw; (try dsimp only at hSw); go_simp; try with_reducible rfl)
        refine tkW 3 (some 39) (v := .bool false) ?_ hHeld ?_
        · (intro ww hSw; (try dsimp only at hSw); go_simp; try omega)
        refine tkW 4 (some 40) (v := ?_) ?_ hHeld ?_
        rotate_left
        · (intro ww _; go_simp; try with_reducible rfl)
        refine tkW 5 (some 41) (v := ?_) ?_ hHeld ?_
        rotate_left
        · (intro ww _; go_simp; try with_reducible rfl)
        refine tkW 6 (some 42) (v := ?_) ?_ hHeld ?_
        rotate_left
        · (intro ww hSw; (try dsimp only at hSw); have c0 : ww.cell? ⟨db, 0, none⟩ = some (.slice (some ⟨gd, 0, none⟩) t.sz cd) := (by rw [cell_of_row _ _ _ _ _ _ ((hSw.block _ (row_lt HGb.out.dl)).trans HGb.out.dl)]; rfl); go_simp; try with_reducible rfl)
        refine tkW 7 (some 43) (v := ?_) ?_ hHeld ?_
        rotate_left
        · (intro ww hSw; (try dsimp only at hSw); have c0 : ww.cell? ⟨nb, 0, none⟩ = some (.int .i64 (k : Int)) := (by rw [cell_of_row _ _ _ _ _ _ ((hSw.block _ (row_lt HNb.out)).trans HNb.out)]; rfl); go_simp; try with_reducible rfl)
        refine tkW 8 (some 44) (v := ?_) ?_ hHeld ?_
        rotate_left
        · (intro ww hSw; (try dsimp only at hSw); go_simp; try with_reducible rfl)
        refine tkW 9 (some 45) (v := ?_) ?_ hHeld ?_
        rotate_left
        · (intro ww hSw; (try dsimp only at hSw); have c0 : ww.cell? ⟨gd, k, none⟩ = some (.int .i64 (x.1 : Int)) := (hSw.cell (p := ⟨gd, k, none⟩) HDc.out.1).trans HDc.out.2; go_simp; try with_reducible rfl)
        refine tkW 10 (some 46) (v := .bool false) ?_ hHeld ?_
        · (intro ww hSw; (try dsimp only at hSw); go_simp; try simp)
        refine tkW 11 (some 47) (v := ?_) ?_ hHeld ?_
        rotate_left
        · (intro ww _; go_simp; try with_reducible rfl)
        refine tkW 12 (some 48) (v := ?_) ?_ hHeld ?_
        rotate_left
        · (intro ww _; go_simp; try with_reducible rfl)
        refine tkW 13 (some 49) (v := ?_) ?_ hHeld ?_
        rotate_left
        · (intro ww hSw; (try dsimp only at hSw); obtain ⟨z0, z1, z2, z3, z4, z5⟩ := row6 ((hSw.block _ (row_lt HAx.out.box)).trans HAx.out.box); go_simp; try with_reducible rfl)
        refine tkW 14 (some 50) (v := ?_) ?_ hHeld ?_
        rotate_left
        · (intro ww hSw; (try dsimp only at hSw); have c0 : ww.cell? ⟨wb, 0, none⟩ = some (.slice (some ⟨gl, 0, none⟩) t.sz cw) := (by rw [cell_of_row _ _ _ _ _ _ ((hSw.block _ (row_lt HGb.out.wl)).trans HGb.out.wl)]; rfl); go_simp; try with_reducible rfl)
        refine tkW 15 (some 51) (v := ?_) ?_ hHeld ?_
        rotate_left
        · (intro ww hSw; (try dsimp only at hSw); have c0 : ww.cell? ⟨nb, 0, none⟩ = some (.int .i64 (k : Int)) := (by rw [cell_of_row _ _ _ _ _ _ ((hSw.block _ (row_lt HNb.out)).trans HNb.out)]; rfl); go_simp; try with_reducible rfl)
        refine tkW 16 (some 52) (v := ?_) ?_ hHeld ?_
        rotate_left
        · (intro ww hSw; (try dsimp only at hSw); go_simp; try with_reducible rfl)
        refine tkW 17 (some 53) (v := ?_) ?_ hHeld ?_
        rotate_left
        · (intro ww hSw; (try dsimp only at hSw); obtain ⟨z0, z1, z2, z3, z4, z5⟩ := ckCells6 hSw HXc.out; go_simp; try with_reducible rfl)
        refine wpAnyH_ready (rs := [18]) (by kernel_rfl) (by simp) ?_
        refine AllReadyH.cons (o := ⟨some 54, _, _, _, _, _⟩) rfl (fun K hK => ?_) AllReadyH.nil
        go_simp
        refine (refSame_any _ _ x.2 x.2 _ _ _ (VIs.of ((HAx.out.below hHeld).sep.vis _)) (VIs.of (HXf.out.below hHeld))).mono ?_
        rintro e Ur11u1 ⟨rfl, hb⟩
        rw [eqV_self]
        (try go_wp2_with fail)
        refine hK.out _ _ (hHeld.trans (hb.mono hHeld.size)) (fun hHeld2 => ?_)
        clear hK K hHeld
        have hHeld := hHeld2
        clear hHeld2
        (try simp only [Act.put, List.setIfInBounds_toArray, List.set_cons_zero, List.set_cons_succ])
        clear hb
        refine tkW 19 (some 55) (v := ?_) ?_ hHeld ?_
        rotate_left
        · (intro ww _; go_simp; try with_reducible rfl)
        refine tkW 20 (some 56) (v := ?_) ?_ hHeld ?_
        rotate_left
        · (intro ww _; go_simp; try with_reducible rfl)
        refine wpAnyH_done (by kernel_rfl) ?_ _
        obtain ⟨U, eU⟩ : ∃ X, X = Ur11u1 := ⟨_, rfl⟩
        rw [← eU] at hHeld ⊢
        clear eU
        replace HAx : Hid (AxX W10.heap.size xb x sa sc sk dk F U) := HAx.out.below hHeld
        replace HNb : Hid (U.heap[nb]? = some (.cells #[.int .i64 ((k : Nat) : Int)] 3)) := (hHeld.block _ (row_lt HNb.out)).trans HNb.out
        have HKf : Hid (KeepsFrom W10.heap.size Wb U ∧ KpE (fun k => k < nb) W10.heap.size Wb U) := ⟨keepsFrom_below hHeld, KpE.of_below hHeld fun j q => Nat.lt_of_lt_of_le (Nat.lt_trans q HNlt.out.1) HSz.out.1⟩
        replace HBl : Hid (Below nb W10 U) := HBl.out.trans (hHeld.mono (Nat.le_trans (Nat.le_of_lt HNlt.out.1) HSz.out.1))
        clear hHeld HXf HXc HDc HGb k1
        obtain ⟨V, eV⟩ : ∃ X, X = U.setCell ⟨nb, 0, none⟩ (.int .i64 ((k : Int) + 1)) := ⟨_, rfl⟩
        have HV : Hid (V = U.setCell ⟨nb, 0, none⟩ (.int .i64 ((k : Int) + 1))) := eV
        have HNv : Hid (V.heap[nb]? = some (.cells #[.int .i64 ((k + 1 : Nat) : Int)] 3)) := (by rw [eV]; have h9 := heap_setCell_same U nb 0 _ _ (.int .i64 ((k : Int) + 1)) HNb.out; exact h9)
        have HBv : Hid (Below nb W10 V) := (by rw [eV]; exact HBl.out.setCell (p := ⟨nb, 0, none⟩) (Nat.le_refl _) _)
        have HKv : Hid (KeepsFrom W10.heap.size Wb V ∧ KpE (fun k => k < nb) W10.heap.size Wb V) := ⟨HKf.out.1.trans (by rw [eV]; exact keepsFrom_set _ _ _), HKf.out.2.trans (by rw [eV]; exact KpE.set (fun q => Nat.lt_irrefl _ q) HNlt.out.1)⟩
        have HAv : Hid (AxX W10.heap.size xb x sa sc sk dk F V) := (by rw [eV]; exact HAx.out.set HNlt.out.1)
        have cn : U.cell? ⟨nb, 0, none⟩ = some (.int .i64 (k : Int)) := (by rw [cell_of_row _ _ _ _ _ _ HNb.out]; rfl)
        have fn := frozen_of_row U nb 0 _ _ HNb.out
        have n1 : IntKind.i64.wrap ((k : Int) + 1) = (k : Int) + 1 := by (rw [IntKind.wrap_i64]; have := HSz.out.2; omega)
        clear eV HKf HBl HAx HNb
        obtain ⟨z0, z1, z2, z3, z4, z5⟩ := row6 HAv.out.box
        rw [HV.out] at z0 z1 z2 z3 z4 z5
        gi_wp2_with fail
        rw [← HV.out]
        clear z0 z1 z2 z3 z4 z5 cn fn n1
        refine ⟨trivial, fun h => (by cases h), ?_⟩
        refine (CallsIn.inRound l (callsIn_wide.2 (spoil_n x.2.sz F x.2 _ _ _ HAv.out.sep (fun k q => HAv.out.lt (.inr q))))).mono ?_
        rintro e V2 ⟨⟨v9, rfl⟩, ht⟩
        obtain ⟨hkf, hke⟩ := HAv.out.spoilt ht
        have HK9 : Hid (KeepsFrom W10.heap.size Wb V2 ∧ KpE (fun k => k < nb) W10.heap.size Wb V2) := ⟨HKv.out.1.trans hkf, HKv.out.2.trans (hke _ (fun j q => Nat.lt_trans q HNlt.out.1) (fun j q => Nat.lt_of_lt_of_le (Nat.lt_trans q HNlt.out.1) HBv.out.size))⟩
        have HN9 : Hid (V2.heap[nb]? = some (.cells #[.int .i64 ((k + 1 : Nat) : Int)] 3)) := (ht.block _ (row_lt HNv.out) (fun q => by have := (HAv.out.fr _ q).1; have := HNlt.out.1; omega)).trans HNv.out
        have HB9 : Hid (Below nb W10 V2) := HBv.out.trans (ht.below (fun j q => by have := (HAv.out.fr _ q).1; have := HNlt.out.1; omega) (Nat.le_trans (Nat.le_of_lt HNlt.out.1) HBv.out.size))
        clear hkf hke ht
        gi_wp2
        exact ⟨HK9.out.1, HK9.out.2, HN9.out, HB9.out⟩
    case done1 =>
      rintro Dd Wd hDd hI hDf
      rw [flatD_len] at hI
      obtain ⟨nn, enn⟩ : ∃ n, n = t.sz := ⟨_, rfl⟩
      have HNN : Hid (nn = t.sz ∨ (nn : Int) = stop) := .inl enn
      rw [← enn] at hI
      clear enn
      have HDf0 : Hid (Wd.heap[Dd]? = some (.deferred (some []))) := hDf
      have HNd : Hid (Wd.heap[nb]? = some (.cells #[.int .i64 (nn : Int)] 3)) := hI.1
      have HGd : Hid (GxS w tb sb rb wb db be nb t stop aw cw ad cd E Wd) := HG.out.below hI.2
      have HBd : Hid (Below w.heap.size w Wd) := HBn.out.trans (hI.2.mono HNlt.out.2)
      have HDd : Hid (W10.heap.size ≤ Dd) := hDd
      have HWd : Hid (W10.heap.size ≤ Wd.heap.size) := hI.2.size
      clear hI hDf hDd
      obtain ⟨kb, ekb⟩ : ∃ n, n = Wd.heap.size := ⟨_, rfl⟩
      obtain ⟨W12, eW⟩ : ∃ X, X = Wd.alloc (.cells #[.int .i64 0] 3) := ⟨_, rfl⟩
      have hb : Below Wd.heap.size Wd W12 := (by rw [eW]; exact (Below.refl _ _).alloc (Nat.le_refl _) _)
      have HNr2 : Hid (W12.heap[kb]? = some (.cells #[.int .i64 ((0 : Nat) : Int)] 3)) := (by rw [eW, ekb]; exact heap_alloc_new _ _)
      have HG2 : Hid (GxS w tb sb rb wb db be kb t stop aw cw ad cd E W12) := (HGd.out.up (by rw [ekb]; have := HNlt.out.1; have := HWd.out; omega) (Nat.le_of_eq ekb)).below (by rw [ekb]; exact hb)
      have HNn : Hid (W12.heap[nb]? = some (.cells #[.int .i64 (nn : Int)] 3)) := (hb.block _ (row_lt HNd.out)).trans HNd.out
      have HDf : Hid (W12.heap[Dd]? = some (.deferred (some []))) := (hb.block _ (row_lt HDf0.out)).trans HDf0.out
      have HBn2 : Hid (Below w.heap.size w W12) := HBd.out.trans (hb.mono HBd.out.size)
      have HNlt2 : Hid (kb < W12.heap.size ∧ w.heap.size ≤ kb) := ⟨row_lt HNr2.out, by rw [ekb]; exact HBd.out.size⟩
      have HLt : Hid (nb < kb ∧ Dd < kb ∧ W10.heap.size ≤ Dd) := ⟨by rw [ekb]; exact row_lt HNd.out, by rw [ekb]; exact row_lt HDf0.out, HDd.out⟩
      have HE12 : Hid (W12 = Wd.alloc (.cells #[.int .i64 0] 3) ∧ kb = Wd.heap.size) := ⟨eW, ekb⟩
      have HSq2 := each1_seq (n0 - 1) (by omega) (fun k => k < kb) W12.heap.size be t W12 (fun k q => Nat.lt_trans q HNlt2.out.1) (Nat.le_refl _) HG2.out.ev (by have := HG2.out.lt; omega) hsz
      clear hb eW ekb HDf0 HNd HGd HBd HDd HWd
      gi_wp2
      refine (wpIn_wide (n := n0)).1 ?_
      gi_wp2
      rw [← HE12.out.1, ← HE12.out.2]
      clear HE12
      refine range_ofY (by omega) (gf := 17) (lb := #[.pointer (some ⟨be, 0, none⟩)]) rfl (enters_of Try.func17 (by kernel_rfl) rfl) HSq2 KpE.trans (fun W l o o' hl ho hc _ => KpE.obj hl (fun k q => Nat.lt_trans q HNlt2.out.1) ho hc) (Below.refl _ _) (fun x u W h => by obtain ⟨_, _, _, rfl, _⟩ := h; rfl)
        (fun k W => (W.heap[kb]? = some (.cells #[.int .i64 ((k : Nat) : Int)] 3) ∧ Below kb W12 W)) (fun _ _ _ => False)
        (fun k A B row h1 hg hr => ⟨row_own h1.1 hg (fun r e => (hr r e).2), h1.2.grown hg (Nat.le_trans (Nat.le_of_lt HNlt2.out.1) h1.2.size) (fun j e => by have := (hr j e).1; have := HNlt2.out.1; omega)⟩) (fun c k A B row hf _ _ => hf) ⟨HNr2.out, Below.refl _ _⟩
        (fun x a' W => ∃ xb sa sc sk dk F, AxX W12.heap.size xb x sa sc sk dk F W ∧ ∃ u : Nat → Value, a' = { tmps := #[u 0, u 1, .pointer (some ⟨tb, 0, none⟩), .pointer (some ⟨sb, 0, none⟩), .pointer (some ⟨rb, 0, none⟩), u 5, .func (.func 17) #[] #[.pointer (some ⟨be, 0, none⟩)], .pointer (some ⟨wb, 0, none⟩), .pointer (some ⟨db, 0, none⟩), .pointer (some ⟨nb, 0, none⟩), u 10, u 11, .pointer (some ⟨kb, 0, none⟩), .int .i64 (x.1 : Int), .pointer (some ⟨xb, 0, none⟩), u 15, u 16, u 17, u 18, u 19, u 20, u 21, u 22, u 23, u 24, u 25, u 26, u 27, u 28, u 29, u 30, u 31, u 32, u 33, u 34, u 35, u 36, u 37, u 38, u 39, u 40, u 41, u 42, u 43, u 44, u 45, u 46, u 47, u 48, u 49, u 50, u 51, u 52, u 53, u 54, u 55, u 56, u 57, u 58, u 59, u 60, u 61, u 62, u 63, u 64, u 65, u 66, u 67, u 68, u 69, u 70, u 71, u 72, u 73, u 74, u 75, u 76, u 77, u 78, u 79, u 80, u 81, u 82, u 83, u 84, u 85, u 86, u 87, u 88, u 89, u 90, u 91, u 92, u 93, u 94, u 95, u 96, u 97, u 98, u 99, u 100, u 101, u 102, u 103, u 104], defers := [] })
        (fun x a' u A B row ⟨xb, sa, sc, sk, dk, F, h1, h5⟩ hg hr => ⟨xb, sa, sc, sk, dk, F, h1.grown hg (fun r e => (hr r e).2), h5⟩)
        ?assign2 ?body2 ?done2 ?stop2
      case assign2 =>
        rintro l k hk uu Wa K hu hI hK
        obtain ⟨x, hx⟩ : ∃ x, x = (flatD t 0)[k] := ⟨_, rfl⟩
        rw [← hx] at hK hu
        clear hx
        obtain ⟨av, kv, F, rfl, hsep, hF⟩ := hu
        obtain ⟨sa, sc, sk, dk, ea, ek⟩ := SepF.form _ hsep
        subst ea ek
        have Hz : Hid ((Wa.alloc (.cells #[.int .i64 0, .int .i64 0, .string ⟨#[]⟩, .string ⟨#[]⟩, .slice none 0 0, .slice none 0 0] 27)).heap[Wa.heap.size]? = some (.cells #[.int .i64 0, .int .i64 0, .string ⟨#[]⟩, .string ⟨#[]⟩, .slice none 0 0, .slice none 0 0] 27)) := heap_alloc_new _ _
        obtain ⟨Wn, eW⟩ : ∃ X, X = (Wa.alloc (.cells #[.int .i64 0, .int .i64 0, .string ⟨#[]⟩, .string ⟨#[]⟩, .slice none 0 0, .slice none 0 0] 27)).setRow Wa.heap.size #[.int .i64 x.2.k.1, .int .i64 x.2.k.2, .string x.2.tg, .string x.2.tx, (.slice sa x.2.at_.length sc), (.slice sk x.2.ks.length dk)] := ⟨_, rfl⟩
        have hb : Below Wa.heap.size Wa Wn := (by rw [eW]; exact ((Below.refl _ _).alloc (Nat.le_refl _) _).grown (grown_setRow _ _ _) (by simp) (fun k e => by cases e; exact Nat.le_refl _))
        obtain ⟨xb, exb⟩ : ∃ n, n = Wa.heap.size := ⟨_, rfl⟩
        have hax : AxX W12.heap.size xb x sa sc sk dk F Wn := ⟨by rw [eW, exb]; exact setRow_same Hz.out, hsep.turn _ fun k q => hb.block k (hF k q).2.1, fun k q => ⟨(hF k q).1, by rw [exb]; exact (hF k q).2.1, by obtain ⟨c, f, hc⟩ := (hF k q).2.2; exact ⟨c, f, hc.imp (hb.block k (hF k q).2.1).trans (hb.block k (hF k q).2.1).trans⟩⟩, by rw [exb]; exact hI.2.size⟩
        have hI2 : (Wn.heap[kb]? = some (.cells #[.int .i64 ((k : Nat) : Int)] 3) ∧ Below kb W12 Wn) := ⟨(hb.block _ (row_lt hI.1)).trans hI.1, hI.2.trans (hb.mono (Nat.le_trans (Nat.le_of_lt HNlt2.out.1) hI.2.size))⟩
        have HFin : Hid (∀ a' : Act, a' = { tmps := #[a'.tmps.getD 0 undef, a'.tmps.getD 1 undef, .pointer (some ⟨tb, 0, none⟩), .pointer (some ⟨sb, 0, none⟩), .pointer (some ⟨rb, 0, none⟩), a'.tmps.getD 5 undef, .func (.func 17) #[] #[.pointer (some ⟨be, 0, none⟩)], .pointer (some ⟨wb, 0, none⟩), .pointer (some ⟨db, 0, none⟩), .pointer (some ⟨nb, 0, none⟩), a'.tmps.getD 10 undef, a'.tmps.getD 11 undef, .pointer (some ⟨kb, 0, none⟩), .int .i64 (x.1 : Int), .pointer (some ⟨xb, 0, none⟩), a'.tmps.getD 15 undef, a'.tmps.getD 16 undef, a'.tmps.getD 17 undef, a'.tmps.getD 18 undef, a'.tmps.getD 19 undef, a'.tmps.getD 20 undef, a'.tmps.getD 21 undef, a'.tmps.getD 22 undef, a'.tmps.getD 23 undef, a'.tmps.getD 24 undef, a'.tmps.getD 25 undef, a'.tmps.getD 26 undef, a'.tmps.getD 27 undef, a'.tmps.getD 28 undef, a'.tmps.getD 29 undef, a'.tmps.getD 30 undef, a'.tmps.getD 31 undef, a'.tmps.getD 32 undef, a'.tmps.getD 33 undef, a'.tmps.getD 34 undef, a'.tmps.getD 35 undef, a'.tmps.getD 36 undef, a'.tmps.getD 37 undef, a'.tmps.getD 38 undef, a'.tmps.getD 39 undef, a'.tmps.getD 40 undef, a'.tmps.getD 41 undef, a'.tmps.getD 42 undef, a'.tmps.getD 43 undef, a'.tmps.getD 44 undef, a'.tmps.getD 45 undef, a'.tmps.getD 46 undef, a'.tmps.getD 47 undef, a'.tmps.getD 48 undef, a'.tmps.getD 49 undef, a'.tmps.getD 50 undef, a'.tmps.getD 51 undef, a'.tmps.getD 52 undef, a'.tmps.getD 53 undef, a'.tmps.getD 54 undef, a'.tmps.getD 55 undef, a'.tmps.getD 56 undef, a'.tmps.getD 57 undef, a'.tmps.getD 58 undef, a'.tmps.getD 59 undef, a'.tmps.getD 60 undef, a'.tmps.getD 61 undef, a'.tmps.getD 62 undef, a'.tmps.getD 63 undef, a'.tmps.getD 64 undef, a'.tmps.getD 65 undef, a'.tmps.getD 66 undef, a'.tmps.getD 67 undef, a'.tmps.getD 68 undef, a'.tmps.getD 69 undef, a'.tmps.getD 70 undef, a'.tmps.getD 71 undef, a'.tmps.getD 72 undef, a'.tmps.getD 73 undef, a'.tmps.getD 74 undef, a'.tmps.getD 75 undef, a'.tmps.getD 76 undef, a'.tmps.getD 77 undef, a'.tmps.getD 78 undef, a'.tmps.getD 79 undef, a'.tmps.getD 80 undef, a'.tmps.getD 81 undef, a'.tmps.getD 82 undef, a'.tmps.getD 83 undef, a'.tmps.getD 84 undef, a'.tmps.getD 85 undef, a'.tmps.getD 86 undef, a'.tmps.getD 87 undef, a'.tmps.getD 88 undef, a'.tmps.getD 89 undef, a'.tmps.getD 90 undef, a'.tmps.getD 91 undef, a'.tmps.getD 92 undef, a'.tmps.getD 93 undef, a'.tmps.getD 94 undef, a'.tmps.getD 95 undef, a'.tmps.getD 96 undef, a'.tmps.getD 97 undef, a'.tmps.getD 98 undef, a'.tmps.getD 99 undef, a'.tmps.getD 100 undef, a'.tmps.getD 101 undef, a'.tmps.getD 102 undef, a'.tmps.getD 103 undef, a'.tmps.getD 104 undef], defers := [] } → K a' Wn) := fun a' e => hK a' Wn (keepsFrom_below hb) (KpE.of_below hb fun j q => Nat.lt_of_lt_of_le (Nat.lt_trans q HNlt2.out.1) hI.2.size) hI2 ⟨xb, sa, sc, sk, dk, F, hax, fun k => a'.tmps.getD k undef, e⟩
        have HEw : Hid (Wn = (Wa.alloc (.cells #[.int .i64 0, .int .i64 0, .string ⟨#[]⟩, .string ⟨#[]⟩, .slice none 0 0, .slice none 0 0] 27)).setRow Wa.heap.size #[.int .i64 x.2.k.1, .int .i64 x.2.k.2, .string x.2.tg, .string x.2.tx, (.slice sa x.2.at_.length sc), (.slice sk x.2.ks.length dk)] ∧ xb = Wa.heap.size) := ⟨eW, exb⟩
        clear hK hb hax hI2 eW exb hsep hF hI
        gi_wp2_with (refine wpListIn_store_row rfl 27 (.tmp 14) (.tmp 63) rfl Wa.heap.size 27 #[.int .i64 0, .int .i64 0, .string ⟨#[]⟩, .string ⟨#[]⟩, .slice none 0 0, .slice none 0 0] #[.int .i64 x.2.k.1, .int .i64 x.2.k.2, .string x.2.tg, .string x.2.tx, (.slice sa x.2.at_.length sc), (.slice sk x.2.ks.length dk)] rfl rfl Hz.out sizeVG rfl (by simp [Value.oneCell']) ?_)
        rw [← HEw.out.1, ← HEw.out.2]
        exact HFin.out _ rfl
      case body2 =>
        rintro l k hk a' Wb hlD ⟨hnr, hbel⟩ ⟨xb, sa, sc, sk, dk, F, hax, u, rfl⟩
        have hkz : k < t.sz := (by rw [← flatD_len]; exact hk)
        have HGb : Hid (GxS w tb sb rb wb db be kb t stop aw cw ad cd E Wb) := HG2.out.below hbel
        have hEl : E.length = t.sz := (by rw [← flT_len, ← HGb.out.em, List.length_map])
        have hiL : k < E.length := by omega
        have hiD : k < (dpL t 0).length := (by rw [dpL_len]; exact hkz)
        obtain ⟨gl, cpl, egl, _, hcl, _⟩ := OwnE.cells vnC_len HGb.out.ow hiL
        obtain ⟨gd, cpd, egd, _, hcd, _⟩ := OwnE.cells ntC_len HGb.out.od hiD
        injection egl with el1 e91 e92
        injection egd with ed1 e93 e94
        clear e91 e92 e93 e94
        subst el1 ed1
        have hgl := (OwnE.lt HGb.out.ow gl rfl).2
        have hgd := (OwnE.lt HGb.out.od gd rfl).2
        have hx2 : (flatD t 0)[k].2 = E[k].1 := (by have h1 : (flatD t 0)[k].2 = ((flatD t 0).map Prod.snd)[k]'(by simpa using hk) := (by simp); rw [h1]; simp only [flatD_snd, ← HGb.out.em, List.getElem_map])
        have hx1 : (dpL t 0)[k] = (flatD t 0)[k].1 := (by simp only [dpL, List.getElem_map])
        have hfx := HGb.out.fs _ (List.getElem_mem hiL)
        have d0 := hcd 0 _ rfl
        rw [hx1] at d0
        have p0 := hcl 0 _ rfl
        have p1 := hcl 1 _ rfl
        have p2 := hcl 2 _ rfl
        have p3 := hcl 3 _ rfl
        have p4 := hcl 4 _ rfl
        have p5 := hcl 5 _ rfl
        obtain ⟨y, ey⟩ : ∃ y, y = E[k] := ⟨_, rfl⟩
        rw [← ey] at hx2 hfx p0 p1 p2 p3 p4 p5
        obtain ⟨x, ex⟩ : ∃ x, x = (flatD t 0)[k] := ⟨_, rfl⟩
        rw [← ex] at hx2 d0 hax ⊢
        obtain ⟨y1, xv, xkv⟩ := y
        dsimp only at hx2
        subst hx2
        obtain ⟨xa, cx, e1⟩ := hfx.at_.form
        obtain ⟨xk, dx, e2⟩ := hfx.ks.form
        dsimp only at e1 e2
        subst e1 e2
        have HXf : Hid (FdIs (fun k => k < kb) Wb (.slice xa x.2.at_.length cx) (.slice xk x.2.ks.length dx) x.2.at_ x.2.ks) := hfx
        have HXc : Hid (gl < Wb.heap.size ∧ Wb.cell? ⟨gl, k * 6, none⟩ = some (.int .i64 x.2.k.1) ∧ Wb.cell? ⟨gl, k * 6 + 1, none⟩ = some (.int .i64 x.2.k.2) ∧ Wb.cell? ⟨gl, k * 6 + 2, none⟩ = some (.string x.2.tg) ∧ Wb.cell? ⟨gl, k * 6 + 3, none⟩ = some (.string x.2.tx) ∧ Wb.cell? ⟨gl, k * 6 + 4, none⟩ = some (.slice xa x.2.at_.length cx) ∧ Wb.cell? ⟨gl, k * 6 + 5, none⟩ = some (.slice xk x.2.ks.length dx)) := ⟨hgl, p0, p1, p2, p3, p4, p5⟩
        have HDc : Hid (gd < Wb.heap.size ∧ Wb.cell? ⟨gd, k, none⟩ = some (.int .i64 (x.1 : Int))) := ⟨hgd, by have h9 := d0; rw [Nat.mul_one] at h9; exact h9⟩
        have HAx : Hid (AxX W12.heap.size xb x sa sc sk dk F Wb) := hax
        have HNb : Hid (Wb.heap[kb]? = some (.cells #[.int .i64 ((k : Nat) : Int)] 3)) := hnr
        have HBl : Hid (Below kb W12 Wb) := hbel
        have k1 : (k : Int) < (t.sz : Int) := by omega
        have k0 : (0 : Int) ≤ (k : Int) := by omega
        have HSz : Hid (W12.heap.size ≤ Wb.heap.size ∧ k + 1 ≤ 1048577) := ⟨hbel.size, by omega⟩
        clear hcl hcd hx1 hfx d0 p0 p1 p2 p3 p4 p5 ey ex hgl hgd hax hnr hbel hkz hEl hiL hiD hk
        gi_wp2
        refine region_round_held (S := fun W' => Below Wb.heap.size Wb W') l (by kernel_rfl) (by kernel_rfl) (by first | exact lets_block lets_round | exact lets_then (lets_block lets_round) | exact lets_then (lets_then (lets_block lets_round)) | exact lets_then (lets_then (lets_then (lets_block lets_round)))) (Below.refl _ _).drew (fun hHeld => ?_)
        obtain ⟨Ur22u0, eW⟩ : ∃ X, X = Wb.drew := ⟨_, rfl⟩
        have hb : Below Wb.heap.size Wb Ur22u0 := by rw [eW]; exact (Below.refl _ _).drew
        rw [← eW] at hHeld ⊢
        clear eW hb
        refine tkW 0 (some 64) (v := ?_) ?_ hHeld ?_
        rotate_left
        · (intro ww hSw; (try dsimp only at hSw); have c0 : ww.cell? ⟨kb, 0, none⟩ = some (.int .i64 (k : Int)) := (by rw [cell_of_row _ _ _ _ _ _ ((hSw.block _ (row_lt HNb.out)).trans HNb.out)]; rfl); go_simp; try with_reducible rfl)
        refine tkW 1 (some 65) (v := ?_) ?_ hHeld ?_
        rotate_left
        · (intro ww hSw; (try dsimp only at hSw); have c0 : ww.cell? ⟨wb, 0, none⟩ = some (.slice (some ⟨gl, 0, none⟩) t.sz cw) := (by rw [cell_of_row _ _ _ _ _ _ ((hSw.block _ (row_lt HGb.out.wl)).trans HGb.out.wl)]; rfl); go_simp; try with_reducible rfl)
        refine tkW 2 (some 66) (v := ?_) ?_ hHeld ?_
        rotate_left
        · (intro ww hSw; (try dsimp only at hSw); go_simp; try with_reducible rfl)
        refine tkW 3 (some 67) (v := .bool false) ?_ hHeld ?_
        · (intro ww hSw; (try dsimp only at hSw); go_simp; try omega)
        refine tkW 4 (some 68) (v := ?_) ?_ hHeld ?_
        rotate_left
        · (intro ww _; go_simp; try with_reducible rfl)
        refine tkW 5 (some 69) (v := ?_) ?_ hHeld ?_
        rotate_left
        · (intro ww _; go_simp; try with_reducible rfl)
        refine tkW 6 (some 70) (v := ?_) ?_ hHeld ?_
        rotate_left
        · (intro ww hSw; (try dsimp only at hSw); have c0 : ww.cell? ⟨db, 0, none⟩ = some (.slice (some ⟨gd, 0, none⟩) t.sz cd) := (by rw [cell_of_row _ _ _ _ _ _ ((hSw.block _ (row_lt HGb.out.dl)).trans HGb.out.dl)]; rfl); go_simp; try with_reducible rfl)
        refine tkW 7 (some 71) (v := ?_) ?_ hHeld ?_
        rotate_left
        · (intro ww hSw; (try dsimp only at hSw); have c0 : ww.cell? ⟨kb, 0, none⟩ = some (.int .i64 (k : Int)) := (by rw [cell_of_row _ _ _ _ _ _ ((hSw.block _ (row_lt HNb.out)).trans HNb.out)]; rfl); go_simp; try with_reducible rfl)
        refine tkW 8 (some 72) (v := ?_) ?_ hHeld ?_
        rotate_left
        · (intro ww hSw; (try dsimp only at hSw); go_simp; try with_reducible rfl)
        refine tkW 9 (some 73) (v := ?_) ?_ hHeld ?_
        rotate_left
        · (intro ww hSw; (try dsimp only at hSw); have c0 : ww.cell? ⟨gd, k, none⟩ = some (.int .i64 (x.1 : Int)) := (hSw.cell (p := ⟨gd, k, none⟩) HDc.out.1).trans HDc.out.2; go_simp; try with_reducible rfl)
        refine tkW 10 (some 74) (v := .bool false) ?_ hHeld ?_
        · (intro ww hSw; (try dsimp only at hSw); go_simp; try simp)
        refine tkW 11 (some 75) (v := ?_) ?_ hHeld ?_
        rotate_left
        · (intro ww _; go_simp; try with_reducible rfl)
        refine tkW 12 (some 76) (v := ?_) ?_ hHeld ?_
        rotate_left
        · (intro ww _; go_simp; try with_reducible rfl)
        refine tkW 13 (some 77) (v := ?_) ?_ hHeld ?_
        rotate_left
        · (intro ww hSw; (try dsimp only at hSw); obtain ⟨z0, z1, z2, z3, z4, z5⟩ := row6 ((hSw.block _ (row_lt HAx.out.box)).trans HAx.out.box); go_simp; try with_reducible rfl)
        refine tkW 14 (some 78) (v := ?_) ?_ hHeld ?_
        rotate_left
        · (intro ww hSw; (try dsimp only at hSw); have c0 : ww.cell? ⟨wb, 0, none⟩ = some (.slice (some ⟨gl, 0, none⟩) t.sz cw) := (by rw [cell_of_row _ _ _ _ _ _ ((hSw.block _ (row_lt HGb.out.wl)).trans HGb.out.wl)]; rfl); go_simp; try with_reducible rfl)
        refine tkW 15 (some 79) (v := ?_) ?_ hHeld ?_
        rotate_left
        · (intro ww hSw; (try dsimp only at hSw); have c0 : ww.cell? ⟨kb, 0, none⟩ = some (.int .i64 (k : Int)) := (by rw [cell_of_row _ _ _ _ _ _ ((hSw.block _ (row_lt HNb.out)).trans HNb.out)]; rfl); go_simp; try with_reducible rfl)
        refine tkW 16 (some 80) (v := ?_) ?_ hHeld ?_
        rotate_left
        · (intro ww hSw; (try dsimp only at hSw); go_simp; try with_reducible rfl)
        refine tkW 17 (some 81) (v := ?_) ?_ hHeld ?_
        rotate_left
        · (intro ww hSw; (try dsimp only at hSw); obtain ⟨z0, z1, z2, z3, z4, z5⟩ := ckCells6 hSw HXc.out; go_simp; try with_reducible rfl)
        refine wpAnyH_ready (rs := [18]) (by kernel_rfl) (by simp) ?_
        refine AllReadyH.cons (o := ⟨some 82, _, _, _, _, _⟩) rfl (fun K hK => ?_) AllReadyH.nil
        go_simp
        refine (refSame_any _ _ x.2 x.2 _ _ _ (VIs.of ((HAx.out.below hHeld).sep.vis _)) (VIs.of (HXf.out.below hHeld))).mono ?_
        rintro e Ur22u1 ⟨rfl, hb⟩
        rw [eqV_self]
        (try go_wp2_with fail)
        refine hK.out _ _ (hHeld.trans (hb.mono hHeld.size)) (fun hHeld2 => ?_)
        clear hK K hHeld
        have hHeld := hHeld2
        clear hHeld2
        (try simp only [Act.put, List.setIfInBounds_toArray, List.set_cons_zero, List.set_cons_succ])
        clear hb
        refine tkW 19 (some 83) (v := ?_) ?_ hHeld ?_
        rotate_left
        · (intro ww _; go_simp; try with_reducible rfl)
        refine tkW 20 (some 84) (v := ?_) ?_ hHeld ?_
        rotate_left
        · (intro ww _; go_simp; try with_reducible rfl)
        refine wpAnyH_done (by kernel_rfl) ?_ _
        obtain ⟨U, eU⟩ : ∃ X, X = Ur22u1 := ⟨_, rfl⟩
        rw [← eU] at hHeld ⊢
        clear eU
        replace HAx : Hid (AxX W12.heap.size xb x sa sc sk dk F U) := HAx.out.below hHeld
        replace HNb : Hid (U.heap[kb]? = some (.cells #[.int .i64 ((k : Nat) : Int)] 3)) := (hHeld.block _ (row_lt HNb.out)).trans HNb.out
        have HKf : Hid (KeepsFrom W12.heap.size Wb U ∧ KpE (fun k => k < kb) W12.heap.size Wb U) := ⟨keepsFrom_below hHeld, KpE.of_below hHeld fun j q => Nat.lt_of_lt_of_le (Nat.lt_trans q HNlt2.out.1) HSz.out.1⟩
        replace HBl : Hid (Below kb W12 U) := HBl.out.trans (hHeld.mono (Nat.le_trans (Nat.le_of_lt HNlt2.out.1) HSz.out.1))
        clear hHeld HXf HXc HDc HGb k1
        obtain ⟨V, eV⟩ : ∃ X, X = U.setCell ⟨kb, 0, none⟩ (.int .i64 ((k : Int) + 1)) := ⟨_, rfl⟩
        have HV : Hid (V = U.setCell ⟨kb, 0, none⟩ (.int .i64 ((k : Int) + 1))) := eV
        have HNv : Hid (V.heap[kb]? = some (.cells #[.int .i64 ((k + 1 : Nat) : Int)] 3)) := (by rw [eV]; have h9 := heap_setCell_same U kb 0 _ _ (.int .i64 ((k : Int) + 1)) HNb.out; exact h9)
        have HBv : Hid (Below kb W12 V) := (by rw [eV]; exact HBl.out.setCell (p := ⟨kb, 0, none⟩) (Nat.le_refl _) _)
        have HKv : Hid (KeepsFrom W12.heap.size Wb V ∧ KpE (fun k => k < kb) W12.heap.size Wb V) := ⟨HKf.out.1.trans (by rw [eV]; exact keepsFrom_set _ _ _), HKf.out.2.trans (by rw [eV]; exact KpE.set (fun q => Nat.lt_irrefl _ q) HNlt2.out.1)⟩
        have HAv : Hid (AxX W12.heap.size xb x sa sc sk dk F V) := (by rw [eV]; exact HAx.out.set HNlt2.out.1)
        have cn : U.cell? ⟨kb, 0, none⟩ = some (.int .i64 (k : Int)) := (by rw [cell_of_row _ _ _ _ _ _ HNb.out]; rfl)
        have fn := frozen_of_row U kb 0 _ _ HNb.out
        have n1 : IntKind.i64.wrap ((k : Int) + 1) = (k : Int) + 1 := by (rw [IntKind.wrap_i64]; have := HSz.out.2; omega)
        clear eV HKf HBl HAx HNb
        gi_wp2
        rw [← HV.out]
        exact ⟨HKv.out.1, HKv.out.2, HNv.out, HBv.out⟩
      case done2 =>
        rintro De We hDe hI2 hDf2
        rw [flatD_len] at hI2
        have HGe : Hid (GxS w tb sb rb wb db be kb t stop aw cw ad cd E We) := HG2.out.below hI2.2
        have HKe : Hid (We.heap[kb]? = some (.cells #[.int .i64 (t.sz : Int)] 3)) := hI2.1
        have HNe : Hid (We.heap[nb]? = some (.cells #[.int .i64 (nn : Int)] 3)) := (hI2.2.block _ HLt.out.1).trans HNn.out
        have HD1 : Hid (We.heap[Dd]? = some (.deferred (some []))) := (hI2.2.block _ HLt.out.2.1).trans HDf.out
        have HD2 : Hid (We.heap[De]? = some (.deferred (some []))) := hDf2
        have HBe : Hid (Below w.heap.size w We) := HBn2.out.trans (hI2.2.mono HNlt2.out.2)
        have HDe : Hid (W12.heap.size ≤ De) := hDe
        clear hI2 hDf2 hDe
        have ck_ : We.cell? ⟨kb, 0, none⟩ = some (.int .i64 (t.sz : Int)) := (by rw [cell_of_row _ _ _ _ _ _ HKe.out]; rfl)
        have cn : We.cell? ⟨nb, 0, none⟩ = some (.int .i64 (nn : Int)) := (by rw [cell_of_row _ _ _ _ _ _ HNe.out]; rfl)
        have cw_ : We.cell? ⟨wb, 0, none⟩ = some (.slice aw t.sz cw) := (by rw [cell_of_row _ _ _ _ _ _ HGe.out.wl]; rfl)
        have cs : We.cell? ⟨sb, 0, none⟩ = some (.int .i64 stop) := (by rw [cell_of_row _ _ _ _ _ _ HGe.out.s]; rfl)
        have q0 : ((t.sz : Int) == (t.sz : Int)) = true := by simp
        by_cases hnn : nn = t.sz
        · have q1 : ((nn : Int) == (t.sz : Int)) = true := by simp [hnn]
          clear hnn
          gi_wp2_with fail
          clear ck_ cn cw_ cs
          refine ⟨trivial, fun _ => (by omega), (callsIn_wide.2 (awake_any _)).mono ?_⟩
          rintro e Wz ⟨rfl, hb⟩
          have HRz : Hid (Wz.heap[rb]? = some (.cells #[.bool false] 4)) := (hb.block _ (row_lt HGe.out.r)).trans HGe.out.r
          have HBz : Hid (Below w.heap.size w Wz) := HBe.out.trans (hb.mono HBe.out.size)
          replace HD1 : Hid (Wz.heap[Dd]? = some (.deferred (some []))) := (hb.block _ (row_lt HD1.out)).trans HD1.out
          replace HD2 : Hid (Wz.heap[De]? = some (.deferred (some []))) := (hb.block _ (row_lt HD2.out)).trans HD2.out
          clear hb
          have c4 : Wz.cell? ⟨rb, 0, none⟩ = some (.bool false) := (by rw [cell_of_row _ _ _ _ _ _ HRz.out]; rfl)
          have f4 := frozen_of_row Wz rb 0 _ _ HRz.out
          have HEn := hide9 (two_marks HRz.out HBz.out HD1.out HD2.out (by have := HLt.out; have := HDe.out; have := HNlt2.out; omega) HRn.out (by have := HLt.out; have := HNlt.out; omega))
          gi_wp2
          obtain ⟨k1, k2, k3, k4⟩ := HEn.out
          refine ⟨by simp, .inl ⟨_, _, rfl, run_takeDeferred k1, ?_⟩⟩
          refine ⟨by simp, .inl ⟨_, _, rfl, run_takeDeferred k2, ?_⟩⟩
          exact ⟨_, results_boolCell4 rfl _ rb _ true rfl k3, rfl, k4⟩
        · have q1 : ((nn : Int) == (t.sz : Int)) = false := by (simp; omega)
          have q2 : ((nn : Int) == stop) = true := by simpa using HNN.out.resolve_left hnn
          clear hnn
          gi_wp2_with fail
          clear ck_ cn cw_ cs
          refine ⟨trivial, fun _ => (by omega), (callsIn_wide.2 (awake_any _)).mono ?_⟩
          rintro e Wz ⟨rfl, hb⟩
          have HRz : Hid (Wz.heap[rb]? = some (.cells #[.bool false] 4)) := (hb.block _ (row_lt HGe.out.r)).trans HGe.out.r
          have HBz : Hid (Below w.heap.size w Wz) := HBe.out.trans (hb.mono HBe.out.size)
          replace HD1 : Hid (Wz.heap[Dd]? = some (.deferred (some []))) := (hb.block _ (row_lt HD1.out)).trans HD1.out
          replace HD2 : Hid (Wz.heap[De]? = some (.deferred (some []))) := (hb.block _ (row_lt HD2.out)).trans HD2.out
          clear hb
          have c4 : Wz.cell? ⟨rb, 0, none⟩ = some (.bool false) := (by rw [cell_of_row _ _ _ _ _ _ HRz.out]; rfl)
          have f4 := frozen_of_row Wz rb 0 _ _ HRz.out
          have HEn := hide9 (two_marks HRz.out HBz.out HD1.out HD2.out (by have := HLt.out; have := HDe.out; have := HNlt2.out; omega) HRn.out (by have := HLt.out; have := HNlt.out; omega))
          gi_wp2
          obtain ⟨k1, k2, k3, k4⟩ := HEn.out
          refine ⟨by simp, .inl ⟨_, _, rfl, run_takeDeferred k1, ?_⟩⟩
          refine ⟨by simp, .inl ⟨_, _, rfl, run_takeDeferred k2, ?_⟩⟩
          exact ⟨_, results_boolCell4 rfl _ rb _ true rfl k3, rfl, k4⟩
      case stop2 => rintro D c k W hD hk hf; exact hf.elim
    case stop1 =>
      rintro Dd c k Wd hDd hk ⟨rfl, nn, rfl, h3, h4, hI⟩ hDf
      have HNN : Hid (nn = t.sz ∨ (nn : Int) = stop) := .inr h3
      clear h3 h4 hk
      have HDf0 : Hid (Wd.heap[Dd]? = some (.deferred (some []))) := hDf
      have HNd : Hid (Wd.heap[nb]? = some (.cells #[.int .i64 (nn : Int)] 3)) := hI.1
      have HGd : Hid (GxS w tb sb rb wb db be nb t stop aw cw ad cd E Wd) := HG.out.below hI.2
      have HBd : Hid (Below w.heap.size w Wd) := HBn.out.trans (hI.2.mono HNlt.out.2)
      have HDd : Hid (W10.heap.size ≤ Dd) := hDd
      have HWd : Hid (W10.heap.size ≤ Wd.heap.size) := hI.2.size
      clear hI hDf hDd
      obtain ⟨kb, ekb⟩ : ∃ n, n = Wd.heap.size := ⟨_, rfl⟩
      obtain ⟨W12, eW⟩ : ∃ X, X = Wd.alloc (.cells #[.int .i64 0] 3) := ⟨_, rfl⟩
      have hb : Below Wd.heap.size Wd W12 := (by rw [eW]; exact (Below.refl _ _).alloc (Nat.le_refl _) _)
      have HNr2 : Hid (W12.heap[kb]? = some (.cells #[.int .i64 ((0 : Nat) : Int)] 3)) := (by rw [eW, ekb]; exact heap_alloc_new _ _)
      have HG2 : Hid (GxS w tb sb rb wb db be kb t stop aw cw ad cd E W12) := (HGd.out.up (by rw [ekb]; have := HNlt.out.1; have := HWd.out; omega) (Nat.le_of_eq ekb)).below (by rw [ekb]; exact hb)
      have HNn : Hid (W12.heap[nb]? = some (.cells #[.int .i64 (nn : Int)] 3)) := (hb.block _ (row_lt HNd.out)).trans HNd.out
      have HDf : Hid (W12.heap[Dd]? = some (.deferred (some []))) := (hb.block _ (row_lt HDf0.out)).trans HDf0.out
      have HBn2 : Hid (Below w.heap.size w W12) := HBd.out.trans (hb.mono HBd.out.size)
      have HNlt2 : Hid (kb < W12.heap.size ∧ w.heap.size ≤ kb) := ⟨row_lt HNr2.out, by rw [ekb]; exact HBd.out.size⟩
      have HLt : Hid (nb < kb ∧ Dd < kb ∧ W10.heap.size ≤ Dd) := ⟨by rw [ekb]; exact row_lt HNd.out, by rw [ekb]; exact row_lt HDf0.out, HDd.out⟩
      have HE12 : Hid (W12 = Wd.alloc (.cells #[.int .i64 0] 3) ∧ kb = Wd.heap.size) := ⟨eW, ekb⟩
      have HSq2 := each1_seq (n0 - 1) (by omega) (fun k => k < kb) W12.heap.size be t W12 (fun k q => Nat.lt_trans q HNlt2.out.1) (Nat.le_refl _) HG2.out.ev (by have := HG2.out.lt; omega) hsz
      clear hb eW ekb HDf0 HNd HGd HBd HDd HWd
      gi_wp2
      refine (wpIn_wide (n := n0)).1 ?_
      gi_wp2
      rw [← HE12.out.1, ← HE12.out.2]
      clear HE12
      refine range_ofY (by omega) (gf := 17) (lb := #[.pointer (some ⟨be, 0, none⟩)]) rfl (enters_of Try.func17 (by kernel_rfl) rfl) HSq2 KpE.trans (fun W l o o' hl ho hc _ => KpE.obj hl (fun k q => Nat.lt_trans q HNlt2.out.1) ho hc) (Below.refl _ _) (fun x u W h => by obtain ⟨_, _, _, rfl, _⟩ := h; rfl)
        (fun k W => (W.heap[kb]? = some (.cells #[.int .i64 ((k : Nat) : Int)] 3) ∧ Below kb W12 W)) (fun _ _ _ => False)
        (fun k A B row h1 hg hr => ⟨row_own h1.1 hg (fun r e => (hr r e).2), h1.2.grown hg (Nat.le_trans (Nat.le_of_lt HNlt2.out.1) h1.2.size) (fun j e => by have := (hr j e).1; have := HNlt2.out.1; omega)⟩) (fun c k A B row hf _ _ => hf) ⟨HNr2.out, Below.refl _ _⟩
        (fun x a' W => ∃ xb sa sc sk dk F, AxX W12.heap.size xb x sa sc sk dk F W ∧ ∃ u : Nat → Value, a' = { tmps := #[u 0, u 1, .pointer (some ⟨tb, 0, none⟩), .pointer (some ⟨sb, 0, none⟩), .pointer (some ⟨rb, 0, none⟩), u 5, .func (.func 17) #[] #[.pointer (some ⟨be, 0, none⟩)], .pointer (some ⟨wb, 0, none⟩), .pointer (some ⟨db, 0, none⟩), .pointer (some ⟨nb, 0, none⟩), u 10, u 11, .pointer (some ⟨kb, 0, none⟩), .int .i64 (x.1 : Int), .pointer (some ⟨xb, 0, none⟩), u 15, u 16, u 17, u 18, u 19, u 20, u 21, u 22, u 23, u 24, u 25, u 26, u 27, u 28, u 29, u 30, u 31, u 32, u 33, u 34, u 35, u 36, u 37, u 38, u 39, u 40, u 41, u 42, u 43, u 44, u 45, u 46, u 47, u 48, u 49, u 50, u 51, u 52, u 53, u 54, u 55, u 56, u 57, u 58, u 59, u 60, u 61, u 62, u 63, u 64, u 65, u 66, u 67, u 68, u 69, u 70, u 71, u 72, u 73, u 74, u 75, u 76, u 77, u 78, u 79, u 80, u 81, u 82, u 83, u 84, u 85, u 86, u 87, u 88, u 89, u 90, u 91, u 92, u 93, u 94, u 95, u 96, u 97, u 98, u 99, u 100, u 101, u 102, u 103, u 104], defers := [] })
        (fun x a' u A B row ⟨xb, sa, sc, sk, dk, F, h1, h5⟩ hg hr => ⟨xb, sa, sc, sk, dk, F, h1.grown hg (fun r e => (hr r e).2), h5⟩)
        ?assign2 ?body2 ?done2 ?stop2
      case assign2 =>
        rintro l k hk uu Wa K hu hI hK
        obtain ⟨x, hx⟩ : ∃ x, x = (flatD t 0)[k] := ⟨_, rfl⟩
        rw [← hx] at hK hu
        clear hx
        obtain ⟨av, kv, F, rfl, hsep, hF⟩ := hu
        obtain ⟨sa, sc, sk, dk, ea, ek⟩ := SepF.form _ hsep
        subst ea ek
        have Hz : Hid ((Wa.alloc (.cells #[.int .i64 0, .int .i64 0, .string ⟨#[]⟩, .string ⟨#[]⟩, .slice none 0 0, .slice none 0 0] 27)).heap[Wa.heap.size]? = some (.cells #[.int .i64 0, .int .i64 0, .string ⟨#[]⟩, .string ⟨#[]⟩, .slice none 0 0, .slice none 0 0] 27)) := heap_alloc_new _ _
        obtain ⟨Wn, eW⟩ : ∃ X, X = (Wa.alloc (.cells #[.int .i64 0, .int .i64 0, .string ⟨#[]⟩, .string ⟨#[]⟩, .slice none 0 0, .slice none 0 0] 27)).setRow Wa.heap.size #[.int .i64 x.2.k.1, .int .i64 x.2.k.2, .string x.2.tg, .string x.2.tx, (.slice sa x.2.at_.length sc), (.slice sk x.2.ks.length dk)] := ⟨_, rfl⟩
        have hb : Below Wa.heap.size Wa Wn := (by rw [eW]; exact ((Below.refl _ _).alloc (Nat.le_refl _) _).grown (grown_setRow _ _ _) (by simp) (fun k e => by cases e; exact Nat.le_refl _))
        obtain ⟨xb, exb⟩ : ∃ n, n = Wa.heap.size := ⟨_, rfl⟩
        have hax : AxX W12.heap.size xb x sa sc sk dk F Wn := ⟨by rw [eW, exb]; exact setRow_same Hz.out, hsep.turn _ fun k q => hb.block k (hF k q).2.1, fun k q => ⟨(hF k q).1, by rw [exb]; exact (hF k q).2.1, by obtain ⟨c, f, hc⟩ := (hF k q).2.2; exact ⟨c, f, hc.imp (hb.block k (hF k q).2.1).trans (hb.block k (hF k q).2.1).trans⟩⟩, by rw [exb]; exact hI.2.size⟩
        have hI2 : (Wn.heap[kb]? = some (.cells #[.int .i64 ((k : Nat) : Int)] 3) ∧ Below kb W12 Wn) := ⟨(hb.block _ (row_lt hI.1)).trans hI.1, hI.2.trans (hb.mono (Nat.le_trans (Nat.le_of_lt HNlt2.out.1) hI.2.size))⟩
        have HFin : Hid (∀ a' : Act, a' = { tmps := #[a'.tmps.getD 0 undef, a'.tmps.getD 1 undef, .pointer (some ⟨tb, 0, none⟩), .pointer (some ⟨sb, 0, none⟩), .pointer (some ⟨rb, 0, none⟩), a'.tmps.getD 5 undef, .func (.func 17) #[] #[.pointer (some ⟨be, 0, none⟩)], .pointer (some ⟨wb, 0, none⟩), .pointer (some ⟨db, 0, none⟩), .pointer (some ⟨nb, 0, none⟩), a'.tmps.getD 10 undef, a'.tmps.getD 11 undef, .pointer (some ⟨kb, 0, none⟩), .int .i64 (x.1 : Int), .pointer (some ⟨xb, 0, none⟩), a'.tmps.getD 15 undef, a'.tmps.getD 16 undef, a'.tmps.getD 17 undef, a'.tmps.getD 18 undef, a'.tmps.getD 19 undef, a'.tmps.getD 20 undef, a'.tmps.getD 21 undef, a'.tmps.getD 22 undef, a'.tmps.getD 23 undef, a'.tmps.getD 24 undef, a'.tmps.getD 25 undef, a'.tmps.getD 26 undef, a'.tmps.getD 27 undef, a'.tmps.getD 28 undef, a'.tmps.getD 29 undef, a'.tmps.getD 30 undef, a'.tmps.getD 31 undef, a'.tmps.getD 32 undef, a'.tmps.getD 33 undef, a'.tmps.getD 34 undef, a'.tmps.getD 35 undef, a'.tmps.getD 36 undef, a'.tmps.getD 37 undef, a'.tmps.getD 38 undef, a'.tmps.getD 39 undef, a'.tmps.getD 40 undef, a'.tmps.getD 41 undef, a'.tmps.getD 42 undef, a'.tmps.getD 43 undef, a'.tmps.getD 44 undef, a'.tmps.getD 45 undef, a'.tmps.getD 46 undef, a'.tmps.getD 47 undef, a'.tmps.getD 48 undef, a'.tmps.getD 49 undef, a'.tmps.getD 50 undef, a'.tmps.getD 51 undef, a'.tmps.getD 52 undef, a'.tmps.getD 53 undef, a'.tmps.getD 54 undef, a'.tmps.getD 55 undef, a'.tmps.getD 56 undef, a'.tmps.getD 57 undef, a'.tmps.getD 58 undef, a'.tmps.getD 59 undef, a'.tmps.getD 60 undef, a'.tmps.getD 61 undef, a'.tmps.getD 62 undef, a'.tmps.getD 63 undef, a'.tmps.getD 64 undef, a'.tmps.getD 65 undef, a'.tmps.getD 66 undef, a'.tmps.getD 67 undef, a'.tmps.getD 68 undef, a'.tmps.getD 69 undef, a'.tmps.getD 70 undef, a'.tmps.getD 71 undef, a'.tmps.getD 72 undef, a'.tmps.getD 73 undef, a'.tmps.getD 74 undef, a'.tmps.getD 75 undef, a'.tmps.getD 76 undef, a'.tmps.getD 77 undef, a'.tmps.getD 78 undef, a'.tmps.getD 79 undef, a'.tmps.getD 80 undef, a'.tmps.getD 81 undef, a'.tmps.getD 82 undef, a'.tmps.getD 83 undef, a'.tmps.getD 84 undef, a'.tmps.getD 85 undef, a'.tmps.getD 86 undef, a'.tmps.getD 87 undef, a'.tmps.getD 88 undef, a'.tmps.getD 89 undef, a'.tmps.getD 90 undef, a'.tmps.getD 91 undef, a'.tmps.getD 92 undef, a'.tmps.getD 93 undef, a'.tmps.getD 94 undef, a'.tmps.getD 95 undef, a'.tmps.getD 96 undef, a'.tmps.getD 97 undef, a'.tmps.getD 98 undef, a'.tmps.getD 99 undef, a'.tmps.getD 100 undef, a'.tmps.getD 101 undef, a'.tmps.getD 102 undef, a'.tmps.getD 103 undef, a'.tmps.getD 104 undef], defers := [] } → K a' Wn) := fun a' e => hK a' Wn (keepsFrom_below hb) (KpE.of_below hb fun j q => Nat.lt_of_lt_of_le (Nat.lt_trans q HNlt2.out.1) hI.2.size) hI2 ⟨xb, sa, sc, sk, dk, F, hax, fun k => a'.tmps.getD k undef, e⟩
        have HEw : Hid (Wn = (Wa.alloc (.cells #[.int .i64 0, .int .i64 0, .string ⟨#[]⟩, .string ⟨#[]⟩, .slice none 0 0, .slice none 0 0] 27)).setRow Wa.heap.size #[.int .i64 x.2.k.1, .int .i64 x.2.k.2, .string x.2.tg, .string x.2.tx, (.slice sa x.2.at_.length sc), (.slice sk x.2.ks.length dk)] ∧ xb = Wa.heap.size) := ⟨eW, exb⟩
        clear hK hb hax hI2 eW exb hsep hF hI
        gi_wp2_with (refine wpListIn_store_row rfl 27 (.tmp 14) (.tmp 63) rfl Wa.heap.size 27 #[.int .i64 0, .int .i64 0, .string ⟨#[]⟩, .string ⟨#[]⟩, .slice none 0 0, .slice none 0 0] #[.int .i64 x.2.k.1, .int .i64 x.2.k.2, .string x.2.tg, .string x.2.tx, (.slice sa x.2.at_.length sc), (.slice sk x.2.ks.length dk)] rfl rfl Hz.out sizeVG rfl (by simp [Value.oneCell']) ?_)
        rw [← HEw.out.1, ← HEw.out.2]
        exact HFin.out _ rfl
      case body2 =>
        rintro l k hk a' Wb hlD ⟨hnr, hbel⟩ ⟨xb, sa, sc, sk, dk, F, hax, u, rfl⟩
        have hkz : k < t.sz := (by rw [← flatD_len]; exact hk)
        have HGb : Hid (GxS w tb sb rb wb db be kb t stop aw cw ad cd E Wb) := HG2.out.below hbel
        have hEl : E.length = t.sz := (by rw [← flT_len, ← HGb.out.em, List.length_map])
        have hiL : k < E.length := by omega
        have hiD : k < (dpL t 0).length := (by rw [dpL_len]; exact hkz)
        obtain ⟨gl, cpl, egl, _, hcl, _⟩ := OwnE.cells vnC_len HGb.out.ow hiL
        obtain ⟨gd, cpd, egd, _, hcd, _⟩ := OwnE.cells ntC_len HGb.out.od hiD
        injection egl with el1 e91 e92
        injection egd with ed1 e93 e94
        clear e91 e92 e93 e94
        subst el1 ed1
        have hgl := (OwnE.lt HGb.out.ow gl rfl).2
        have hgd := (OwnE.lt HGb.out.od gd rfl).2
        have hx2 : (flatD t 0)[k].2 = E[k].1 := (by have h1 : (flatD t 0)[k].2 = ((flatD t 0).map Prod.snd)[k]'(by simpa using hk) := (by simp); rw [h1]; simp only [flatD_snd, ← HGb.out.em, List.getElem_map])
        have hx1 : (dpL t 0)[k] = (flatD t 0)[k].1 := (by simp only [dpL, List.getElem_map])
        have hfx := HGb.out.fs _ (List.getElem_mem hiL)
        have d0 := hcd 0 _ rfl
        rw [hx1] at d0
        have p0 := hcl 0 _ rfl
        have p1 := hcl 1 _ rfl
        have p2 := hcl 2 _ rfl
        have p3 := hcl 3 _ rfl
        have p4 := hcl 4 _ rfl
        have p5 := hcl 5 _ rfl
        obtain ⟨y, ey⟩ : ∃ y, y = E[k] := ⟨_, rfl⟩
        rw [← ey] at hx2 hfx p0 p1 p2 p3 p4 p5
        obtain ⟨x, ex⟩ : ∃ x, x = (flatD t 0)[k] := ⟨_, rfl⟩
        rw [← ex] at hx2 d0 hax ⊢
        obtain ⟨y1, xv, xkv⟩ := y
        dsimp only at hx2
        subst hx2
        obtain ⟨xa, cx, e1⟩ := hfx.at_.form
        obtain ⟨xk, dx, e2⟩ := hfx.ks.form
        dsimp only at e1 e2
        subst e1 e2
        have HXf : Hid (FdIs (fun k => k < kb) Wb (.slice xa x.2.at_.length cx) (.slice xk x.2.ks.length dx) x.2.at_ x.2.ks) := hfx
        have HXc : Hid (gl < Wb.heap.size ∧ Wb.cell? ⟨gl, k * 6, none⟩ = some (.int .i64 x.2.k.1) ∧ Wb.cell? ⟨gl, k * 6 + 1, none⟩ = some (.int .i64 x.2.k.2) ∧ Wb.cell? ⟨gl, k * 6 + 2, none⟩ = some (.string x.2.tg) ∧ Wb.cell? ⟨gl, k * 6 + 3, none⟩ = some (.string x.2.tx) ∧ Wb.cell? ⟨gl, k * 6 + 4, none⟩ = some (.slice xa x.2.at_.length cx) ∧ Wb.cell? ⟨gl, k * 6 + 5, none⟩ = some (.slice xk x.2.ks.length dx)) := ⟨hgl, p0, p1, p2, p3, p4, p5⟩
        have HDc : Hid (gd < Wb.heap.size ∧ Wb.cell? ⟨gd, k, none⟩ = some (.int .i64 (x.1 : Int))) := ⟨hgd, by have h9 := d0; rw [Nat.mul_one] at h9; exact h9⟩
        have HAx : Hid (AxX W12.heap.size xb x sa sc sk dk F Wb) := hax
        have HNb : Hid (Wb.heap[kb]? = some (.cells #[.int .i64 ((k : Nat) : Int)] 3)) := hnr
        have HBl : Hid (Below kb W12 Wb) := hbel
        have k1 : (k : Int) < (t.sz : Int) := by omega
        have k0 : (0 : Int) ≤ (k : Int) := by omega
        have HSz : Hid (W12.heap.size ≤ Wb.heap.size ∧ k + 1 ≤ 1048577) := ⟨hbel.size, by omega⟩
        clear hcl hcd hx1 hfx d0 p0 p1 p2 p3 p4 p5 ey ex hgl hgd hax hnr hbel hkz hEl hiL hiD hk
        gi_wp2
        refine region_round_held (S := fun W' => Below Wb.heap.size Wb W') l (by kernel_rfl) (by kernel_rfl) (by first | exact lets_block lets_round | exact lets_then (lets_block lets_round) | exact lets_then (lets_then (lets_block lets_round)) | exact lets_then (lets_then (lets_then (lets_block lets_round)))) (Below.refl _ _).drew (fun hHeld => ?_)
        obtain ⟨Ur23u0, eW⟩ : ∃ X, X = Wb.drew := ⟨_, rfl⟩
        have hb : Below Wb.heap.size Wb Ur23u0 := by rw [eW]; exact (Below.refl _ _).drew
        rw [← eW] at hHeld ⊢
        clear eW hb
        refine tkW 0 (some 64) (v := ?_) ?_ hHeld ?_
        rotate_left
        · (intro ww hSw; (try dsimp only at hSw); have c0 : ww.cell? ⟨kb, 0, none⟩ = some (.int .i64 (k : Int)) := (by rw [cell_of_row _ _ _ _ _ _ ((hSw.block _ (row_lt HNb.out)).trans HNb.out)]; rfl); go_simp; try with_reducible rfl)
        refine tkW 1 (some 65) (v := ?_) ?_ hHeld ?_
        rotate_left
        · (intro ww hSw; (try dsimp only at hSw); have c0 : ww.cell? ⟨wb, 0, none⟩ = some (.slice (some ⟨gl, 0, none⟩) t.sz cw) := (by rw [cell_of_row _ _ _ _ _ _ ((hSw.block _ (row_lt HGb.out.wl)).trans HGb.out.wl)]; rfl); go_simp; try with_reducible rfl)
        refine tkW 2 (some 66) (v := ?_) ?_ hHeld ?_
        rotate_left
        · (intro ww hSw; (try dsimp only at hSw); go_simp; try with_reducible rfl)
        refine tkW 3 (some 67) (v := .bool false) ?_ hHeld ?_
        · (intro ww hSw; (try dsimp only at hSw); go_simp; try omega)
        refine tkW 4 (some 68) (v := ?_) ?_ hHeld ?_
        rotate_left
        · (intro ww _; go_simp; try with_reducible rfl)
        refine tkW 5 (some 69) (v := ?_) ?_ hHeld ?_
        rotate_left
        · (intro ww _; go_simp; try with_reducible rfl)
        refine tkW 6 (some 70) (v := ?_) ?_ hHeld ?_
        rotate_left
        · (intro ww hSw; (try dsimp only at hSw); have c0 : ww.cell? ⟨db, 0, none⟩ = some (.slice (some ⟨gd, 0, none⟩) t.sz cd) := (by rw [cell_of_row _ _ _ _ _ _ ((hSw.block _ (row_lt HGb.out.dl)).trans HGb.out.dl)]; rfl); go_simp; try with_reducible rfl)
        refine tkW 7 (some 71) (v := ?_) ?_ hHeld ?_
        rotate_left
        · (intro ww hSw; (try dsimp only at hSw); have c0 : ww.cell? ⟨kb, 0, none⟩ = some (.int .i64 (k : Int)) := (by rw [cell_of_row _ _ _ _ _ _ ((hSw.block _ (row_lt HNb.out)).trans HNb.out)]; rfl); go_simp; try with_reducible rfl)
        refine tkW 8 (some 72) (v := ?_) ?_ hHeld ?_
        rotate_left
        · (intro ww hSw; (try dsimp only at hSw); go_simp; try with_reducible rfl)
        refine tkW 9 (some 73) (v := ?_) ?_ hHeld ?_
        rotate_left
        · (intro ww hSw; (try dsimp only at hSw); have c0 : ww.cell? ⟨gd, k, none⟩ = some (.int .i64 (x.1 : Int)) := (hSw.cell (p := ⟨gd, k, none⟩) HDc.out.1).trans HDc.out.2; go_simp; try with_reducible rfl)
        refine tkW 10 (some 74) (v := .bool false) ?_ hHeld ?_
        · (intro ww hSw; (try dsimp only at hSw); go_simp; try simp)
        refine tkW 11 (some 75) (v := ?_) ?_ hHeld ?_
        rotate_left
        · (intro ww _; go_simp; try with_reducible rfl)
        refine tkW 12 (some 76) (v := ?_) ?_ hHeld ?_
        rotate_left
        · (intro ww _; go_simp; try with_reducible rfl)
        refine tkW 13 (some 77) (v := ?_) ?_ hHeld ?_
        rotate_left
        · (intro ww hSw; (try dsimp only at hSw); obtain ⟨z0, z1, z2, z3, z4, z5⟩ := row6 ((hSw.block _ (row_lt HAx.out.box)).trans HAx.out.box); go_simp; try with_reducible rfl)
        refine tkW 14 (some 78) (v := ?_) ?_ hHeld ?_
        rotate_left
        · (intro ww hSw; (try dsimp only at hSw); have c0 : ww.cell? ⟨wb, 0, none⟩ = some (.slice (some ⟨gl, 0, none⟩) t.sz cw) := (by rw [cell_of_row _ _ _ _ _ _ ((hSw.block _ (row_lt HGb.out.wl)).trans HGb.out.wl)]; rfl); go_simp; try with_reducible rfl)
        refine tkW 15 (some 79) (v := ?_) ?_ hHeld ?_
        rotate_left
        · (intro ww hSw; (try dsimp only at hSw); have c0 : ww.cell? ⟨kb, 0, none⟩ = some (.int .i64 (k : Int)) := (by rw [cell_of_row _ _ _ _ _ _ ((hSw.block _ (row_lt HNb.out)).trans HNb.out)]; rfl); go_simp; try with_reducible rfl)
        refine tkW 16 (some 80) (v := ?_) ?_ hHeld ?_
        rotate_left
        · (intro ww hSw; (try dsimp only at hSw); go_simp; try with_reducible rfl)
        refine tkW 17 (some 81) (v := ?_) ?_ hHeld ?_
        rotate_left
        · (intro ww hSw; (try dsimp only at hSw); obtain ⟨z0, z1, z2, z3, z4, z5⟩ := ckCells6 hSw HXc.out; go_simp; try with_reducible rfl)
        refine wpAnyH_ready (rs := [18]) (by kernel_rfl) (by simp) ?_
        refine AllReadyH.cons (o := ⟨some 82, _, _, _, _, _⟩) rfl (fun K hK => ?_) AllReadyH.nil
        go_simp
        refine (refSame_any _ _ x.2 x.2 _ _ _ (VIs.of ((HAx.out.below hHeld).sep.vis _)) (VIs.of (HXf.out.below hHeld))).mono ?_
        rintro e Ur23u1 ⟨rfl, hb⟩
        rw [eqV_self]
        (try go_wp2_with fail)
        refine hK.out _ _ (hHeld.trans (hb.mono hHeld.size)) (fun hHeld2 => ?_)
        clear hK K hHeld
        have hHeld := hHeld2
        clear hHeld2
        (try simp only [Act.put, List.setIfInBounds_toArray, List.set_cons_zero, List.set_cons_succ])
        clear hb
        refine tkW 19 (some 83) (v := ?_) ?_ hHeld ?_
        rotate_left
        · (intro ww _; go_simp; try with_reducible rfl)
        refine tkW 20 (some 84) (v := ?_) ?_ hHeld ?_
        rotate_left
        · (intro ww _; go_simp; try with_reducible rfl)
        refine wpAnyH_done (by kernel_rfl) ?_ _
        obtain ⟨U, eU⟩ : ∃ X, X = Ur23u1 := ⟨_, rfl⟩
        rw [← eU] at hHeld ⊢
        clear eU
        replace HAx : Hid (AxX W12.heap.size xb x sa sc sk dk F U) := HAx.out.below hHeld
        replace HNb : Hid (U.heap[kb]? = some (.cells #[.int .i64 ((k : Nat) : Int)] 3)) := (hHeld.block _ (row_lt HNb.out)).trans HNb.out
        have HKf : Hid (KeepsFrom W12.heap.size Wb U ∧ KpE (fun k => k < kb) W12.heap.size Wb U) := ⟨keepsFrom_below hHeld, KpE.of_below hHeld fun j q => Nat.lt_of_lt_of_le (Nat.lt_trans q HNlt2.out.1) HSz.out.1⟩
        replace HBl : Hid (Below kb W12 U) := HBl.out.trans (hHeld.mono (Nat.le_trans (Nat.le_of_lt HNlt2.out.1) HSz.out.1))
        clear hHeld HXf HXc HDc HGb k1
        obtain ⟨V, eV⟩ : ∃ X, X = U.setCell ⟨kb, 0, none⟩ (.int .i64 ((k : Int) + 1)) := ⟨_, rfl⟩
        have HV : Hid (V = U.setCell ⟨kb, 0, none⟩ (.int .i64 ((k : Int) + 1))) := eV
        have HNv : Hid (V.heap[kb]? = some (.cells #[.int .i64 ((k + 1 : Nat) : Int)] 3)) := (by rw [eV]; have h9 := heap_setCell_same U kb 0 _ _ (.int .i64 ((k : Int) + 1)) HNb.out; exact h9)
        have HBv : Hid (Below kb W12 V) := (by rw [eV]; exact HBl.out.setCell (p := ⟨kb, 0, none⟩) (Nat.le_refl _) _)
        have HKv : Hid (KeepsFrom W12.heap.size Wb V ∧ KpE (fun k => k < kb) W12.heap.size Wb V) := ⟨HKf.out.1.trans (by rw [eV]; exact keepsFrom_set _ _ _), HKf.out.2.trans (by rw [eV]; exact KpE.set (fun q => Nat.lt_irrefl _ q) HNlt2.out.1)⟩
        have HAv : Hid (AxX W12.heap.size xb x sa sc sk dk F V) := (by rw [eV]; exact HAx.out.set HNlt2.out.1)
        have cn : U.cell? ⟨kb, 0, none⟩ = some (.int .i64 (k : Int)) := (by rw [cell_of_row _ _ _ _ _ _ HNb.out]; rfl)
        have fn := frozen_of_row U kb 0 _ _ HNb.out
        have n1 : IntKind.i64.wrap ((k : Int) + 1) = (k : Int) + 1 := by (rw [IntKind.wrap_i64]; have := HSz.out.2; omega)
        clear eV HKf HBl HAx HNb
        gi_wp2
        rw [← HV.out]
        exact ⟨HKv.out.1, HKv.out.2, HNv.out, HBv.out⟩
      case done2 =>
        rintro De We hDe hI2 hDf2
        rw [flatD_len] at hI2
        have HGe : Hid (GxS w tb sb rb wb db be kb t stop aw cw ad cd E We) := HG2.out.below hI2.2
        have HKe : Hid (We.heap[kb]? = some (.cells #[.int .i64 (t.sz : Int)] 3)) := hI2.1
        have HNe : Hid (We.heap[nb]? = some (.cells #[.int .i64 (nn : Int)] 3)) := (hI2.2.block _ HLt.out.1).trans HNn.out
        have HD1 : Hid (We.heap[Dd]? = some (.deferred (some []))) := (hI2.2.block _ HLt.out.2.1).trans HDf.out
        have HD2 : Hid (We.heap[De]? = some (.deferred (some []))) := hDf2
        have HBe : Hid (Below w.heap.size w We) := HBn2.out.trans (hI2.2.mono HNlt2.out.2)
        have HDe : Hid (W12.heap.size ≤ De) := hDe
        clear hI2 hDf2 hDe
        have ck_ : We.cell? ⟨kb, 0, none⟩ = some (.int .i64 (t.sz : Int)) := (by rw [cell_of_row _ _ _ _ _ _ HKe.out]; rfl)
        have cn : We.cell? ⟨nb, 0, none⟩ = some (.int .i64 (nn : Int)) := (by rw [cell_of_row _ _ _ _ _ _ HNe.out]; rfl)
        have cw_ : We.cell? ⟨wb, 0, none⟩ = some (.slice aw t.sz cw) := (by rw [cell_of_row _ _ _ _ _ _ HGe.out.wl]; rfl)
        have cs : We.cell? ⟨sb, 0, none⟩ = some (.int .i64 stop) := (by rw [cell_of_row _ _ _ _ _ _ HGe.out.s]; rfl)
        have q0 : ((t.sz : Int) == (t.sz : Int)) = true := by simp
        by_cases hnn : nn = t.sz
        · have q1 : ((nn : Int) == (t.sz : Int)) = true := by simp [hnn]
          clear hnn
          gi_wp2_with fail
          clear ck_ cn cw_ cs
          refine ⟨trivial, fun _ => (by omega), (callsIn_wide.2 (awake_any _)).mono ?_⟩
          rintro e Wz ⟨rfl, hb⟩
          have HRz : Hid (Wz.heap[rb]? = some (.cells #[.bool false] 4)) := (hb.block _ (row_lt HGe.out.r)).trans HGe.out.r
          have HBz : Hid (Below w.heap.size w Wz) := HBe.out.trans (hb.mono HBe.out.size)
          replace HD1 : Hid (Wz.heap[Dd]? = some (.deferred (some []))) := (hb.block _ (row_lt HD1.out)).trans HD1.out
          replace HD2 : Hid (Wz.heap[De]? = some (.deferred (some []))) := (hb.block _ (row_lt HD2.out)).trans HD2.out
          clear hb
          have c4 : Wz.cell? ⟨rb, 0, none⟩ = some (.bool false) := (by rw [cell_of_row _ _ _ _ _ _ HRz.out]; rfl)
          have f4 := frozen_of_row Wz rb 0 _ _ HRz.out
          have HEn := hide9 (two_marks HRz.out HBz.out HD1.out HD2.out (by have := HLt.out; have := HDe.out; have := HNlt2.out; omega) HRn.out (by have := HLt.out; have := HNlt.out; omega))
          gi_wp2
          obtain ⟨k1, k2, k3, k4⟩ := HEn.out
          refine ⟨by simp, .inl ⟨_, _, rfl, run_takeDeferred k1, ?_⟩⟩
          refine ⟨by simp, .inl ⟨_, _, rfl, run_takeDeferred k2, ?_⟩⟩
          exact ⟨_, results_boolCell4 rfl _ rb _ true rfl k3, rfl, k4⟩
        · have q1 : ((nn : Int) == (t.sz : Int)) = false := by (simp; omega)
          have q2 : ((nn : Int) == stop) = true := by simpa using HNN.out.resolve_left hnn
          clear hnn
          gi_wp2_with fail
          clear ck_ cn cw_ cs
          refine ⟨trivial, fun _ => (by omega), (callsIn_wide.2 (awake_any _)).mono ?_⟩
          rintro e Wz ⟨rfl, hb⟩
          have HRz : Hid (Wz.heap[rb]? = some (.cells #[.bool false] 4)) := (hb.block _ (row_lt HGe.out.r)).trans HGe.out.r
          have HBz : Hid (Below w.heap.size w Wz) := HBe.out.trans (hb.mono HBe.out.size)
          replace HD1 : Hid (Wz.heap[Dd]? = some (.deferred (some []))) := (hb.block _ (row_lt HD1.out)).trans HD1.out
          replace HD2 : Hid (Wz.heap[De]? = some (.deferred (some []))) := (hb.block _ (row_lt HD2.out)).trans HD2.out
          clear hb
          have c4 : Wz.cell? ⟨rb, 0, none⟩ = some (.bool false) := (by rw [cell_of_row _ _ _ _ _ _ HRz.out]; rfl)
          have f4 := frozen_of_row Wz rb 0 _ _ HRz.out
          have HEn := hide9 (two_marks HRz.out HBz.out HD1.out HD2.out (by have := HLt.out; have := HDe.out; have := HNlt2.out; omega) HRn.out (by have := HLt.out; have := HNlt.out; omega))
          gi_wp2
          obtain ⟨k1, k2, k3, k4⟩ := HEn.out
          refine ⟨by simp, .inl ⟨_, _, rfl, run_takeDeferred k1, ?_⟩⟩
          refine ⟨by simp, .inl ⟨_, _, rfl, run_takeDeferred k2, ?_⟩⟩
          exact ⟨_, results_boolCell4 rfl _ rb _ true rfl k3, rfl, k4⟩
      case stop2 => rintro D c k W hD hk hf; exact hf.elim

theorem vtreeGoes_walk (v : Value) (t : VT) (v1 : Value) (stop : Int) (w : World) (h : VIs (fun _ => True) w v t) (hbn : BnA t) (hsz : t.sz ≤ 1048576) (hk : v1 = .int .i64 stop) :
    Calls Try.prog 3 #[v, v1] w fun e w' => e = .returned (.bool true) ∧ Below w.heap.size w w' := by
  subst hk
  exact vtreeGoes_walk0 _ v t stop w h hsz

end Go.Proofs.Ytngglnlphlembaa
