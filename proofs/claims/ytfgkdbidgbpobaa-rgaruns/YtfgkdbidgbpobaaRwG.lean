/- Order. -/
import Derived.Test.YtfgkdbidgbpobaaRwF
namespace Go.Proofs.Ytfgkdbidgbpobaa
open Go.RowKit Go.Shelf
set_option linter.unusedVariables false
set_option linter.unusedSimpArgs false

attribute [local go_sem] Oper.semAt_some

theorem wpListIn_append_own_at {F : Fence} {n : Nat} {P : Program} (w : World) {ops : Array Oper} {rest : List Oper} {o : Oper} {a : Act} {Q : Exit → Act → World → Prop}
    (hg : o.guard = none) (s x : Operand) (t : TypeId) (hop : o.op = Op.call { callee := Callee.builtin Builtin.append, args := #[s, x], argTypes := #[t, t] })
    (base : Nat) (e : TypeId) (i : TypeInfo) (z : Value) (size bytes : Nat) (h1 : P.underlying t = some (.slice e)) (h2 : P.info? e = some i) (h3 : i.zero = some z) (h4 : i.size = size) (h5 : i.bytes = bytes) (h6 : z.cells.size = size) (h7 : 0 < size)
    (v : Value) (k : Nat) (xs : List Value) (hs : a.eval s = v) (hown : w.ownsRow base e size v k xs) (ad : Addr) (m c : Nat) (news : List Value) (hx : a.eval x = .slice (some ad) m c) (hn : news.length = m * size)
    (hc : ∀ j u, news[j]? = some u → w.cell? (ad.add j) = some u) (h1c : ∀ u ∈ news, u.oneCell' = true) (b1 : k + m ≤ maxLen) (b2 : (k + m) * bytes ≤ 140737488355328) (b3 : base ≤ w.heap.size)
    (hK : ∀ v' w', w'.ownsRow base e size v' (k + m) (xs ++ news) → w.grownBy w' v.ownBlock → (v'.ownBlock = v.ownBlock ∨ v'.ownBlock = some w.heap.size) → wpListIn F n P ops Q rest (a.put o.dst v') w') :
    wpListIn F n P ops Q (o :: rest) a w := by
  refine wpListIn_plain hg fun K hK' => ?_
  obtain ⟨v', w', hrun, r1, r2, r3, r4⟩ := run_append_own_at (P := P) w base t o.type e i z size bytes h1 h2 h3 h4 h5 h6 h7 v k xs hown ad m c news hn hc h1c b1 b2 b3
  unfold Oper.wpIn
  refine ⟨?_, ?_⟩
  · simp [Oper.about, hop, resolve, Target.leads, Sem.run_pure]
  · rw [Oper.semAt_plain F _ _ (by rw [hop]; intro c hc'; cases hc')]
    simp [execOp, hop, resolve, invoke, builtin, hs, hx, hrun, Result.andThen]
    exact hK' _ _ (hK v' w' r1 r2 r4)
/-- What stands while the stamps are gathered. -/
structure OrI (w W2 : World) (S : Nat → Prop) (bo : Nat) (D : List St) (v : Value) (U : World) : Prop where
  o : BxC bo [v] 38 U
  own : OwnSt w.heap.size U v D
  bel : Below w.heap.size w U
  kp : KeepsH S W2 U
  lo : w.heap.size ≤ bo
  bs : ¬ S bo
  vs : ∀ k, v.ownBlock = some k → ¬ S k
  sl : ∀ k, S k → k < W2.heap.size
  bl : bo < W2.heap.size
def OrS (w W2 : World) (S : Nat → Prop) (bo : Nat) (D : List St) (U : World) : Prop := ∃ v, OrI w W2 S bo D v U
section
variable {w W2 : World} {S : Nat → Prop} {bo : Nat} {D : List St} {v : Value} {U U' : World}
theorem OrI.below (h : OrI w W2 S bo D v U) (hb : Below U.heap.size U U') : OrI w W2 S bo D v U' := ⟨h.o.below hb, h.own.below hb, h.bel.trans (hb.mono h.bel.size), h.kp.below hb, h.lo, h.bs, h.vs, h.sl, h.bl⟩
theorem OrS.below (h : OrS w W2 S bo D U) (hb : Below U.heap.size U U') : OrS w W2 S bo D U' := by obtain ⟨v, h⟩ := h; exact ⟨v, h.below hb⟩
theorem OrS.size (h : OrS w W2 S bo D U) : W2.heap.size ≤ U.heap.size := by obtain ⟨v, h⟩ := h; exact h.kp.1.1
theorem OrS.grown (h : OrS w W2 S bo D U) {row : Option Nat} (hg : U.grownBy U' row) (hr : ∀ r, row = some r → W2.heap.size ≤ r ∧ ∃ o : Obj, U.heap[r]? = some o ∧ o.isCells = false) : OrS w W2 S bo D U' := by
  obtain ⟨v, h⟩ := h
  have hbl := h.bl
  have hlo := h.lo
  refine ⟨v, row_own h.o hg (fun r e => (hr r e).2), h.own.keep fun k e => ?_, h.bel.grown hg h.bel.size (fun j e => by have := (hr j e).1; omega), ⟨h.kp.1.trans (KeepsS.of_grown hg (fun k hk => Nat.lt_of_lt_of_le (h.kp.2 k hk) h.kp.1.1) (fun r e hS => by have := (hr r e).1; have := h.kp.2 r hS; omega)), h.kp.2⟩, h.lo, h.bs, h.vs, h.sl, h.bl⟩
  obtain ⟨cur, hcur⟩ := ownsRow_type h.own k e
  exact (row_own hcur hg (fun r e => (hr r e).2)).trans hcur.symm
theorem bxst_ne {b : Nat} {cs : List Value} {T : TypeId} {N : Nat} (h : OwnSt N U v D) (hb : BxC b cs T U) (hT : T ≠ 33) : v.ownBlock ≠ some b := fun e => by
  obtain ⟨cur, hc⟩ := ownsRow_type h b e
  have h2 : U.heap[b]? = some (.cells cs.toArray T) := hb
  rw [hc] at h2
  simp at h2
  exact hT h2.2.symm
/-- A stamp more. -/
theorem OrI.push (h : OrI w W2 S bo D v U) {x : St} {v2 : Value} {U2 : World} (ho : OwnSt w.heap.size U2 v2 (D ++ [x])) (hg : U.grownBy U2 v.ownBlock) (ha : v2.ownBlock = v.ownBlock ∨ v2.ownBlock = some U.heap.size) :
    U2.cell? ⟨bo, 0, none⟩ = some v ∧ U2.frozen? ⟨bo, 0, none⟩ = false ∧ OrS w W2 S bo (D ++ [x]) (U2.setCell ⟨bo, 0, none⟩ v2) ∧ KeepsS S U (U2.setCell ⟨bo, 0, none⟩ v2) ∧ ∀ B, KeepsFrom B U (U2.setCell ⟨bo, 0, none⟩ v2) := by
  have hs : ∀ k, k ≠ bo → (U2.setCell ⟨bo, 0, none⟩ v2).heap[k]? = U2.heap[k]? := fun k hk => Below.heap_setCell _ _ _ _ hk
  have o2 : BxC bo [v] 38 U2 := h.o.keep (hg.block bo h.o.lt (fun e => bxst_ne h.own h.o (by decide) e.symm))
  have hsz : (U2.setCell ⟨bo, 0, none⟩ v2).heap.size = U2.heap.size := by simp [World.setCell]
  have hS : KeepsS S U (U2.setCell ⟨bo, 0, none⟩ v2) := ⟨by rw [hsz]; exact hg.size, fun k hk => (hs k (fun e => h.bs (e ▸ hk))).trans (hg.block k (Nat.lt_of_lt_of_le (h.sl k hk) h.kp.1.1) (fun e => h.vs k e.symm hk))⟩
  refine ⟨o2.cell 0 _ rfl, o2.free 0, ⟨v2, ?_, ho.keep fun k e => hs k (fun e2 => bxst_ne ho o2 (by decide) (e2 ▸ e)), (h.bel.grown hg h.bel.size fun j e => (h.own.lt j e).1).setCell (p := ⟨bo, 0, none⟩) h.lo _, ⟨h.kp.1.trans hS, h.kp.2⟩, h.lo, h.bs, fun k e hk => ?_, h.sl, h.bl⟩, hS, fun B => ?_⟩
  · have := heap_setCell_same U2 bo 0 _ _ v2 o2
    simpa [BxC] using this
  · rcases ha with ha | ha
    · exact h.vs k (ha ▸ e) hk
    · rw [e] at ha; cases ha; have := h.sl _ hk; have := h.kp.1.1; omega
  · refine (KeepsFrom.trans (Y := U2) ⟨hg.size, fun k o _ hk ho2 => ?_⟩ ((KeepsOthers.setCell U2 ⟨bo, 0, none⟩ v2).from B))
    refine (hg.block k (Array.getElem?_eq_some_iff.1 hk).1 fun e => ?_).trans hk
    obtain ⟨cur, hc⟩ := ownsRow_type h.own k e.symm
    rw [hk] at hc
    cases hc
    simp [Obj.isCells] at ho2
end

set_option maxRecDepth 100000 in
set_option maxHeartbeats 8000000 in
theorem order_any (F : Nat → Prop) (v : Value) (L : List Sl) (w : World) (h : RowV F w v L) :
    Calls Try.prog 11 #[v] w fun e w' => ∃ u, e = .returned u ∧ OwnSt w.heap.size w' u (ordL L) ∧ Below w.heap.size w w' := by
  refine (callsIn_wide (n := 9)).1 ?_
  obtain ⟨p, rfl⟩ := h.ptr
  obtain ⟨ist, hist, hz0st, hz1st, hz2st⟩ := info_parts infoStamp
  have hl := h.small
  have HG : Hid (GoodL L) := h.good
  have HV : Hid (RowV F w (.pointer p) L) := h
  obtain ⟨W1, hmk, hown1, hg1⟩ := run_make_own (P := Try.prog) w w.heap.size 38 33 ist (.agg #[.int .i64 0, .int .i64 0]) 2 Try.underlying38 hist hz0st hz1st .i64 .i64 L.length (by rw [hz2st]; omega) (by unfold maxLen; omega) (Nat.le_refl _)
  have hb1 : Below w.heap.size w W1 := ⟨hg1.os, hg1.tape, hg1.output, hg1.size, fun k hk => hg1.block k hk (by simp)⟩
  obtain ⟨W2, eW2⟩ : ∃ X, X = W1.alloc (.cells [.slice (some ⟨w.heap.size, 0, none⟩) 0 L.length].toArray 38) := ⟨_, rfl⟩
  have hb2 : Below W1.heap.size W1 W2 := by rw [eW2]; exact (Below.refl _ _).alloc (Nat.le_refl _) _
  have HO : Hid (BxC W1.heap.size [.slice (some ⟨w.heap.size, 0, none⟩) 0 L.length] 38 W2) := by rw [eW2]; exact BxC.new _ _ _
  have HOw : Hid (OwnSt w.heap.size W2 (.slice (some ⟨w.heap.size, 0, none⟩) 0 L.length) []) := OwnE.below (D := []) hown1 hb2
  have HB2 : Hid (Below w.heap.size w W2) := hb1.trans (hb2.mono hb1.size)
  have HV2 : Hid (RowV F W2 (.pointer p) L) := (h.below hb1).below hb2
  have HSz : Hid (w.heap.size ≤ W1.heap.size) := hb1.size
  clear h hb1 hb2 hown1 hg1
  refine callsIn_of_wp_marksN Try.func11 rfl trivial ?_ rfl
  simp only [Try.ntmps11, List.size_toArray, List.length_cons, List.length_nil, Nat.reduceAdd, Nat.reduceSub, Array.replicate_succ, Array.replicate_zero, List.push_toArray, List.append_toArray, List.nil_append, List.cons_append]
  gi_wp2_with fail
  refine ⟨trivial, (callsIn_wide.2 (len_v HV.out)).mono ?_⟩
  rintro e w9 ⟨rfl, hw⟩
  replace hw := hw.symm
  subst hw
  gi_wp2_with fail
  have eW3 := eW2
  rw [← eW3]
  clear eW3 eW2 hmk
  refine ⟨trivial, (callsIn_wide.2 (each_any F _ L _ HV2.out)).mono ?_⟩
  rintro e W4 ⟨u, rfl, ⟨B1, a1, c1, rfl, hB1, hx1, ho1⟩, hb4⟩
  obtain ⟨D, eD⟩ : ∃ D, D = (ordL L).map (slO L) := ⟨_, rfl⟩
  rw [← eD] at hx1 ho1
  have HDl : Hid (D.length ≤ 16384) := by (show _ ≤ _; rw [eD, List.length_map, ord_length HG.out]; omega)
  have HDt : Hid (D.map Sl.ts = ordL L) := by (show _ = _; rw [eD, List.map_map]; exact List.map_id'' (fun _ => rfl) _)
  have hDl := HDl.out
  obtain ⟨S, eS⟩ : ∃ S : Nat → Prop, S = fun k => W2.heap.size ≤ k ∧ k < W4.heap.size := ⟨_, rfl⟩
  have HSl : Hid (∀ k, S k → k < W4.heap.size) := fun k hk => by (rw [eS] at hk; exact hk.2)
  have HSq := each_seq (9 - 1) (by omega) B1 c1 S a1 D W4 (by rw [eS]; exact ⟨hB1, hx1.lt⟩) HSl.out (hx1.cell 0 _ rfl) (ho1.lsE slCells_len (by omega) (fun k e => by rw [eS]; exact ho1.lt k e)) HDl.out
  have HR0 : Hid (OrS w W4 S W1.heap.size ((D.take 0).map Sl.ts) W4) := by
    have hol := HO.out.lt
    refine ⟨.slice (some ⟨w.heap.size, 0, none⟩) 0 L.length, HO.out.below hb4, HOw.out.below hb4, HB2.out.trans (hb4.mono HB2.out.size), ⟨KeepsS.refl _ _, HSl.out⟩, HSz.out, fun hS => ?_, fun k e hS => ?_, HSl.out, Nat.lt_of_lt_of_le hol hb4.size⟩
    · rw [eS] at hS; have := hS.1; omega
    · rw [eS] at hS; have := hS.1; have := (HOw.out.lt k e).2; omega
  clear eD hx1 ho1 hb4 hB1 eS HO HOw HB2 HV2 HV
  obtain ⟨bo, ebo⟩ : ∃ b, b = W1.heap.size := ⟨_, rfl⟩
  rw [← ebo] at HR0 ⊢
  clear ebo HSz
  gi_wp2
  refine range_of (by decide) (gf := 19) (lb := #[.pointer (some ⟨B1, 0, none⟩)]) rfl (enters_of Try.func19 (by kernel_rfl) rfl) HSq KeepsS.trans (keepsSK_b HSl.out) (Below.refl _ _) (fun _ => rfl)
    (fun k W => OrS w W4 S bo ((D.take k).map Sl.ts) W) (fun _ _ _ => False)
    (fun k A B row h1 hg hr => h1.grown hg hr) (fun c k A B row hf _ _ => hf) HR0.out
    (fun x a' W => ∃ Bx, W4.heap.size ≤ Bx ∧ BxC Bx (slCells x) 36 W ∧ ∃ u1 u2 u5 u6 u7 u8 u9 u10 u11 u12 u13 u14 u15 u16 : Value, a' = { tmps := #[.pointer p, u1, u2, .pointer (some ⟨bo, 0, none⟩), .pointer (some ⟨Bx, 0, none⟩), u5, u6, u7, u8, u9, u10, u11, u12, u13, u14, u15, u16], defers := [] })
    (fun x a' u A B row ⟨Bx, h1, h2, h5⟩ hg hr => ⟨Bx, h1, row_own h2 hg (fun r e => (hr r e).2), h5⟩)
    ?assign ?body ?done ?stop
  case assign =>
    rintro l k hk Wa K hA hK
    obtain ⟨x, hx⟩ : ∃ x, x = D[k] := ⟨_, rfl⟩
    rw [← hx] at hK ⊢
    clear hx
    have hb : Below Wa.heap.size Wa (Wa.alloc (.cells (slCells x).toArray 36)) := (Below.refl _ _).alloc (Nat.le_refl _) _
    have hfin := fun a' e5 => hK a' (Wa.alloc (.cells (slCells x).toArray 36)) (keepsFrom_below hb) (KeepsS.of_below hb (fun j hj => Nat.lt_of_lt_of_le (HSl.out j hj) hA.size)) (hA.below hb) ⟨Wa.heap.size, hA.size, BxC.new _ _ _, e5⟩
    have HFin2 : Hid (∀ a', (∃ u1 u2 u5 u6 u7 u8 u9 u10 u11 u12 u13 u14 u15 u16 : Value, a' = { tmps := #[.pointer p, u1, u2, .pointer (some ⟨bo, 0, none⟩), .pointer (some ⟨Wa.heap.size, 0, none⟩), u5, u6, u7, u8, u9, u10, u11, u12, u13, u14, u15, u16], defers := [] }) → K a' (Wa.alloc (.cells (slCells x).toArray 36))) := hfin
    clear hK hfin hb hA
    simp only [encL]
    gi_wp2
    exact HFin2.out _ ⟨_, _, _, _, _, _, _, _, _, _, _, _, _, _, rfl⟩
  case body =>
    rintro l k hk a' Wb hlD ⟨v2, hA⟩ ⟨Bx, hx1, hx2, u1, u2, u5, u6, u7, u8, u9, u10, u11, u12, u13, u14, u15, u16, rfl⟩
    obtain ⟨x, hx⟩ : ∃ x, x = D[k] := ⟨_, rfl⟩
    rw [← hx] at hx2
    have HTk : Hid ((D.take (k + 1)).map Sl.ts = (D.take k).map Sl.ts ++ [x.ts]) := by (show _ = _; rw [List.take_succ_eq_append_getElem hk, List.map_append, ← hx]; rfl)
    obtain ⟨Dk, eDk⟩ : ∃ Dk, Dk = (D.take k).map Sl.ts := ⟨_, rfl⟩
    have hdk : Dk.length ≤ 16384 := by (rw [eDk]; simp; omega)
    rw [← eDk] at hA HTk
    clear eDk hx
    obtain ⟨a2, c2, e2⟩ := hA.own.form
    subst e2
    have HA : Hid (OrI w W4 S bo Dk (.slice a2 Dk.length c2) Wb) := hA
    have x0 := hx2.cell 0 _ rfl
    have x1 := hx2.cell 1 _ rfl
    have o0 := hA.o.cell 0 _ rfl
    obtain ⟨Wc, eWc⟩ : ∃ X, X = Wb.alloc (.cells #[.int .i64 x.ts.1, .int .i64 x.ts.2] 33) := ⟨_, rfl⟩
    have hbc : Below Wb.heap.size Wb Wc := by rw [eWc]; exact (Below.refl _ _).alloc (Nat.le_refl _) _
    have HAc : Hid (OrI w W4 S bo Dk (.slice a2 Dk.length c2) Wc) := hA.below hbc
    have HKc : Hid (KeepsS S Wb Wc ∧ KeepsFrom W4.heap.size Wb Wc) := ⟨KeepsS.of_below hbc (fun j hj => Nat.lt_of_lt_of_le (HSl.out j hj) hA.kp.1.1), keepsFrom_below hbc⟩
    have HNw : Hid (∀ j u, ([.int .i64 x.ts.1, .int .i64 x.ts.2] : List Value)[j]? = some u → Wc.cell? ((⟨Wb.heap.size, 0, none⟩ : Addr).add j) = some u) := fun j u hj => (by rw [Addr.add_lit, eWc, cell_of_row _ _ _ _ _ _ (heap_alloc_new Wb _)]; simpa using hj)
    have HSzc : Hid (w.heap.size ≤ Wc.heap.size) := HAc.out.bel.size
    rw [eWc] at HAc HNw HSzc
    clear hA hx2 hbc
    gi_wp2_with (gi_at_builtin; refine wpListIn_append_own_at _ rfl _ _ 38 rfl w.heap.size 33 ist (.agg #[.int .i64 0, .int .i64 0]) 2 16 Try.underlying38 hist hz0st hz1st hz2st rfl (by decide) _ _ _ rfl HAc.out.own ⟨Wb.heap.size, 0, none⟩ 1 1 [.int .i64 x.ts.1, .int .i64 x.ts.2] rfl rfl HNw.out (stCells_one x.ts) (by unfold maxLen; omega) (by omega) HSzc.out ?_; intro v3 w3 hown3 hgrow3 hat3; obtain ⟨g3, n3, c3, e3⟩ : ∃ a n c, v3 = .slice a n c := (by rcases hown3.2 with ⟨e, _⟩ | ⟨g, cap, cur, e, _⟩; exact ⟨_, _, _, e⟩; exact ⟨_, _, _, e⟩); subst e3; obtain ⟨q1, q2, q3, q4, q5⟩ := HAc.out.push (x := x.ts) (OwnE.snoc rfl hown3) hgrow3 hat3; have HP : Hid (OrS w W4 S bo (Dk ++ [x.ts]) (w3.setCell ⟨bo, 0, none⟩ (.slice g3 n3 c3)) ∧ KeepsS S (Wb.alloc (.cells #[.int .i64 x.ts.1, .int .i64 x.ts.2] 33)) (w3.setCell ⟨bo, 0, none⟩ (.slice g3 n3 c3)) ∧ ∀ B, KeepsFrom B (Wb.alloc (.cells #[.int .i64 x.ts.1, .int .i64 x.ts.2] 33)) (w3.setCell ⟨bo, 0, none⟩ (.slice g3 n3 c3))) := ⟨q3, q4, q5⟩; clear q3 q4 q5 hown3 hgrow3 hat3 HAc HNw HSzc)
    rw [eWc] at HKc
    exact ⟨HKc.out.2.trans (HP.out.2.2 _), HKc.out.1.trans HP.out.2.1, by show OrS _ _ _ _ (List.map _ _) _; rw [HTk.out]; exact HP.out.1⟩
  case done =>
    rintro Dd Wd hDd ⟨v9, hA⟩ hDf
    rw [List.take_length, HDt.out] at hA
    have HA : Hid (OrS w W4 S bo (ordL L) Wd) := ⟨v9, hA⟩
    obtain ⟨a9, c9, e9⟩ := hA.own.form
    have HDf : Hid (Wd.heap[Dd]? = some (.deferred (some []))) := hDf
    have HI : Hid (OrI w W4 S bo (ordL L) v9 Wd) := hA
    have x1 := hA.o.cell 0 _ rfl
    subst e9
    clear hA hDf
    gi_wp2
    refine ⟨by simp, .inl ⟨_, _, rfl, run_takeDeferred HDf.out, ?_⟩⟩
    have hgp : Wd.grownBy (Wd.putObj Dd (.deferred none)) (some Dd) := grownBy_putObj' Wd Dd (.deferred none)
    have h1 := HI.out
    obtain ⟨cur, hcur⟩ : ∃ cur : Unit, True := ⟨(), trivial⟩
    refine ⟨_, results_tmp rfl _ _ _, _, rfl, h1.own.keep fun k e => ?_, h1.bel.grown hgp h1.bel.size (fun j e => by cases e; have := h1.bl; have := h1.lo; omega)⟩
    obtain ⟨cur, hc⟩ := ownsRow_type h1.own k e
    exact (row_own hc hgp (fun r e => by cases e; exact ⟨_, HDf.out, rfl⟩)).trans hc.symm
  case stop => rintro D c k W hD hk hf; exact hf.elim

end Go.Proofs.Ytfgkdbidgbpobaa
