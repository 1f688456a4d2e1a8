/- LwwAsks. -/
import Derived.Test.YtecliogffcnfiaaLwX
import Derived.Test.YtecliogffcnfiaaLwH
import Derived.Test.YtecliogffcnfiaaLwZ
namespace Go.Proofs.Ytecliogffcnfiaa
open Go.RowKit Go.Shelf
set_option linter.unusedVariables false
set_option linter.unusedSimpArgs false

attribute [local go_sem] Oper.semAt_some

theorem hide9 {p : Prop} (h : p) : Hid p := h
theorem equalAt (a b : ByteArray × ByteArray) (w : World) : (Op.equalIn 10000 42 (.agg #[.string a.1, .string a.2]) (.agg #[.string b.1, .string b.2])).run Try.prog w = .ok (decide (a = b)) w := by
  obtain ⟨a1, a2⟩ := a
  obtain ⟨b1, b2⟩ := b
  have hS : Try.prog.underlying 42 = some (.struct (Try.prog.fieldsOf 42)) := by kernel_rfl
  have hp : Try.prog.stoodInHeld 42 = false := by kernel_rfl
  rw [show (10000 : Nat) = 9999 + 1 from rfl, run_equalIn_agg w 9999 42 _ _ hS hp]
  simp only [Program.fieldsOf, Try.underlying42]
  have hn := txt_eq a1 b1
  have hv := txt_eq a2 b2
  clear hS hp
  go_simp
  by_cases h1 : a1 = b1
  · by_cases h2 : a2 = b2 <;> simp [h1, h2, hn, hv]
  · simp [h1, hn]
theorem execNeqA {ev : Operand → Value} {d : Option Nat} {x y : Operand} {t t2 : TypeId} {o3 : String} {o4 : Array Edge} {o5 : Option (Nat × Bool)} {p : ByteArray × ByteArray} (hx : ev x = .agg #[.string p.1, .string p.2]) (hy : ev y = .agg #[.string p.1, .string p.2]) (w : World) : (execOp ev ⟨d, .binOp .neq 42 x y t2, t, o3, o4, o5⟩).run Try.prog w = .ok (.value (.bool false)) w := by
  have h1 : (eqGuard .neq 42 x y (.agg #[.string p.1, .string p.2]) (.agg #[.string p.1, .string p.2])).run Try.prog w = .ok () w := run_eqGuard_agg w .neq 42 x y _ _ (by kernel_rfl)
  have h2 : (binOp .neq 42 (.agg #[.string p.1, .string p.2]) (.agg #[.string p.1, .string p.2])).run Try.prog w = .ok (.bool false) w := by
    rw [run_neq_struct, equalAt p p w]
    simp
    try rfl
  unfold execOp
  simp only [hx, hy, Sem.run_bind, h1, h2, Result.andThen_ok]
  rfl
/-- What stands until the end: the boxes of stop, of the result, of the list that is wanted, of the iterator; both rows. -/
structure AskF (w : World) (b5 b6 b13 B1 : Nat) (stop : Int) (D : List (ByteArray × ByteArray)) (wv ev : Value) (U : World) : Prop where
  b5 : BxC b5 [.int .i64 stop] 3 U
  b6 : BxC b6 [.bool false] 4 U
  b13 : BxC b13 [wv] 34 U
  e1 : BxC B1 [ev] 34 U
  w2 : OwnAt 0 U wv D
  e2 : OwnAt 0 U ev D
  bel : Below w.heap.size w U
/-- Their blocks are of S. -/
structure AskIn (b5 b6 b13 B1 : Nat) (wv ev : Value) (S : Nat → Prop) : Prop where
  b5 : S b5
  b6 : S b6
  b13 : S b13
  e1 : S B1
  w2 : ∀ k, wv.ownBlock = some k → S k
  e2 : ∀ k, ev.ownBlock = some k → S k
/-- A box that counts; S lies as it lay. -/
structure AkS (w W0 : World) (S : Nat → Prop) (bn n : Nat) (U : World) : Prop where
  box : BxC bn [.int .i64 (n : Int)] 3 U
  kp : KeepsS S W0 U
  kl : ∀ k, S k → k < W0.heap.size
  nb : ¬ S bn
  b1 : w.heap.size ≤ bn
  b2 : bn < W0.heap.size
  bel : Below w.heap.size w U
section
variable {w W0 U U' : World} {b5 b6 b13 B1 bn n : Nat} {stop : Int} {D : List (ByteArray × ByteArray)} {wv ev : Value} {S : Nat → Prop}
theorem AskF.below (h : AskF w b5 b6 b13 B1 stop D wv ev U) (hb : Below U.heap.size U U') : AskF w b5 b6 b13 B1 stop D wv ev U' := ⟨h.b5.below hb, h.b6.below hb, h.b13.below hb, h.e1.below hb, h.w2.below hb, h.e2.below hb, h.bel.trans (hb.mono h.bel.size)⟩
theorem AskF.inn (h : AskF w b5 b6 b13 B1 stop D wv ev U) (hS : ∀ k, k < U.heap.size → S k) : AskIn b5 b6 b13 B1 wv ev S := ⟨hS _ h.b5.lt, hS _ h.b6.lt, hS _ h.b13.lt, hS _ h.e1.lt, fun k e => hS k (h.w2.lt k e).2, fun k e => hS k (h.e2.lt k e).2⟩
theorem AskF.keep (h : AskF w b5 b6 b13 B1 stop D wv ev U) (hk : KeepsS S U U') (hS : AskIn b5 b6 b13 B1 wv ev S) (hb : Below w.heap.size w U') : AskF w b5 b6 b13 B1 stop D wv ev U' :=
  ⟨h.b5.keep (hk.2 _ hS.b5), h.b6.keep (hk.2 _ hS.b6), h.b13.keep (hk.2 _ hS.b13), h.e1.keep (hk.2 _ hS.e1), h.w2.keep fun k e => hk.2 k (hS.w2 k e), h.e2.keep fun k e => hk.2 k (hS.e2 k e), hb⟩
theorem AskF.row (h : AskF w b5 b6 b13 B1 stop D wv ev U) (hS : AskIn b5 b6 b13 B1 wv ev S) (hl : D.length ≤ 4096) {k : Nat} (hk : k < D.length) : ∃ b o c, wv = .slice (some ⟨b, o, none⟩) D.length c ∧ ∀ X, KeepsS S U X → X.cell? ⟨b, o + k * 2, none⟩ = some (.string D[k].1) ∧ X.cell? ⟨b, o + k * 2 + 1, none⟩ = some (.string D[k].2) := by
  obtain ⟨a, c, e, _, _, hr⟩ := h.w2.lsE (G := S) atCells_len (by omega) hS.w2
  obtain ⟨b, o, rfl, hSb, hlt, hr⟩ := hr.resolve_left (by intro e; subst e; simp at hk)
  exact ⟨b, o, c, e, fun X hX => ⟨(hX.cell (p := ⟨b, _, none⟩) hSb).trans (hr k hk 0 _ rfl), (hX.cell (p := ⟨b, _, none⟩) hSb).trans (hr k hk 1 _ rfl)⟩⟩
theorem AkS.size (h : AkS w W0 S bn n U) : W0.heap.size ≤ U.heap.size := h.kp.1
theorem AkS.below (h : AkS w W0 S bn n U) (hb : Below U.heap.size U U') : AkS w W0 S bn n U' := ⟨h.box.below hb, h.kp.trans (KeepsS.of_below hb fun k hk => Nat.lt_of_lt_of_le (h.kl k hk) h.kp.1), h.kl, h.nb, h.b1, h.b2, h.bel.trans (hb.mono h.bel.size)⟩
theorem AkS.grown (h : AkS w W0 S bn n U) {row : Option Nat} (hg : U.grownBy U' row) (hr : ∀ r, row = some r → W0.heap.size ≤ r ∧ ∃ o : Obj, U.heap[r]? = some o ∧ o.isCells = false) : AkS w W0 S bn n U' := by
  have hr2 : ∀ r, row = some r → ∃ o : Obj, U.heap[r]? = some o ∧ o.isCells = false := fun r e => (hr r e).2
  have h1 := h.b1
  have h2 := h.b2
  exact ⟨row_own h.box hg hr2, h.kp.trans ⟨hg.size, fun k hk => hg.block k (Nat.lt_of_lt_of_le (h.kl k hk) h.size) (fun e => by have := (hr k e.symm).1; have := h.kl k hk; omega)⟩, h.kl, h.nb, h.b1, h.b2, h.bel.grown hg h.bel.size (fun j e => by have := (hr j e).1; omega)⟩
theorem AkS.set (h : AkS w W0 S bn n U) (m : Nat) : AkS w W0 S bn m (U.setCell ⟨bn, 0, none⟩ (.int .i64 (m : Int))) ∧ KeepsS S U (U.setCell ⟨bn, 0, none⟩ (.int .i64 (m : Int))) := by
  have hk : KeepsS S U (U.setCell ⟨bn, 0, none⟩ (.int .i64 (m : Int))) := ⟨by simp [World.setCell], fun k hk => RowKit.Below.heap_setCell _ _ _ _ (fun e => h.nb (by rw [← show k = bn from e]; exact hk))⟩
  refine ⟨⟨?_, h.kp.trans hk, h.kl, h.nb, h.b1, h.b2, h.bel.setCell (p := ⟨bn, 0, none⟩) h.b1 _⟩, hk⟩
  have := heap_setCell_same U bn 0 _ _ (.int .i64 (m : Int)) h.box
  simpa [BxC] using this
end
theorem eql_nilFunc (B1 : Nat) (w : World) : (binOp .eql 37 (.func (.func 24) #[] #[.pointer (some ⟨B1, 0, none⟩)]) .nilFunc).run Try.prog w = .ok (.bool false) w := by kernel_rfl
theorem results_boolCell {fn : Func} (hr : fn.results = #[.cell 6 4]) (tmps : Array Value) (R : Nat) (w : World) (b : Bool) (hp : tmps.getD 6 undef = .pointer (some ⟨R, 0, none⟩)) (hc : w.cell? ⟨R, 0, none⟩ = some (.bool b)) : (results fn tmps).run Try.prog w = .ok (.bool b) w := by
  have hp' : tmps[6]?.getD undef = .pointer (some ⟨R, 0, none⟩) := by simpa using hp
  simp [results, hr, hp', asAddr, loadVar, isAgg, run_underlying Try.underlying4, load, go_sem]
  simp [Sem.run, hc]

theorem two_marks {w Wz : World} {b6 Dd De : Nat} (hb : BxC b6 [.bool false] 4 Wz) (bel : Below w.heap.size w Wz) (h1 : Wz.heap[Dd]? = some (.deferred (some []))) (h2 : Wz.heap[De]? = some (.deferred (some []))) (hne : Dd < De) (l1 : w.heap.size ≤ b6) (l2 : w.heap.size ≤ Dd) :
    (Wz.setCell ⟨b6, 0, none⟩ (.bool true)).heap[De]? = some (.deferred (some [])) ∧ ((Wz.setCell ⟨b6, 0, none⟩ (.bool true)).putObj De (.deferred none)).heap[Dd]? = some (.deferred (some [])) ∧ (((Wz.setCell ⟨b6, 0, none⟩ (.bool true)).putObj De (.deferred none)).putObj Dd (.deferred none)).cell? ⟨b6, 0, none⟩ = some (.bool true) ∧ Below w.heap.size w (((Wz.setCell ⟨b6, 0, none⟩ (.bool true)).putObj De (.deferred none)).putObj Dd (.deferred none)) := by
  have n1 : Dd ≠ b6 := fun e => by rw [e, hb] at h1; cases h1
  have n2 : De ≠ b6 := fun e => by rw [e, hb] at h2; cases h2
  have k1 : (Wz.setCell ⟨b6, 0, none⟩ (.bool true)).heap[De]? = some (.deferred (some [])) := (Below.heap_setCell _ _ _ _ (by show De ≠ b6; exact n2)).trans h2
  have k1' : (Wz.setCell ⟨b6, 0, none⟩ (.bool true)).heap[Dd]? = some (.deferred (some [])) := (Below.heap_setCell _ _ _ _ (by show Dd ≠ b6; exact n1)).trans h1
  have k2 : ((Wz.setCell ⟨b6, 0, none⟩ (.bool true)).putObj De (.deferred none)).heap[Dd]? = some (.deferred (some [])) := ((grownBy_putObj' _ De _).block Dd (row_lt k1') (fun e => by have := Option.some.inj e; omega)).trans k1'
  have b1 : (Wz.setCell ⟨b6, 0, none⟩ (.bool true)).heap[b6]? = some (.cells #[.bool true] 4) := by
    have := heap_setCell_same Wz b6 0 _ _ (.bool true) hb
    simpa using this
  have b2 := row_own b1 (grownBy_putObj' (Wz.setCell ⟨b6, 0, none⟩ (.bool true)) De (.deferred none)) (fun r e => by cases e; exact ⟨_, k1, rfl⟩)
  have b3 := row_own b2 (grownBy_putObj' ((Wz.setCell ⟨b6, 0, none⟩ (.bool true)).putObj De (.deferred none)) Dd (.deferred none)) (fun r e => by cases e; exact ⟨_, k2, rfl⟩)
  have bel7 : Below w.heap.size w (Wz.setCell ⟨b6, 0, none⟩ (.bool true)) := bel.setCell (p := ⟨b6, 0, none⟩) (by show w.heap.size ≤ b6; omega) _
  have bel8 := bel7.trans (belowK_b (w := w) (Nat.le_refl _) _ De _ (.deferred none) (by omega) k1 rfl rfl)
  have bel9 := bel8.trans (belowK_b (w := w) (Nat.le_refl _) _ Dd _ (.deferred none) (by omega) k2 rfl rfl)
  exact ⟨k1, k2, BxC.cell (cs := [.bool true]) (T := 4) b3 0 _ rfl, bel9⟩

set_option maxRecDepth 100000 in
set_option maxHeartbeats 16000000 in
theorem lwwAsks_in (n0 : Nat) (hn : 5 ≤ n0) (v : Value) (l : List Rg) (a : Rg) (stop : Int) (w : World) (h : IsRg w v l) :
    CallsIn Fence.wide n0 Try.prog 3 #[v, .agg #[.int .i64 a.nd.1, .int .i64 a.nd.2, .string a.nm, .int .i64 a.at_.1, .int .i64 a.at_.2, .string a.vl, .bool a.gn], .int .i64 stop] w fun e w' => e = .returned (.bool true) ∧ Below w.heap.size w w' := by
  have hro : Fence.wide.round = none := rfl
  have h1n : 1 ≤ n0 := by omega
  obtain ⟨a1, c1, e1⟩ := h.1.form
  subst e1
  obtain ⟨W0, eW⟩ : ∃ X, X = ((w.alloc (.cells (rgCells a).toArray 26)).alloc (.cells [.int .i64 stop].toArray 3)).alloc (.cells [.bool false].toArray 4) := ⟨_, rfl⟩
  have hn3 : BxC w.heap.size (rgCells a) 26 W0 ∧ BxC (w.heap.size + 1) [.int .i64 stop] 3 W0 ∧ BxC (w.heap.size + 2) [.bool false] 4 W0 := by rw [eW]; exact BxC.new3 w _ _ _ _ _ _
  have hb0 : Below w.heap.size w W0 := by rw [eW]; exact (((Below.refl _ _).alloc (Nat.le_refl _) _).alloc (by simp) _).alloc (by simp; omega) _
  have HBx : Hid (BxC w.heap.size (rgCells a) 26 W0 ∧ BxC (w.heap.size + 1) [.int .i64 stop] 3 W0 ∧ BxC (w.heap.size + 2) [.bool false] 4 W0) := hn3
  have HB0 : Hid (Below w.heap.size w W0) := hb0
  have HLs : Hid (IsRg W0 (.slice a1 l.length c1) l) := h.below hb0
  have HE : Hid (W0 = ((w.alloc (.cells (rgCells a).toArray 26)).alloc (.cells [.int .i64 stop].toArray 3)).alloc (.cells [.bool false].toArray 4)) := eW
  clear h hb0 hn3 eW
  refine callsIn_of_wp_marksN Try.func3 rfl trivial ?_ hro
  simp only [Try.ntmps3, List.size_toArray, List.length_cons, List.length_nil, Nat.reduceAdd, Nat.reduceSub, Array.replicate_succ, Array.replicate_zero, List.push_toArray, List.append_toArray, List.nil_append, List.cons_append]
  gi_wp2_with fail
  have HE2 := HE.out
  simp only [rgCells] at HE2
  rw [← HE2]
  clear HE2 HE
  refine ⟨trivial, (callsIn_wide.2 (laid_any _ l _ HLs.out)).mono ?_⟩
  rintro e w1 ⟨rb, F, ad, cd, rfl, hM⟩
  have HLn : Hid ((laidL l).length ≤ 200) := laidL_len l
  obtain ⟨R, eR⟩ : ∃ R, R = laidL l := ⟨_, rfl⟩
  rw [← eR] at hM HLn ⊢
  clear eR HLs
  have HM : Hid (LdS W0 rb F (.slice ad R.length cd) R R w1) := hM
  have HFl : Hid (∀ k, F k → k < w1.heap.size ∧ W0.heap.size ≤ k) := fun k hk => ⟨hM.row.lt k hk, hM.hi k hk⟩
  have HB1 : Hid (BxC w.heap.size (rgCells a) 26 w1 ∧ BxC (w.heap.size + 1) [.int .i64 stop] 3 w1 ∧ BxC (w.heap.size + 2) [.bool false] 4 w1) := ⟨HBx.out.1.keep (hM.bel.block _ HBx.out.1.lt), HBx.out.2.1.keep (hM.bel.block _ HBx.out.2.1.lt), HBx.out.2.2.keep (hM.bel.block _ HBx.out.2.2.lt)⟩
  have HS0 : Hid (w.heap.size + 2 < W0.heap.size) := HBx.out.2.2.lt
  have HBl : Hid (Below w.heap.size w w1) := HB0.out.trans (hM.bel.mono HB0.out.size)
  have HSz : Hid (w1.heap.size ≤ w1.heap.size) := Nat.le_refl _
  clear hM HBx HB0
  have a0 : w1.cell? ⟨w.heap.size, 0, none⟩ = some (.int .i64 a.nd.1) := HB1.out.1.cell 0 _ rfl
  have a1 : w1.cell? ⟨w.heap.size, 1, none⟩ = some (.int .i64 a.nd.2) := HB1.out.1.cell 1 _ rfl
  have a2 : w1.cell? ⟨w.heap.size, 2, none⟩ = some (.string a.nm) := HB1.out.1.cell 2 _ rfl
  have a3 : w1.cell? ⟨w.heap.size, 3, none⟩ = some (.int .i64 a.at_.1) := HB1.out.1.cell 3 _ rfl
  have a4 : w1.cell? ⟨w.heap.size, 4, none⟩ = some (.int .i64 a.at_.2) := HB1.out.1.cell 4 _ rfl
  have a5 : w1.cell? ⟨w.heap.size, 5, none⟩ = some (.string a.vl) := HB1.out.1.cell 5 _ rfl
  have a6 : w1.cell? ⟨w.heap.size, 6, none⟩ = some (.bool a.gn) := HB1.out.1.cell 6 _ rfl
  gi_wp2_with fail
  clear a0 a1 a2 a3 a4 a5 a6
  refine ⟨trivial, (callsIn_wide.2 (get_v HM.out.rv (a.nd, a.nm))).mono ?_⟩
  rintro e w2 ⟨rfl, hb⟩
  replace HM : Hid (LdS W0 rb F (.slice ad R.length cd) R R w2) := HM.out.below hb
  replace HB1 : Hid (BxC w.heap.size (rgCells a) 26 w2 ∧ BxC (w.heap.size + 1) [.int .i64 stop] 3 w2 ∧ BxC (w.heap.size + 2) [.bool false] 4 w2) := ⟨HB1.out.1.below hb, HB1.out.2.1.below hb, HB1.out.2.2.below hb⟩
  replace HBl : Hid (Below w.heap.size w w2) := HBl.out.trans (hb.mono HBl.out.size)
  replace HSz : Hid (w1.heap.size ≤ w2.heap.size) := Nat.le_trans HSz.out hb.size
  clear hb
  obtain ⟨m, em⟩ : ∃ m, m = atR R (a.nd, a.nm) := ⟨_, rfl⟩
  obtain ⟨hh, eh⟩ : ∃ x, x = hasR R (a.nd, a.nm) := ⟨_, rfl⟩
  have Hm : Hid (m = atR R (a.nd, a.nm)) := em
  have Hh : Hid (hh = hasR R (a.nd, a.nm)) := eh
  rw [← em, ← eh]
  clear em eh
  obtain ⟨w3, ew3⟩ : ∃ X, X = w2.alloc (.cells (rgCells m).toArray 26) := ⟨_, rfl⟩
  have hb : Below w2.heap.size w2 w3 := by rw [ew3]; exact (Below.refl _ _).alloc (Nat.le_refl _) _
  obtain ⟨b9, eb9⟩ : ∃ b, b = w2.heap.size := ⟨_, rfl⟩
  have HX9 : Hid (BxC b9 (rgCells m) 26 w3) := by rw [ew3, eb9]; exact BxC.new _ _ _
  replace HM : Hid (LdS W0 rb F (.slice ad R.length cd) R R w3) := HM.out.below hb
  replace HB1 : Hid (BxC w.heap.size (rgCells a) 26 w3 ∧ BxC (w.heap.size + 1) [.int .i64 stop] 3 w3 ∧ BxC (w.heap.size + 2) [.bool false] 4 w3) := ⟨HB1.out.1.below hb, HB1.out.2.1.below hb, HB1.out.2.2.below hb⟩
  replace HBl : Hid (Below w.heap.size w w3) := HBl.out.trans (hb.mono HBl.out.size)
  replace HSz : Hid (w1.heap.size ≤ w3.heap.size) := Nat.le_trans HSz.out hb.size
  clear hb
  (try simp only [rgCells] at ew3)
  have a0 : w3.cell? ⟨w.heap.size, 0, none⟩ = some (.int .i64 a.nd.1) := HB1.out.1.cell 0 _ rfl
  have a1 : w3.cell? ⟨w.heap.size, 1, none⟩ = some (.int .i64 a.nd.2) := HB1.out.1.cell 1 _ rfl
  have a2 : w3.cell? ⟨w.heap.size, 2, none⟩ = some (.string a.nm) := HB1.out.1.cell 2 _ rfl
  have a3 : w3.cell? ⟨w.heap.size, 3, none⟩ = some (.int .i64 a.at_.1) := HB1.out.1.cell 3 _ rfl
  have a4 : w3.cell? ⟨w.heap.size, 4, none⟩ = some (.int .i64 a.at_.2) := HB1.out.1.cell 4 _ rfl
  have a5 : w3.cell? ⟨w.heap.size, 5, none⟩ = some (.string a.vl) := HB1.out.1.cell 5 _ rfl
  have a6 : w3.cell? ⟨w.heap.size, 6, none⟩ = some (.bool a.gn) := HB1.out.1.cell 6 _ rfl
  rw [ew3] at a0 a1 a2 a3 a4 a5 a6
  have HEb9 := hide9 (And.intro ew3 eb9)
  clear ew3 eb9
  simp only [rgV]
  gi_wp2_with fail
  rw [← HEb9.out.1, ← HEb9.out.2]
  clear a0 a1 a2 a3 a4 a5 a6 HEb9
  refine ⟨trivial, (callsIn_wide.2 (refGet_any _ _ R (a.nd, a.nm) _ HM.out.doc)).mono ?_⟩
  rintro e w4 ⟨rfl, hb⟩
  replace HM : Hid (LdS W0 rb F (.slice ad R.length cd) R R w4) := HM.out.below hb
  replace HB1 : Hid (BxC w.heap.size (rgCells a) 26 w4 ∧ BxC (w.heap.size + 1) [.int .i64 stop] 3 w4 ∧ BxC (w.heap.size + 2) [.bool false] 4 w4) := ⟨HB1.out.1.below hb, HB1.out.2.1.below hb, HB1.out.2.2.below hb⟩
  replace HBl : Hid (Below w.heap.size w w4) := HBl.out.trans (hb.mono HBl.out.size)
  replace HSz : Hid (w1.heap.size ≤ w4.heap.size) := Nat.le_trans HSz.out hb.size
  replace HX9 : Hid (BxC b9 (rgCells m) 26 w4) := HX9.out.below hb
  clear hb
  rw [← Hm.out, ← Hh.out]
  obtain ⟨w5, ew5⟩ : ∃ X, X = w4.alloc (.cells (rgCells m).toArray 26) := ⟨_, rfl⟩
  have hb : Below w4.heap.size w4 w5 := by rw [ew5]; exact (Below.refl _ _).alloc (Nat.le_refl _) _
  obtain ⟨b11, eb11⟩ : ∃ b, b = w4.heap.size := ⟨_, rfl⟩
  have HX11 : Hid (BxC b11 (rgCells m) 26 w5) := by rw [ew5, eb11]; exact BxC.new _ _ _
  replace HM : Hid (LdS W0 rb F (.slice ad R.length cd) R R w5) := HM.out.below hb
  replace HB1 : Hid (BxC w.heap.size (rgCells a) 26 w5 ∧ BxC (w.heap.size + 1) [.int .i64 stop] 3 w5 ∧ BxC (w.heap.size + 2) [.bool false] 4 w5) := ⟨HB1.out.1.below hb, HB1.out.2.1.below hb, HB1.out.2.2.below hb⟩
  replace HBl : Hid (Below w.heap.size w w5) := HBl.out.trans (hb.mono HBl.out.size)
  replace HSz : Hid (w1.heap.size ≤ w5.heap.size) := Nat.le_trans HSz.out hb.size
  replace HX9 : Hid (BxC b9 (rgCells m) 26 w5) := HX9.out.below hb
  clear hb
  (try simp only [rgCells] at ew5)
  have a0 : w5.cell? ⟨w.heap.size, 0, none⟩ = some (.int .i64 a.nd.1) := HB1.out.1.cell 0 _ rfl
  have a1 : w5.cell? ⟨w.heap.size, 1, none⟩ = some (.int .i64 a.nd.2) := HB1.out.1.cell 1 _ rfl
  have a2 : w5.cell? ⟨w.heap.size, 2, none⟩ = some (.string a.nm) := HB1.out.1.cell 2 _ rfl
  have a3 : w5.cell? ⟨w.heap.size, 3, none⟩ = some (.int .i64 a.at_.1) := HB1.out.1.cell 3 _ rfl
  have a4 : w5.cell? ⟨w.heap.size, 4, none⟩ = some (.int .i64 a.at_.2) := HB1.out.1.cell 4 _ rfl
  have a5 : w5.cell? ⟨w.heap.size, 5, none⟩ = some (.string a.vl) := HB1.out.1.cell 5 _ rfl
  have a6 : w5.cell? ⟨w.heap.size, 6, none⟩ = some (.bool a.gn) := HB1.out.1.cell 6 _ rfl
  rw [ew5] at a0 a1 a2 a3 a4 a5 a6
  have HEb11 := hide9 (And.intro ew5 eb11)
  clear ew5 eb11
  simp only [rgV]
  gi_wp2_with fail
  rw [← HEb11.out.1, ← HEb11.out.2]
  clear a0 a1 a2 a3 a4 a5 a6 HEb11
  refine wpIn_wide.2 ?_
  refine wp_region_held_drew (S := fun W' => BxC w.heap.size (rgCells a) 26 W' ∧ BxC b9 (rgCells m) 26 W' ∧ BxC b11 (rgCells m) 26 W') (by kernel_rfl) ⟨HB1.out.1.below (Below.refl _ _).drew, HX9.out.below (Below.refl _ _).drew, HX11.out.below (Below.refl _ _).drew⟩ (fun hHeld => ?_)
  obtain ⟨Uv1u0, eW⟩ : ∃ X, X = w5.drew := ⟨_, rfl⟩
  have hb : Below w5.heap.size w5 Uv1u0 := by rw [eW]; exact (Below.refl _ _).drew
  replace HM : Hid (LdS W0 rb F (.slice ad R.length cd) R R Uv1u0) := HM.out.below hb
  replace HB1 : Hid (BxC w.heap.size (rgCells a) 26 Uv1u0 ∧ BxC (w.heap.size + 1) [.int .i64 stop] 3 Uv1u0 ∧ BxC (w.heap.size + 2) [.bool false] 4 Uv1u0) := ⟨HB1.out.1.below hb, HB1.out.2.1.below hb, HB1.out.2.2.below hb⟩
  replace HBl : Hid (Below w.heap.size w Uv1u0) := HBl.out.trans (hb.mono HBl.out.size)
  replace HSz : Hid (w1.heap.size ≤ Uv1u0.heap.size) := Nat.le_trans HSz.out hb.size
  rw [← eW] at hHeld ⊢
  clear eW hb
  refine tkW 0 (some 42) (v := ?_) ?_ hHeld ?_
  rotate_left
  · (intro ww hSw; (try dsimp only at hSw); have z0 := hSw.2.1.cell 0 _ rfl; have z1 := hSw.2.1.cell 1 _ rfl; have z2 := hSw.2.1.cell 2 _ rfl; have z3 := hSw.2.1.cell 3 _ rfl; have z4 := hSw.2.1.cell 4 _ rfl; have z5 := hSw.2.1.cell 5 _ rfl; have z6 := hSw.2.1.cell 6 _ rfl; go_simp; try with_reducible rfl)
  refine tkW 1 (some 43) (v := ?_) ?_ hHeld ?_
  rotate_left
  · (intro ww hSw; (try dsimp only at hSw); have y0 := hSw.2.2.cell 0 _ rfl; have y1 := hSw.2.2.cell 1 _ rfl; have y2 := hSw.2.2.cell 2 _ rfl; have y3 := hSw.2.2.cell 3 _ rfl; have y4 := hSw.2.2.cell 4 _ rfl; have y5 := hSw.2.2.cell 5 _ rfl; have y6 := hSw.2.2.cell 6 _ rfl; go_simp; try with_reducible rfl)
  refine tkW 2 (some 44) (v := .bool false) ?_ hHeld ?_
  · (intro ww hSw; (try dsimp only at hSw); exact (execNeq (p := m) (q := m) rfl rfl ww).trans (by simp))
  refine tkW 3 (some 45) (v := ?_) ?_ hHeld ?_
  rotate_left
  · (intro ww _; go_simp; try with_reducible rfl)
  refine tkW 4 (some 46) (v := ?_) ?_ hHeld ?_
  rotate_left
  · (intro ww _; go_simp; try with_reducible rfl)
  refine tkW 5 (some 47) (v := ?_) ?_ hHeld ?_
  rotate_left
  · (intro ww _; go_simp; try with_reducible rfl)
  refine tkW 6 (some 48) (v := .bool false) ?_ hHeld ?_
  · (intro ww hSw; (try dsimp only at hSw); go_simp; try simp)
  refine tkW 7 (some 49) (v := ?_) ?_ hHeld ?_
  rotate_left
  · (intro ww _; go_simp; try with_reducible rfl)
  refine tkW 8 (some 50) (v := ?_) ?_ hHeld ?_
  rotate_left
  · (intro ww _; go_simp; try with_reducible rfl)
  refine tkW 9 (some 51) (v := ?_) ?_ hHeld ?_
  rotate_left
  · (intro ww _; go_simp; try with_reducible rfl)
  refine tkW 10 (some 52) (v := ?_) ?_ hHeld ?_
  rotate_left
  · (intro ww _; go_simp; try with_reducible rfl)
  refine tkW 11 (some 53) (v := ?_) ?_ hHeld ?_
  rotate_left
  · (intro ww hSw; (try dsimp only at hSw); have a0 := hSw.1.cell 0 _ rfl; have a1 := hSw.1.cell 1 _ rfl; have a2 := hSw.1.cell 2 _ rfl; have a3 := hSw.1.cell 3 _ rfl; have a4 := hSw.1.cell 4 _ rfl; have a5 := hSw.1.cell 5 _ rfl; have a6 := hSw.1.cell 6 _ rfl; go_simp; try with_reducible rfl)
  refine tkW 12 (some 54) (v := ?_) ?_ hHeld ?_
  rotate_left
  · (intro ww _; go_simp; try with_reducible rfl)
  refine tkW 13 (some 55) (v := ?_) ?_ hHeld ?_
  rotate_left
  · (intro ww hSw; (try dsimp only at hSw); have a0 := hSw.1.cell 0 _ rfl; have a1 := hSw.1.cell 1 _ rfl; have a2 := hSw.1.cell 2 _ rfl; have a3 := hSw.1.cell 3 _ rfl; have a4 := hSw.1.cell 4 _ rfl; have a5 := hSw.1.cell 5 _ rfl; have a6 := hSw.1.cell 6 _ rfl; go_simp; try with_reducible rfl)
  refine tkW 15 (some 57) (v := ?_) ?_ hHeld ?_
  rotate_left
  · (intro ww _; go_simp; try with_reducible rfl)
  refine tkW 16 (some 58) (v := ?_) ?_ hHeld ?_
  rotate_left
  · (intro ww hSw; (try dsimp only at hSw); have y0 := hSw.2.2.cell 0 _ rfl; have y1 := hSw.2.2.cell 1 _ rfl; have y2 := hSw.2.2.cell 2 _ rfl; have y3 := hSw.2.2.cell 3 _ rfl; have y4 := hSw.2.2.cell 4 _ rfl; have y5 := hSw.2.2.cell 5 _ rfl; have y6 := hSw.2.2.cell 6 _ rfl; go_simp; try with_reducible rfl)
  refine wpAnyH_ready (rs := [14]) (by kernel_rfl) (by simp) ?_
  refine AllReadyH.cons (o := ⟨some 56, _, _, _, _, _⟩) rfl (fun K hK => ?_) AllReadyH.nil
  go_simp
  refine (value_v (a.nd, a.nm) _ HM.out.rv).mono ?_
  rintro e Uv1u1 ⟨rfl, hb⟩
  rw [← Hm.out]
  (try go_wp2_with fail)
  refine hK.out _ _ (⟨hHeld.1.below hb, hHeld.2.1.below hb, hHeld.2.2.below hb⟩) (fun hHeld2 => ?_)
  clear hK K hHeld
  have hHeld := hHeld2
  clear hHeld2
  (try simp only [Act.put, List.setIfInBounds_toArray, List.set_cons_zero, List.set_cons_succ])
  replace HM : Hid (LdS W0 rb F (.slice ad R.length cd) R R Uv1u1) := HM.out.below hb
  replace HB1 : Hid (BxC w.heap.size (rgCells a) 26 Uv1u1 ∧ BxC (w.heap.size + 1) [.int .i64 stop] 3 Uv1u1 ∧ BxC (w.heap.size + 2) [.bool false] 4 Uv1u1) := ⟨HB1.out.1.below hb, HB1.out.2.1.below hb, HB1.out.2.2.below hb⟩
  replace HBl : Hid (Below w.heap.size w Uv1u1) := HBl.out.trans (hb.mono HBl.out.size)
  replace HSz : Hid (w1.heap.size ≤ Uv1u1.heap.size) := Nat.le_trans HSz.out hb.size
  clear hb
  refine tkW 17 (some 59) (v := .bool false) ?_ hHeld ?_
  · (intro ww hSw; (try dsimp only at hSw); go_simp; try simp)
  refine tkW 18 (some 60) (v := ?_) ?_ hHeld ?_
  rotate_left
  · (intro ww _; go_simp; try with_reducible rfl)
  refine wpAnyH_done (by kernel_rfl) ?_ _
  clear hHeld HX9 HX11
  have a0 : Uv1u1.cell? ⟨w.heap.size, 0, none⟩ = some (.int .i64 a.nd.1) := HB1.out.1.cell 0 _ rfl
  have a1 : Uv1u1.cell? ⟨w.heap.size, 1, none⟩ = some (.int .i64 a.nd.2) := HB1.out.1.cell 1 _ rfl
  have a2 : Uv1u1.cell? ⟨w.heap.size, 2, none⟩ = some (.string a.nm) := HB1.out.1.cell 2 _ rfl
  have a3 : Uv1u1.cell? ⟨w.heap.size, 3, none⟩ = some (.int .i64 a.at_.1) := HB1.out.1.cell 3 _ rfl
  have a4 : Uv1u1.cell? ⟨w.heap.size, 4, none⟩ = some (.int .i64 a.at_.2) := HB1.out.1.cell 4 _ rfl
  have a5 : Uv1u1.cell? ⟨w.heap.size, 5, none⟩ = some (.string a.vl) := HB1.out.1.cell 5 _ rfl
  have a6 : Uv1u1.cell? ⟨w.heap.size, 6, none⟩ = some (.bool a.gn) := HB1.out.1.cell 6 _ rfl
  gi_wp2_with fail
  clear a0 a1 a2 a3 a4 a5 a6
  have HSz0 : Hid (w1.heap.size ≤ Uv1u1.heap.size) := HSz.out
  refine ⟨trivial, (callsIn_wide.2 (refAttrs_any _ _ R a.nd _ HM.out.doc (by have := HLn.out; omega))).mono ?_⟩
  rintro e w6 ⟨u6, rfl, ho6, hb⟩
  obtain ⟨au, cu, eu⟩ := ho6.form
  subst eu
  replace HM : Hid (LdS W0 rb F (.slice ad R.length cd) R R w6) := HM.out.below hb
  replace HB1 : Hid (BxC w.heap.size (rgCells a) 26 w6 ∧ BxC (w.heap.size + 1) [.int .i64 stop] 3 w6 ∧ BxC (w.heap.size + 2) [.bool false] 4 w6) := ⟨HB1.out.1.below hb, HB1.out.2.1.below hb, HB1.out.2.2.below hb⟩
  replace HBl : Hid (Below w.heap.size w w6) := HBl.out.trans (hb.mono HBl.out.size)
  replace HSz : Hid (w1.heap.size ≤ w6.heap.size) := Nat.le_trans HSz.out hb.size
  clear hb
  have HDl0 : Hid ((attsR R a.nd).length ≤ 4096) := (by have h1 := attL_len (ofR R a.nd); have h2 := of_length R a.nd; have := HLn.out; show (attL (ofR R a.nd)).length ≤ _; omega)
  have HO6 : Hid (OwnAt w1.heap.size w6 (.slice au (attsR R a.nd).length cu) (attsR R a.nd)) := ho6.low HSz0.out
  have HSz6 : Hid (w1.heap.size ≤ w6.heap.size) := HSz.out
  clear ho6 HSz0
  obtain ⟨w7, ew7⟩ : ∃ X, X = w6.alloc (.cells [.slice au (attsR R a.nd).length cu].toArray 34) := ⟨_, rfl⟩
  have hb : Below w6.heap.size w6 w7 := by rw [ew7]; exact (Below.refl _ _).alloc (Nat.le_refl _) _
  obtain ⟨b13, eb13⟩ : ∃ b, b = w6.heap.size := ⟨_, rfl⟩
  have HX13 : Hid (BxC b13 [.slice au (attsR R a.nd).length cu] 34 w7) := by rw [ew7, eb13]; exact BxC.new _ _ _
  replace HM : Hid (LdS W0 rb F (.slice ad R.length cd) R R w7) := HM.out.below hb
  replace HB1 : Hid (BxC w.heap.size (rgCells a) 26 w7 ∧ BxC (w.heap.size + 1) [.int .i64 stop] 3 w7 ∧ BxC (w.heap.size + 2) [.bool false] 4 w7) := ⟨HB1.out.1.below hb, HB1.out.2.1.below hb, HB1.out.2.2.below hb⟩
  replace HBl : Hid (Below w.heap.size w w7) := HBl.out.trans (hb.mono HBl.out.size)
  replace HSz : Hid (w1.heap.size ≤ w7.heap.size) := Nat.le_trans HSz.out hb.size
  replace HO6 : Hid (OwnAt w1.heap.size w7 (.slice au (attsR R a.nd).length cu) (attsR R a.nd)) := HO6.out.below hb
  clear hb
  have HS13 : Hid (w1.heap.size ≤ b13) := (by show _ ≤ _; rw [eb13]; exact HSz6.out)
  have HSz7 : Hid (w1.heap.size ≤ w7.heap.size) := HSz.out
  (try simp only [rgCells] at ew7)
  have a0 : w7.cell? ⟨w.heap.size, 0, none⟩ = some (.int .i64 a.nd.1) := HB1.out.1.cell 0 _ rfl
  have a1 : w7.cell? ⟨w.heap.size, 1, none⟩ = some (.int .i64 a.nd.2) := HB1.out.1.cell 1 _ rfl
  have a2 : w7.cell? ⟨w.heap.size, 2, none⟩ = some (.string a.nm) := HB1.out.1.cell 2 _ rfl
  have a3 : w7.cell? ⟨w.heap.size, 3, none⟩ = some (.int .i64 a.at_.1) := HB1.out.1.cell 3 _ rfl
  have a4 : w7.cell? ⟨w.heap.size, 4, none⟩ = some (.int .i64 a.at_.2) := HB1.out.1.cell 4 _ rfl
  have a5 : w7.cell? ⟨w.heap.size, 5, none⟩ = some (.string a.vl) := HB1.out.1.cell 5 _ rfl
  have a6 : w7.cell? ⟨w.heap.size, 6, none⟩ = some (.bool a.gn) := HB1.out.1.cell 6 _ rfl
  rw [ew7] at a0 a1 a2 a3 a4 a5 a6
  have HEb13 := hide9 (And.intro ew7 eb13)
  clear ew7 eb13
  gi_wp2_with fail
  rw [← HEb13.out.1, ← HEb13.out.2]
  clear a0 a1 a2 a3 a4 a5 a6 HEb13 HSz6
  refine ⟨trivial, (callsIn_wide.2 (each_v F _ R a.nd _ HM.out.rv HM.out.row.lt)).mono ?_⟩
  rintro e w8 ⟨B1, ae, ce, rfl, hB1, hxe, hoe, hb⟩
  replace HM : Hid (LdS W0 rb F (.slice ad R.length cd) R R w8) := HM.out.below hb
  replace HB1 : Hid (BxC w.heap.size (rgCells a) 26 w8 ∧ BxC (w.heap.size + 1) [.int .i64 stop] 3 w8 ∧ BxC (w.heap.size + 2) [.bool false] 4 w8) := ⟨HB1.out.1.below hb, HB1.out.2.1.below hb, HB1.out.2.2.below hb⟩
  replace HBl : Hid (Below w.heap.size w w8) := HBl.out.trans (hb.mono HBl.out.size)
  replace HSz : Hid (w1.heap.size ≤ w8.heap.size) := Nat.le_trans HSz.out hb.size
  replace HO6 : Hid (OwnAt w1.heap.size w8 (.slice au (attsR R a.nd).length cu) (attsR R a.nd)) := HO6.out.below hb
  replace HX13 : Hid (BxC b13 [.slice au (attsR R a.nd).length cu] 34 w8) := HX13.out.below hb
  clear hb
  have HXe : Hid (BxC B1 [.slice ae (attsR R a.nd).length ce] 34 w8 ∧ OwnAt w1.heap.size w8 (.slice ae (attsR R a.nd).length ce) (attsR R a.nd) ∧ w1.heap.size ≤ B1) := ⟨hxe, hoe.low HSz7.out, Nat.le_trans HSz7.out hB1⟩
  clear hxe hoe hB1 HSz7
  obtain ⟨D, eD⟩ : ∃ D, D = (attsR R a.nd) := ⟨_, rfl⟩
  rw [← eD] at HO6 HX13 HXe HDl0
  have HDl : Hid (D.length ≤ 4096) := HDl0.out
  clear eD HDl0
  have en := eql_nilFunc
  have a0 : w8.cell? ⟨w.heap.size, 0, none⟩ = some (.int .i64 a.nd.1) := HB1.out.1.cell 0 _ rfl
  have a1 : w8.cell? ⟨w.heap.size, 1, none⟩ = some (.int .i64 a.nd.2) := HB1.out.1.cell 1 _ rfl
  have a2 : w8.cell? ⟨w.heap.size, 2, none⟩ = some (.string a.nm) := HB1.out.1.cell 2 _ rfl
  have a3 : w8.cell? ⟨w.heap.size, 3, none⟩ = some (.int .i64 a.at_.1) := HB1.out.1.cell 3 _ rfl
  have a4 : w8.cell? ⟨w.heap.size, 4, none⟩ = some (.int .i64 a.at_.2) := HB1.out.1.cell 4 _ rfl
  have a5 : w8.cell? ⟨w.heap.size, 5, none⟩ = some (.string a.vl) := HB1.out.1.cell 5 _ rfl
  have a6 : w8.cell? ⟨w.heap.size, 6, none⟩ = some (.bool a.gn) := HB1.out.1.cell 6 _ rfl
  gi_wp2_with fail
  clear a0 a1 a2 a3 a4 a5 a6 en
  refine ⟨trivial, (callsIn_wide.2 (put_any F rb R ⟨a.nd, ⟨#[122, 122]⟩, (1099511627776, 0), ⟨#[]⟩, false⟩ _ HM.out.row (by have := HLn.out; omega) (by show (2 : Nat) ≤ _; decide))).mono ?_⟩
  rintro e w10 ⟨rfl, hd⟩
  obtain ⟨F2, _, _, _, hto⟩ := hd
  have HF0 : Hid (AskF w (w.heap.size + 1) (w.heap.size + 2) b13 B1 stop D (.slice au D.length cu) (.slice ae D.length ce) w10) := ⟨HB1.out.2.1.touch hto (fun hF => by have h1 := (HFl.out _ hF).2; have := HS0.out; omega), HB1.out.2.2.touch hto (fun hF => by have h1 := (HFl.out _ hF).2; have := HS0.out; omega), HX13.out.touch hto (fun hF => by have h1 := (HFl.out _ hF).1; have := HS13.out; omega), HXe.out.1.touch hto (fun hF => by have h1 := (HFl.out _ hF).1; have := HXe.out.2.2; omega), (HO6.out.keep (fun k e => hto.block k (HO6.out.lt k e).2 (fun hF => by have h1 := (HFl.out _ hF).1; have := (HO6.out.lt k e).1; omega))).low (Nat.zero_le _), (HXe.out.2.1.keep (fun k e => hto.block k (HXe.out.2.1.lt k e).2 (fun hF => by have h1 := (HFl.out _ hF).1; have := (HXe.out.2.1.lt k e).1; omega))).low (Nat.zero_le _), HBl.out.trans (hto.below (fun j hF => by have h1 := (HFl.out _ hF).2; have := HS0.out; omega) HBl.out.size)⟩
  clear hto HM HB1 HBl HO6 HX13 HXe HFl HS13 HSz HS0
  obtain ⟨b5, eb5⟩ : ∃ b, b = w.heap.size + 1 := ⟨_, rfl⟩
  obtain ⟨b6, eb6⟩ : ∃ b, b = w.heap.size + 1 + 1 := ⟨_, rfl⟩
  have HG6 : Hid (w.heap.size ≤ b5 ∧ w.heap.size ≤ b6) := (by refine ⟨?_, ?_⟩ <;> omega)
  have HFq : Hid (AskF w b5 b6 b13 B1 stop D (.slice au D.length cu) (.slice ae D.length ce) w10) := (by rw [eb5, eb6]; exact HF0.out)
  rw [← eb6, ← eb5]
  clear eb5 eb6 HF0
  have HF0 : Hid (AskF w b5 b6 b13 B1 stop D (.slice au D.length cu) (.slice ae D.length ce) w10) := HFq
  clear HFq
  obtain ⟨W11, eW11⟩ : ∃ X, X = w10.alloc (.cells [.int .i64 ((0 : Nat) : Int)].toArray 3) := ⟨_, rfl⟩
  have hb : Below w10.heap.size w10 W11 := by rw [eW11]; exact (Below.refl _ _).alloc (Nat.le_refl _) _
  obtain ⟨b15, eb15⟩ : ∃ b, b = w10.heap.size := ⟨_, rfl⟩
  have HX15 : Hid (BxC b15 [.int .i64 ((0 : Nat) : Int)] 3 W11) := by rw [eW11, eb15]; exact BxC.new _ _ _
  have HF1 : Hid (AskF w b5 b6 b13 B1 stop D (.slice au D.length cu) (.slice ae D.length ce) W11) := HF0.out.below hb
  obtain ⟨S1, eS1⟩ : ∃ S : Nat → Prop, S = fun k => k < W11.heap.size ∧ k ≠ b15 := ⟨_, rfl⟩
  have HSl1 : Hid (∀ k, S1 k → k < W11.heap.size) := fun k hk => by (rw [eS1] at hk; exact hk.1)
  have HSw : Hid (∀ k, k < w10.heap.size → S1 k) := fun k hk => by (rw [eS1]; have := hb.size; exact ⟨by omega, by omega⟩)
  have HSF1 : Hid (AskIn b5 b6 b13 B1 (.slice au D.length cu) (.slice ae D.length ce) S1) := HF0.out.inn HSw.out
  have HA1 : Hid (AkS w W11 S1 b15 0 W11) := ⟨HX15.out, KeepsS.refl _ _, HSl1.out, fun hk => by (rw [eS1] at hk; exact hk.2 rfl), by rw [eb15]; exact HF0.out.bel.size, HX15.out.lt, HF1.out.bel⟩
  have HSq1 := valsA_seq (n0 - 1) (by omega) B1 ce S1 ae D W11 HSF1.out.e1 HSl1.out (HF1.out.e1.cell 0 _ rfl) (HF1.out.e2.lsE atCells_len (by have := HDl.out; omega) HSF1.out.e2) (by have := HDl.out; omega)
  have eW12 : W11 = w10.alloc (.cells #[.int .i64 0] 3) := eW11
  have HE12 : Hid (W11 = w10.alloc (.cells #[.int .i64 0] 3) ∧ b15 = w10.heap.size) := ⟨eW12, eb15⟩
  clear hb eS1 eW11 HF0 HX15 HSw eW12 eb15
  gi_wp2
  rw [← HE12.out.1, ← HE12.out.2]
  clear HE12
  refine range_of (by omega) (gf := 24) (lb := #[.pointer (some ⟨B1, 0, none⟩)]) rfl (enters_of Try.func24 (by kernel_rfl) rfl) HSq1 KeepsS.trans (keepsSK_b HSl1.out) (Below.refl _ _) (fun _ => rfl)
    (fun k W => AkS w W11 S1 b15 k W) (fun c k W => c = .exit 0 ∧ ∃ m, k = m + 1 ∧ (m : Int) = stop ∧ m < D.length ∧ AkS w W11 S1 b15 m W)
    (fun k A B row h1 hg hr => h1.grown hg hr) (fun c k A B row ⟨h1, m, h2, h3, h4, h5⟩ hg hr => ⟨h1, m, h2, h3, h4, h5.grown hg hr⟩) HA1.out
    (fun x a' W => ∃ Bx, W11.heap.size ≤ Bx ∧ BxC Bx (atCells x) 42 W ∧ ∃ u : Nat → Value, a' = { tmps := #[u 0, u 1, u 2, u 3, u 4, .pointer (some ⟨b5, 0, none⟩), .pointer (some ⟨b6, 0, none⟩), u 7, u 8, u 9, u 10, u 11, u 12, .pointer (some ⟨b13, 0, none⟩), u 14, .pointer (some ⟨b15, 0, none⟩), .pointer (some ⟨Bx, 0, none⟩), u 17, u 18, u 19, u 20, u 21, u 22, u 23, u 24, u 25, u 26, u 27, u 28, u 29, u 30, u 31, u 32, u 33, u 34, u 35, u 36, u 37, u 38, u 39, u 40, u 41, u 42, u 43, u 44, u 45, u 46, u 47, u 48, u 49, u 50, u 51, u 52, u 53, u 54, u 55, u 56, u 57, u 58, u 59, u 60, u 61, u 62, u 63, u 64, u 65, u 66, u 67, u 68, u 69, u 70, u 71, u 72, u 73, u 74, u 75, u 76, u 77, u 78, u 79, u 80, u 81, u 82, u 83, u 84, u 85, u 86, u 87, u 88, u 89, u 90, u 91, u 92, u 93, u 94, u 95, u 96, u 97, u 98, u 99, u 100, u 101, u 102, u 103, u 104, u 105, u 106, u 107, u 108, u 109, u 110, u 111, u 112, u 113, u 114, u 115, u 116, u 117, u 118, u 119, u 120, u 121, u 122, u 123, u 124, u 125, u 126, u 127, u 128, u 129], defers := [] })
    (fun x a' u A B row ⟨Bx, h1, h2, h5⟩ hg hr => ⟨Bx, h1, row_own h2 hg (fun r e => (hr r e).2), h5⟩)
    ?assign1 ?body1 ?done1 ?stop1
  case assign1 =>
    rintro l k hk Wa K hA hK
    obtain ⟨x, hx⟩ : ∃ x, x = D[k] := ⟨_, rfl⟩
    rw [← hx] at hK ⊢
    clear hx
    have hb : Below Wa.heap.size Wa (Wa.alloc (.cells (atCells x).toArray 42)) := (Below.refl _ _).alloc (Nat.le_refl _) _
    have HFin : Hid (∀ a', (∃ u : Nat → Value, a' = { tmps := #[u 0, u 1, u 2, u 3, u 4, .pointer (some ⟨b5, 0, none⟩), .pointer (some ⟨b6, 0, none⟩), u 7, u 8, u 9, u 10, u 11, u 12, .pointer (some ⟨b13, 0, none⟩), u 14, .pointer (some ⟨b15, 0, none⟩), .pointer (some ⟨Wa.heap.size, 0, none⟩), u 17, u 18, u 19, u 20, u 21, u 22, u 23, u 24, u 25, u 26, u 27, u 28, u 29, u 30, u 31, u 32, u 33, u 34, u 35, u 36, u 37, u 38, u 39, u 40, u 41, u 42, u 43, u 44, u 45, u 46, u 47, u 48, u 49, u 50, u 51, u 52, u 53, u 54, u 55, u 56, u 57, u 58, u 59, u 60, u 61, u 62, u 63, u 64, u 65, u 66, u 67, u 68, u 69, u 70, u 71, u 72, u 73, u 74, u 75, u 76, u 77, u 78, u 79, u 80, u 81, u 82, u 83, u 84, u 85, u 86, u 87, u 88, u 89, u 90, u 91, u 92, u 93, u 94, u 95, u 96, u 97, u 98, u 99, u 100, u 101, u 102, u 103, u 104, u 105, u 106, u 107, u 108, u 109, u 110, u 111, u 112, u 113, u 114, u 115, u 116, u 117, u 118, u 119, u 120, u 121, u 122, u 123, u 124, u 125, u 126, u 127, u 128, u 129], defers := [] }) → K a' (Wa.alloc (.cells (atCells x).toArray 42))) := fun a' e5 => hK a' (Wa.alloc (.cells (atCells x).toArray 42)) (keepsFrom_below hb) (KeepsS.of_below hb (fun j hj => Nat.lt_of_lt_of_le (HSl1.out j hj) hA.size)) (hA.below hb) ⟨Wa.heap.size, hA.size, BxC.new _ _ _, e5⟩
    have HFin2 : Hid (∀ a' : Act, a' = { tmps := #[a'.tmps.getD 0 undef, a'.tmps.getD 1 undef, a'.tmps.getD 2 undef, a'.tmps.getD 3 undef, a'.tmps.getD 4 undef, .pointer (some ⟨b5, 0, none⟩), .pointer (some ⟨b6, 0, none⟩), a'.tmps.getD 7 undef, a'.tmps.getD 8 undef, a'.tmps.getD 9 undef, a'.tmps.getD 10 undef, a'.tmps.getD 11 undef, a'.tmps.getD 12 undef, .pointer (some ⟨b13, 0, none⟩), a'.tmps.getD 14 undef, .pointer (some ⟨b15, 0, none⟩), .pointer (some ⟨Wa.heap.size, 0, none⟩), a'.tmps.getD 17 undef, a'.tmps.getD 18 undef, a'.tmps.getD 19 undef, a'.tmps.getD 20 undef, a'.tmps.getD 21 undef, a'.tmps.getD 22 undef, a'.tmps.getD 23 undef, a'.tmps.getD 24 undef, a'.tmps.getD 25 undef, a'.tmps.getD 26 undef, a'.tmps.getD 27 undef, a'.tmps.getD 28 undef, a'.tmps.getD 29 undef, a'.tmps.getD 30 undef, a'.tmps.getD 31 undef, a'.tmps.getD 32 undef, a'.tmps.getD 33 undef, a'.tmps.getD 34 undef, a'.tmps.getD 35 undef, a'.tmps.getD 36 undef, a'.tmps.getD 37 undef, a'.tmps.getD 38 undef, a'.tmps.getD 39 undef, a'.tmps.getD 40 undef, a'.tmps.getD 41 undef, a'.tmps.getD 42 undef, a'.tmps.getD 43 undef, a'.tmps.getD 44 undef, a'.tmps.getD 45 undef, a'.tmps.getD 46 undef, a'.tmps.getD 47 undef, a'.tmps.getD 48 undef, a'.tmps.getD 49 undef, a'.tmps.getD 50 undef, a'.tmps.getD 51 undef, a'.tmps.getD 52 undef, a'.tmps.getD 53 undef, a'.tmps.getD 54 undef, a'.tmps.getD 55 undef, a'.tmps.getD 56 undef, a'.tmps.getD 57 undef, a'.tmps.getD 58 undef, a'.tmps.getD 59 undef, a'.tmps.getD 60 undef, a'.tmps.getD 61 undef, a'.tmps.getD 62 undef, a'.tmps.getD 63 undef, a'.tmps.getD 64 undef, a'.tmps.getD 65 undef, a'.tmps.getD 66 undef, a'.tmps.getD 67 undef, a'.tmps.getD 68 undef, a'.tmps.getD 69 undef, a'.tmps.getD 70 undef, a'.tmps.getD 71 undef, a'.tmps.getD 72 undef, a'.tmps.getD 73 undef, a'.tmps.getD 74 undef, a'.tmps.getD 75 undef, a'.tmps.getD 76 undef, a'.tmps.getD 77 undef, a'.tmps.getD 78 undef, a'.tmps.getD 79 undef, a'.tmps.getD 80 undef, a'.tmps.getD 81 undef, a'.tmps.getD 82 undef, a'.tmps.getD 83 undef, a'.tmps.getD 84 undef, a'.tmps.getD 85 undef, a'.tmps.getD 86 undef, a'.tmps.getD 87 undef, a'.tmps.getD 88 undef, a'.tmps.getD 89 undef, a'.tmps.getD 90 undef, a'.tmps.getD 91 undef, a'.tmps.getD 92 undef, a'.tmps.getD 93 undef, a'.tmps.getD 94 undef, a'.tmps.getD 95 undef, a'.tmps.getD 96 undef, a'.tmps.getD 97 undef, a'.tmps.getD 98 undef, a'.tmps.getD 99 undef, a'.tmps.getD 100 undef, a'.tmps.getD 101 undef, a'.tmps.getD 102 undef, a'.tmps.getD 103 undef, a'.tmps.getD 104 undef, a'.tmps.getD 105 undef, a'.tmps.getD 106 undef, a'.tmps.getD 107 undef, a'.tmps.getD 108 undef, a'.tmps.getD 109 undef, a'.tmps.getD 110 undef, a'.tmps.getD 111 undef, a'.tmps.getD 112 undef, a'.tmps.getD 113 undef, a'.tmps.getD 114 undef, a'.tmps.getD 115 undef, a'.tmps.getD 116 undef, a'.tmps.getD 117 undef, a'.tmps.getD 118 undef, a'.tmps.getD 119 undef, a'.tmps.getD 120 undef, a'.tmps.getD 121 undef, a'.tmps.getD 122 undef, a'.tmps.getD 123 undef, a'.tmps.getD 124 undef, a'.tmps.getD 125 undef, a'.tmps.getD 126 undef, a'.tmps.getD 127 undef, a'.tmps.getD 128 undef, a'.tmps.getD 129 undef], defers := [] } → K a' (Wa.alloc (.cells (atCells x).toArray 42))) := fun a' e => HFin.out a' ⟨fun k => a'.tmps.getD k undef, e⟩
    clear hK hb hA HFin
    simp only [encA]
    gi_wp2
    exact HFin2.out _ rfl
  case body1 =>
    rintro l k hk a' Wb hlD hA ⟨Bx, hx1, hx2, u, rfl⟩
    obtain ⟨x, hx⟩ : ∃ x, x = D[k] := ⟨_, rfl⟩
    rw [← hx] at hx2
    have HA : Hid (AkS w W11 S1 b15 k Wb) := hA
    have HFb : Hid (AskF w b5 b6 b13 B1 stop D (.slice au D.length cu) (.slice ae D.length ce) Wb) := HF1.out.keep hA.kp HSF1.out hA.bel
    obtain ⟨bW, oW, cW, evW, hrow⟩ := HFb.out.row HSF1.out HDl.out hk
    rw [← hx] at hrow
    have HxB : Hid (BxC Bx (atCells x) 42 Wb) := hx2
    have hDl := HDl.out
    have k1 : (k : Int) < (D.length : Int) := by omega
    have k0 : (0 : Int) ≤ (k : Int) := by omega
    have HW0 : Hid (∀ X, KeepsS S1 Wb X → X.cell? ⟨bW, oW + k * 2, none⟩ = some (.string x.1) ∧ X.cell? ⟨bW, oW + k * 2 + 1, none⟩ = some (.string x.2)) := hrow
    clear hx hA hx2 hrow
    have HKd : Hid (KeepsFrom W11.heap.size Wb Wb.drew ∧ KeepsS S1 Wb Wb.drew) := ⟨keepsFrom_below (Below.refl _ _).drew, KeepsS.of_below (Below.refl _ _).drew (fun j hj => Nat.lt_of_lt_of_le (HSl1.out j hj) HA.out.size)⟩
    have HW13 : Hid (BxC b13 [.slice (some ⟨bW, oW, none⟩) D.length cW] 34 Wb) := (by have h9 := HFb.out.b13; rw [evW] at h9; exact h9)
    clear evW
    have c5 := HFb.out.b5.cell 0 _ rfl
    have cn := HA.out.box.cell 0 _ rfl
    by_cases hst : (k : Int) = stop
    · have q : ((k : Int) == stop) = true := by simp [hst]
      have HSt : Hid ((k : Int) = stop) := hst
      have hkD : k < D.length := hk
      clear hst
      gi_wp2
      exact ⟨KeepsFrom.refl _ _, rfl, k, rfl, HSt.out, hkD, HA.out⟩
    · have q : ((k : Int) == stop) = false := by simpa using hst
      clear hst
      gi_wp2
      clear c5 cn q
      refine region_round_held (S := fun W' => AkS w W11 S1 b15 k W' ∧ KeepsS S1 Wb W' ∧ BxC Bx (atCells x) 42 W' ∧ BxC b13 [.slice (some ⟨bW, oW, none⟩) D.length cW] 34 W') l (by kernel_rfl) (by kernel_rfl) (lets_then (lets_then (lets_block lets_round))) ⟨HA.out.below (Below.refl _ _).drew, HKd.out.2, HxB.out.below (Below.refl _ _).drew, HW13.out.below (Below.refl _ _).drew⟩ (fun hHeld => ?_)
      obtain ⟨Ur12u0, eW⟩ : ∃ X, X = Wb.drew := ⟨_, rfl⟩
      have hb : Below Wb.heap.size Wb Ur12u0 := by rw [eW]; exact (Below.refl _ _).drew
      have HeD : Hid (Ur12u0 = Wb.drew) := eW
      have HAd : Hid (AkS w W11 S1 b15 k Ur12u0) := (by rw [eW]; exact HA.out.below (Below.refl _ _).drew)
      rw [← eW] at hHeld ⊢
      clear eW hb
      refine tkW 0 (some 82) (v := ?_) ?_ hHeld ?_
      rotate_left
      · (intro ww hSw; (try dsimp only at hSw); have n0 := hSw.1.box.cell 0 _ rfl; go_simp; try with_reducible rfl)
      refine tkW 1 (some 83) (v := ?_) ?_ hHeld ?_
      rotate_left
      · (intro ww hSw; (try dsimp only at hSw); have s0 := hSw.2.2.2.cell 0 _ rfl; go_simp; try with_reducible rfl)
      refine tkW 2 (some 84) (v := ?_) ?_ hHeld ?_
      rotate_left
      · (intro ww hSw; (try dsimp only at hSw); go_simp; try with_reducible rfl)
      refine tkW 3 (some 85) (v := .bool false) ?_ hHeld ?_
      · (intro ww hSw; (try dsimp only at hSw); go_simp; try omega)
      refine tkW 4 (some 86) (v := ?_) ?_ hHeld ?_
      rotate_left
      · (intro ww _; go_simp; try with_reducible rfl)
      refine tkW 5 (some 87) (v := ?_) ?_ hHeld ?_
      rotate_left
      · (intro ww hSw; (try dsimp only at hSw); have v0 := hSw.2.2.1.cell 0 _ rfl; have v1 := hSw.2.2.1.cell 1 _ rfl; go_simp; try with_reducible rfl)
      refine tkW 6 (some 88) (v := ?_) ?_ hHeld ?_
      rotate_left
      · (intro ww hSw; (try dsimp only at hSw); have s0 := hSw.2.2.2.cell 0 _ rfl; go_simp; try with_reducible rfl)
      refine tkW 7 (some 89) (v := ?_) ?_ hHeld ?_
      rotate_left
      · (intro ww hSw; (try dsimp only at hSw); have n0 := hSw.1.box.cell 0 _ rfl; go_simp; try with_reducible rfl)
      refine tkW 8 (some 90) (v := ?_) ?_ hHeld ?_
      rotate_left
      · (intro ww hSw; (try dsimp only at hSw); go_simp; try with_reducible rfl)
      refine tkW 9 (some 91) (v := ?_) ?_ hHeld ?_
      rotate_left
      · (intro ww hSw; (try dsimp only at hSw); have y0 := (HW0.out ww hSw.2.1).1; have y1 := (HW0.out ww hSw.2.1).2; go_simp; try with_reducible rfl)
      refine tkW 10 (some 92) (v := .bool false) ?_ hHeld ?_
      · (intro ww hSw; (try dsimp only at hSw); exact execNeqA (p := x) rfl rfl ww)
      refine tkW 11 (some 93) (v := ?_) ?_ hHeld ?_
      rotate_left
      · (intro ww _; go_simp; try with_reducible rfl)
      refine wpAnyH_done (by kernel_rfl) ?_ _
      clear hHeld
      have cn := HAd.out.box.cell 0 _ rfl
      have fn := HAd.out.box.free 0
      have n1 : IntKind.i64.wrap ((k : Int) + 1) = (k : Int) + 1 := by rw [IntKind.wrap_i64]; omega
      gi_wp2
      have hst := HAd.out.set (k + 1)
      exact ⟨HKd.out.1.trans (by rw [← HeD.out]; exact keepsFrom_set _ _ _), HKd.out.2.trans (by rw [← HeD.out]; exact hst.2), hst.1⟩
  case done1 =>
    rintro Dd Wd hDd hA hDf
    obtain ⟨nn, enn⟩ : ∃ n, n = D.length := ⟨_, rfl⟩
    have HNN : Hid (nn ≤ D.length ∧ (nn = D.length ∨ (nn : Int) = stop)) := ⟨by omega, .inl enn⟩
    rw [← enn] at hA
    clear enn
    have HFd : Hid (AskF w b5 b6 b13 B1 stop D (.slice au D.length cu) (.slice ae D.length ce) Wd) := HF1.out.keep hA.kp HSF1.out hA.bel
    have HDf0 : Hid (Wd.heap[Dd]? = some (.deferred (some []))) := hDf
    have HAd0 : Hid (AkS w W11 S1 b15 nn Wd) := hA
    clear hA hDf
    obtain ⟨W18, eW18⟩ : ∃ X, X = Wd.alloc (.cells [.int .i64 ((0 : Nat) : Int)].toArray 3) := ⟨_, rfl⟩
    have hb : Below Wd.heap.size Wd W18 := by rw [eW18]; exact (Below.refl _ _).alloc (Nat.le_refl _) _
    obtain ⟨b17, eb17⟩ : ∃ b, b = Wd.heap.size := ⟨_, rfl⟩
    have HX17 : Hid (BxC b17 [.int .i64 ((0 : Nat) : Int)] 3 W18) := by rw [eW18, eb17]; exact BxC.new _ _ _
    have HF2 : Hid (AskF w b5 b6 b13 B1 stop D (.slice au D.length cu) (.slice ae D.length ce) W18) := HFd.out.below hb
    have HN15 : Hid (BxC b15 [.int .i64 (nn : Int)] 3 W18) := HAd0.out.box.below hb
    have HDf : Hid (W18.heap[Dd]? = some (.deferred (some []))) := (hb.block _ (row_lt HDf0.out)).trans HDf0.out
    obtain ⟨S2, eS2⟩ : ∃ S : Nat → Prop, S = fun k => k < W18.heap.size ∧ k ≠ b17 := ⟨_, rfl⟩
    have HSl2 : Hid (∀ k, S2 k → k < W18.heap.size) := fun k hk => by (rw [eS2] at hk; exact hk.1)
    have HSw : Hid (∀ k, k < Wd.heap.size → S2 k) := fun k hk => by (rw [eS2]; have := hb.size; exact ⟨by omega, by omega⟩)
    have HSF2 : Hid (AskIn b5 b6 b13 B1 (.slice au D.length cu) (.slice ae D.length ce) S2) := HFd.out.inn HSw.out
    have HSD : Hid (S2 Dd) := HSw.out _ (row_lt HDf0.out)
    have HS15 : Hid (S2 b15) := HSw.out _ HAd0.out.box.lt
    have HA2 : Hid (AkS w W18 S2 b17 0 W18) := ⟨HX17.out, KeepsS.refl _ _, HSl2.out, fun hk => by (rw [eS2] at hk; exact hk.2 rfl), by rw [eb17]; exact HFd.out.bel.size, HX17.out.lt, HF2.out.bel⟩
    have HSq2 := valsA_seq (n0 - 1) (by omega) B1 ce S2 ae D W18 HSF2.out.e1 HSl2.out (HF2.out.e1.cell 0 _ rfl) (HF2.out.e2.lsE atCells_len (by have := HDl.out; omega) HSF2.out.e2) (by have := HDl.out; omega)
    have eW19 : W18 = Wd.alloc (.cells #[.int .i64 0] 3) := eW18
    have HE19 : Hid (W18 = Wd.alloc (.cells #[.int .i64 0] 3) ∧ b17 = Wd.heap.size) := ⟨eW19, eb17⟩
    have HLo : Hid (W11.heap.size ≤ Dd ∧ Wd.heap.size ≤ W18.heap.size ∧ Dd < Wd.heap.size) := ⟨hDd, hb.size, row_lt HDf0.out⟩
    clear hb eS2 eW18 HFd HX17 HSw HAd0 HDf0 eW19 eb17
    gi_wp2
    rw [← HE19.out.1, ← HE19.out.2]
    clear HE19
    refine range_of (by omega) (gf := 24) (lb := #[.pointer (some ⟨B1, 0, none⟩)]) rfl (enters_of Try.func24 (by kernel_rfl) rfl) HSq2 KeepsS.trans (keepsSK_b HSl2.out) (Below.refl _ _) (fun _ => rfl)
      (fun k W => AkS w W18 S2 b17 k W) (fun _ _ _ => False)
      (fun k A B row h1 hg hr => h1.grown hg hr) (fun c k A B row hf _ _ => hf) HA2.out
      (fun x a' W => ∃ Bx, W18.heap.size ≤ Bx ∧ BxC Bx (atCells x) 42 W ∧ ∃ u : Nat → Value, a' = { tmps := #[u 0, u 1, u 2, u 3, u 4, u 5, .pointer (some ⟨b6, 0, none⟩), u 7, u 8, u 9, u 10, u 11, u 12, .pointer (some ⟨b13, 0, none⟩), u 14, u 15, u 16, .pointer (some ⟨b17, 0, none⟩), .pointer (some ⟨Bx, 0, none⟩), u 19, u 20, u 21, u 22, u 23, u 24, u 25, u 26, u 27, u 28, u 29, u 30, u 31, u 32, u 33, u 34, u 35, u 36, u 37, u 38, u 39, u 40, u 41, u 42, u 43, u 44, u 45, u 46, u 47, u 48, u 49, u 50, u 51, u 52, u 53, u 54, u 55, u 56, u 57, u 58, u 59, u 60, u 61, u 62, u 63, u 64, u 65, u 66, u 67, u 68, u 69, u 70, u 71, u 72, u 73, u 74, u 75, u 76, u 77, u 78, u 79, u 80, u 81, u 82, u 83, u 84, u 85, u 86, u 87, u 88, u 89, u 90, u 91, u 92, u 93, u 94, u 95, u 96, u 97, u 98, u 99, u 100, u 101, u 102, u 103, u 104, u 105, u 106, u 107, u 108, u 109, u 110, u 111, u 112, u 113, u 114, u 115, u 116, u 117, u 118, u 119, u 120, u 121, u 122, u 123, u 124, u 125, u 126, u 127, u 128, u 129], defers := [] })
      (fun x a' u A B row ⟨Bx, h1, h2, h5⟩ hg hr => ⟨Bx, h1, row_own h2 hg (fun r e => (hr r e).2), h5⟩)
      ?assign2 ?body2 ?done2 ?stop2
    case assign2 =>
      rintro l k hk Wa K hA hK
      obtain ⟨x, hx⟩ : ∃ x, x = D[k] := ⟨_, rfl⟩
      rw [← hx] at hK ⊢
      clear hx
      have hb : Below Wa.heap.size Wa (Wa.alloc (.cells (atCells x).toArray 42)) := (Below.refl _ _).alloc (Nat.le_refl _) _
      have HFin : Hid (∀ a', (∃ u : Nat → Value, a' = { tmps := #[u 0, u 1, u 2, u 3, u 4, u 5, .pointer (some ⟨b6, 0, none⟩), u 7, u 8, u 9, u 10, u 11, u 12, .pointer (some ⟨b13, 0, none⟩), u 14, u 15, u 16, .pointer (some ⟨b17, 0, none⟩), .pointer (some ⟨Wa.heap.size, 0, none⟩), u 19, u 20, u 21, u 22, u 23, u 24, u 25, u 26, u 27, u 28, u 29, u 30, u 31, u 32, u 33, u 34, u 35, u 36, u 37, u 38, u 39, u 40, u 41, u 42, u 43, u 44, u 45, u 46, u 47, u 48, u 49, u 50, u 51, u 52, u 53, u 54, u 55, u 56, u 57, u 58, u 59, u 60, u 61, u 62, u 63, u 64, u 65, u 66, u 67, u 68, u 69, u 70, u 71, u 72, u 73, u 74, u 75, u 76, u 77, u 78, u 79, u 80, u 81, u 82, u 83, u 84, u 85, u 86, u 87, u 88, u 89, u 90, u 91, u 92, u 93, u 94, u 95, u 96, u 97, u 98, u 99, u 100, u 101, u 102, u 103, u 104, u 105, u 106, u 107, u 108, u 109, u 110, u 111, u 112, u 113, u 114, u 115, u 116, u 117, u 118, u 119, u 120, u 121, u 122, u 123, u 124, u 125, u 126, u 127, u 128, u 129], defers := [] }) → K a' (Wa.alloc (.cells (atCells x).toArray 42))) := fun a' e5 => hK a' (Wa.alloc (.cells (atCells x).toArray 42)) (keepsFrom_below hb) (KeepsS.of_below hb (fun j hj => Nat.lt_of_lt_of_le (HSl2.out j hj) hA.size)) (hA.below hb) ⟨Wa.heap.size, hA.size, BxC.new _ _ _, e5⟩
      have HFin2 : Hid (∀ a' : Act, a' = { tmps := #[a'.tmps.getD 0 undef, a'.tmps.getD 1 undef, a'.tmps.getD 2 undef, a'.tmps.getD 3 undef, a'.tmps.getD 4 undef, a'.tmps.getD 5 undef, .pointer (some ⟨b6, 0, none⟩), a'.tmps.getD 7 undef, a'.tmps.getD 8 undef, a'.tmps.getD 9 undef, a'.tmps.getD 10 undef, a'.tmps.getD 11 undef, a'.tmps.getD 12 undef, .pointer (some ⟨b13, 0, none⟩), a'.tmps.getD 14 undef, a'.tmps.getD 15 undef, a'.tmps.getD 16 undef, .pointer (some ⟨b17, 0, none⟩), .pointer (some ⟨Wa.heap.size, 0, none⟩), a'.tmps.getD 19 undef, a'.tmps.getD 20 undef, a'.tmps.getD 21 undef, a'.tmps.getD 22 undef, a'.tmps.getD 23 undef, a'.tmps.getD 24 undef, a'.tmps.getD 25 undef, a'.tmps.getD 26 undef, a'.tmps.getD 27 undef, a'.tmps.getD 28 undef, a'.tmps.getD 29 undef, a'.tmps.getD 30 undef, a'.tmps.getD 31 undef, a'.tmps.getD 32 undef, a'.tmps.getD 33 undef, a'.tmps.getD 34 undef, a'.tmps.getD 35 undef, a'.tmps.getD 36 undef, a'.tmps.getD 37 undef, a'.tmps.getD 38 undef, a'.tmps.getD 39 undef, a'.tmps.getD 40 undef, a'.tmps.getD 41 undef, a'.tmps.getD 42 undef, a'.tmps.getD 43 undef, a'.tmps.getD 44 undef, a'.tmps.getD 45 undef, a'.tmps.getD 46 undef, a'.tmps.getD 47 undef, a'.tmps.getD 48 undef, a'.tmps.getD 49 undef, a'.tmps.getD 50 undef, a'.tmps.getD 51 undef, a'.tmps.getD 52 undef, a'.tmps.getD 53 undef, a'.tmps.getD 54 undef, a'.tmps.getD 55 undef, a'.tmps.getD 56 undef, a'.tmps.getD 57 undef, a'.tmps.getD 58 undef, a'.tmps.getD 59 undef, a'.tmps.getD 60 undef, a'.tmps.getD 61 undef, a'.tmps.getD 62 undef, a'.tmps.getD 63 undef, a'.tmps.getD 64 undef, a'.tmps.getD 65 undef, a'.tmps.getD 66 undef, a'.tmps.getD 67 undef, a'.tmps.getD 68 undef, a'.tmps.getD 69 undef, a'.tmps.getD 70 undef, a'.tmps.getD 71 undef, a'.tmps.getD 72 undef, a'.tmps.getD 73 undef, a'.tmps.getD 74 undef, a'.tmps.getD 75 undef, a'.tmps.getD 76 undef, a'.tmps.getD 77 undef, a'.tmps.getD 78 undef, a'.tmps.getD 79 undef, a'.tmps.getD 80 undef, a'.tmps.getD 81 undef, a'.tmps.getD 82 undef, a'.tmps.getD 83 undef, a'.tmps.getD 84 undef, a'.tmps.getD 85 undef, a'.tmps.getD 86 undef, a'.tmps.getD 87 undef, a'.tmps.getD 88 undef, a'.tmps.getD 89 undef, a'.tmps.getD 90 undef, a'.tmps.getD 91 undef, a'.tmps.getD 92 undef, a'.tmps.getD 93 undef, a'.tmps.getD 94 undef, a'.tmps.getD 95 undef, a'.tmps.getD 96 undef, a'.tmps.getD 97 undef, a'.tmps.getD 98 undef, a'.tmps.getD 99 undef, a'.tmps.getD 100 undef, a'.tmps.getD 101 undef, a'.tmps.getD 102 undef, a'.tmps.getD 103 undef, a'.tmps.getD 104 undef, a'.tmps.getD 105 undef, a'.tmps.getD 106 undef, a'.tmps.getD 107 undef, a'.tmps.getD 108 undef, a'.tmps.getD 109 undef, a'.tmps.getD 110 undef, a'.tmps.getD 111 undef, a'.tmps.getD 112 undef, a'.tmps.getD 113 undef, a'.tmps.getD 114 undef, a'.tmps.getD 115 undef, a'.tmps.getD 116 undef, a'.tmps.getD 117 undef, a'.tmps.getD 118 undef, a'.tmps.getD 119 undef, a'.tmps.getD 120 undef, a'.tmps.getD 121 undef, a'.tmps.getD 122 undef, a'.tmps.getD 123 undef, a'.tmps.getD 124 undef, a'.tmps.getD 125 undef, a'.tmps.getD 126 undef, a'.tmps.getD 127 undef, a'.tmps.getD 128 undef, a'.tmps.getD 129 undef], defers := [] } → K a' (Wa.alloc (.cells (atCells x).toArray 42))) := fun a' e => HFin.out a' ⟨fun k => a'.tmps.getD k undef, e⟩
      clear hK hb hA HFin
      simp only [encA]
      gi_wp2
      exact HFin2.out _ rfl
    case body2 =>
      rintro l k hk a' Wb hlD hA ⟨Bx, hx1, hx2, u, rfl⟩
      obtain ⟨x, hx⟩ : ∃ x, x = D[k] := ⟨_, rfl⟩
      rw [← hx] at hx2
      have HA : Hid (AkS w W18 S2 b17 k Wb) := hA
      have HFb : Hid (AskF w b5 b6 b13 B1 stop D (.slice au D.length cu) (.slice ae D.length ce) Wb) := HF2.out.keep hA.kp HSF2.out hA.bel
      obtain ⟨bW, oW, cW, evW, hrow⟩ := HFb.out.row HSF2.out HDl.out hk
      rw [← hx] at hrow
      have HxB : Hid (BxC Bx (atCells x) 42 Wb) := hx2
      have hDl := HDl.out
      have k1 : (k : Int) < (D.length : Int) := by omega
      have k0 : (0 : Int) ≤ (k : Int) := by omega
      have HW0 : Hid (∀ X, KeepsS S2 Wb X → X.cell? ⟨bW, oW + k * 2, none⟩ = some (.string x.1) ∧ X.cell? ⟨bW, oW + k * 2 + 1, none⟩ = some (.string x.2)) := hrow
      clear hx hA hx2 hrow
      have HKd : Hid (KeepsFrom W18.heap.size Wb Wb.drew ∧ KeepsS S2 Wb Wb.drew) := ⟨keepsFrom_below (Below.refl _ _).drew, KeepsS.of_below (Below.refl _ _).drew (fun j hj => Nat.lt_of_lt_of_le (HSl2.out j hj) HA.out.size)⟩
      have HW13 : Hid (BxC b13 [.slice (some ⟨bW, oW, none⟩) D.length cW] 34 Wb) := (by have h9 := HFb.out.b13; rw [evW] at h9; exact h9)
      clear evW
      gi_wp2
      refine region_round_held (S := fun W' => AkS w W18 S2 b17 k W' ∧ KeepsS S2 Wb W' ∧ BxC Bx (atCells x) 42 W' ∧ BxC b13 [.slice (some ⟨bW, oW, none⟩) D.length cW] 34 W') l (by kernel_rfl) (by kernel_rfl) (lets_then (lets_then (lets_block lets_round))) ⟨HA.out.below (Below.refl _ _).drew, HKd.out.2, HxB.out.below (Below.refl _ _).drew, HW13.out.below (Below.refl _ _).drew⟩ (fun hHeld => ?_)
      obtain ⟨Ur23u0, eW⟩ : ∃ X, X = Wb.drew := ⟨_, rfl⟩
      have hb : Below Wb.heap.size Wb Ur23u0 := by rw [eW]; exact (Below.refl _ _).drew
      have HeD : Hid (Ur23u0 = Wb.drew) := eW
      have HAd : Hid (AkS w W18 S2 b17 k Ur23u0) := (by rw [eW]; exact HA.out.below (Below.refl _ _).drew)
      rw [← eW] at hHeld ⊢
      clear eW hb
      refine tkW 0 (some 98) (v := ?_) ?_ hHeld ?_
      rotate_left
      · (intro ww hSw; (try dsimp only at hSw); have n0 := hSw.1.box.cell 0 _ rfl; go_simp; try with_reducible rfl)
      refine tkW 1 (some 99) (v := ?_) ?_ hHeld ?_
      rotate_left
      · (intro ww hSw; (try dsimp only at hSw); have s0 := hSw.2.2.2.cell 0 _ rfl; go_simp; try with_reducible rfl)
      refine tkW 2 (some 100) (v := ?_) ?_ hHeld ?_
      rotate_left
      · (intro ww hSw; (try dsimp only at hSw); go_simp; try with_reducible rfl)
      refine tkW 3 (some 101) (v := .bool false) ?_ hHeld ?_
      · (intro ww hSw; (try dsimp only at hSw); go_simp; try omega)
      refine tkW 4 (some 102) (v := ?_) ?_ hHeld ?_
      rotate_left
      · (intro ww _; go_simp; try with_reducible rfl)
      refine tkW 5 (some 103) (v := ?_) ?_ hHeld ?_
      rotate_left
      · (intro ww hSw; (try dsimp only at hSw); have v0 := hSw.2.2.1.cell 0 _ rfl; have v1 := hSw.2.2.1.cell 1 _ rfl; go_simp; try with_reducible rfl)
      refine tkW 6 (some 104) (v := ?_) ?_ hHeld ?_
      rotate_left
      · (intro ww hSw; (try dsimp only at hSw); have s0 := hSw.2.2.2.cell 0 _ rfl; go_simp; try with_reducible rfl)
      refine tkW 7 (some 105) (v := ?_) ?_ hHeld ?_
      rotate_left
      · (intro ww hSw; (try dsimp only at hSw); have n0 := hSw.1.box.cell 0 _ rfl; go_simp; try with_reducible rfl)
      refine tkW 8 (some 106) (v := ?_) ?_ hHeld ?_
      rotate_left
      · (intro ww hSw; (try dsimp only at hSw); go_simp; try with_reducible rfl)
      refine tkW 9 (some 107) (v := ?_) ?_ hHeld ?_
      rotate_left
      · (intro ww hSw; (try dsimp only at hSw); have y0 := (HW0.out ww hSw.2.1).1; have y1 := (HW0.out ww hSw.2.1).2; go_simp; try with_reducible rfl)
      refine tkW 10 (some 108) (v := .bool false) ?_ hHeld ?_
      · (intro ww hSw; (try dsimp only at hSw); exact execNeqA (p := x) rfl rfl ww)
      refine tkW 11 (some 109) (v := ?_) ?_ hHeld ?_
      rotate_left
      · (intro ww _; go_simp; try with_reducible rfl)
      refine wpAnyH_done (by kernel_rfl) ?_ _
      clear hHeld
      have cn := HAd.out.box.cell 0 _ rfl
      have fn := HAd.out.box.free 0
      have n1 : IntKind.i64.wrap ((k : Int) + 1) = (k : Int) + 1 := by rw [IntKind.wrap_i64]; omega
      gi_wp2
      have hst := HAd.out.set (k + 1)
      exact ⟨HKd.out.1.trans (by rw [← HeD.out]; exact keepsFrom_set _ _ _), HKd.out.2.trans (by rw [← HeD.out]; exact hst.2), hst.1⟩
    case done2 =>
      rintro De We hDe hA2 hDf2
      have HFe : Hid (AskF w b5 b6 b13 B1 stop D (.slice au D.length cu) (.slice ae D.length ce) We) := HF2.out.keep hA2.kp HSF2.out hA2.bel
      have HDf2 : Hid (We.heap[De]? = some (.deferred (some []))) := hDf2
      have HDf1 : Hid (We.heap[Dd]? = some (.deferred (some []))) := (hA2.kp.2 _ HSD.out).trans HDf.out
      have HN15 : Hid (BxC b15 [.int .i64 (nn : Int)] 3 We) := HN15.out.keep (hA2.kp.2 _ HS15.out)
      have HA9 : Hid (AkS w W18 S2 b17 D.length We) := hA2
      have hDl := HDl.out
      have c5 := HFe.out.b5.cell 0 _ rfl
      have c13 := HFe.out.b13.cell 0 _ rfl
      have c15 := HN15.out.cell 0 _ rfl
      have c17 := hA2.box.cell 0 _ rfl
      have HDe : Hid (W18.heap.size ≤ De) := hDe
      clear hA2 hDf2
      by_cases hnn : nn = D.length
      · have q1 : ((nn : Int) == (D.length : Int)) = true := by simp [hnn]
        clear hnn
        gi_wp2_with fail
        refine ⟨trivial, (callsIn_wide.2 (awake_any _)).mono ?_⟩
        rintro e Wz ⟨rfl, hb⟩
        have HFz : Hid (AskF w b5 b6 b13 B1 stop D (.slice au D.length cu) (.slice ae D.length ce) Wz) := HFe.out.below hb
        have HDz2 : Hid (Wz.heap[De]? = some (.deferred (some []))) := (hb.block _ (row_lt HDf2.out)).trans HDf2.out
        have HDz1 : Hid (Wz.heap[Dd]? = some (.deferred (some []))) := (hb.block _ (row_lt HDf1.out)).trans HDf1.out
        have c6 := HFz.out.b6.cell 0 _ rfl
        have f6 := HFz.out.b6.free 0
        clear hb c5 c13 c15 c17
        gi_wp2
        obtain ⟨k1, k2, k3, k4⟩ := two_marks HFz.out.b6 HFz.out.bel HDz1.out HDz2.out (by have := HLo.out; have := HDe.out; omega) HG6.out.2 (by have := HLo.out; have := HF1.out.bel.size; omega)
        refine ⟨by simp, .inl ⟨_, _, rfl, run_takeDeferred k1, ?_⟩⟩
        refine ⟨by simp, .inl ⟨_, _, rfl, run_takeDeferred k2, ?_⟩⟩
        exact ⟨_, results_boolCell rfl _ _ _ true rfl k3, rfl, k4⟩
      · have q1 : ((nn : Int) == (D.length : Int)) = false := by simp; omega
        have q2 : ((nn : Int) == stop) = true := by simpa using HNN.out.2.resolve_left hnn
        clear hnn
        gi_wp2_with fail
        refine ⟨trivial, (callsIn_wide.2 (awake_any _)).mono ?_⟩
        rintro e Wz ⟨rfl, hb⟩
        have HFz : Hid (AskF w b5 b6 b13 B1 stop D (.slice au D.length cu) (.slice ae D.length ce) Wz) := HFe.out.below hb
        have HDz2 : Hid (Wz.heap[De]? = some (.deferred (some []))) := (hb.block _ (row_lt HDf2.out)).trans HDf2.out
        have HDz1 : Hid (Wz.heap[Dd]? = some (.deferred (some []))) := (hb.block _ (row_lt HDf1.out)).trans HDf1.out
        have c6 := HFz.out.b6.cell 0 _ rfl
        have f6 := HFz.out.b6.free 0
        clear hb c5 c13 c15 c17
        gi_wp2
        obtain ⟨k1, k2, k3, k4⟩ := two_marks HFz.out.b6 HFz.out.bel HDz1.out HDz2.out (by have := HLo.out; have := HDe.out; omega) HG6.out.2 (by have := HLo.out; have := HF1.out.bel.size; omega)
        refine ⟨by simp, .inl ⟨_, _, rfl, run_takeDeferred k1, ?_⟩⟩
        refine ⟨by simp, .inl ⟨_, _, rfl, run_takeDeferred k2, ?_⟩⟩
        exact ⟨_, results_boolCell rfl _ _ _ true rfl k3, rfl, k4⟩
    case stop2 => rintro D c k W hD hk hf; exact hf.elim
  case stop1 =>
    rintro Dd c k Wd hDd hk ⟨rfl, nn, rfl, h3, h4, hA⟩ hDf
    have HNN : Hid (nn ≤ D.length ∧ (nn = D.length ∨ (nn : Int) = stop)) := ⟨by omega, .inr h3⟩
    clear h3 h4 hk
    have HFd : Hid (AskF w b5 b6 b13 B1 stop D (.slice au D.length cu) (.slice ae D.length ce) Wd) := HF1.out.keep hA.kp HSF1.out hA.bel
    have HDf0 : Hid (Wd.heap[Dd]? = some (.deferred (some []))) := hDf
    have HAd0 : Hid (AkS w W11 S1 b15 nn Wd) := hA
    clear hA hDf
    obtain ⟨W18, eW18⟩ : ∃ X, X = Wd.alloc (.cells [.int .i64 ((0 : Nat) : Int)].toArray 3) := ⟨_, rfl⟩
    have hb : Below Wd.heap.size Wd W18 := by rw [eW18]; exact (Below.refl _ _).alloc (Nat.le_refl _) _
    obtain ⟨b17, eb17⟩ : ∃ b, b = Wd.heap.size := ⟨_, rfl⟩
    have HX17 : Hid (BxC b17 [.int .i64 ((0 : Nat) : Int)] 3 W18) := by rw [eW18, eb17]; exact BxC.new _ _ _
    have HF2 : Hid (AskF w b5 b6 b13 B1 stop D (.slice au D.length cu) (.slice ae D.length ce) W18) := HFd.out.below hb
    have HN15 : Hid (BxC b15 [.int .i64 (nn : Int)] 3 W18) := HAd0.out.box.below hb
    have HDf : Hid (W18.heap[Dd]? = some (.deferred (some []))) := (hb.block _ (row_lt HDf0.out)).trans HDf0.out
    obtain ⟨S2, eS2⟩ : ∃ S : Nat → Prop, S = fun k => k < W18.heap.size ∧ k ≠ b17 := ⟨_, rfl⟩
    have HSl2 : Hid (∀ k, S2 k → k < W18.heap.size) := fun k hk => by (rw [eS2] at hk; exact hk.1)
    have HSw : Hid (∀ k, k < Wd.heap.size → S2 k) := fun k hk => by (rw [eS2]; have := hb.size; exact ⟨by omega, by omega⟩)
    have HSF2 : Hid (AskIn b5 b6 b13 B1 (.slice au D.length cu) (.slice ae D.length ce) S2) := HFd.out.inn HSw.out
    have HSD : Hid (S2 Dd) := HSw.out _ (row_lt HDf0.out)
    have HS15 : Hid (S2 b15) := HSw.out _ HAd0.out.box.lt
    have HA2 : Hid (AkS w W18 S2 b17 0 W18) := ⟨HX17.out, KeepsS.refl _ _, HSl2.out, fun hk => by (rw [eS2] at hk; exact hk.2 rfl), by rw [eb17]; exact HFd.out.bel.size, HX17.out.lt, HF2.out.bel⟩
    have HSq2 := valsA_seq (n0 - 1) (by omega) B1 ce S2 ae D W18 HSF2.out.e1 HSl2.out (HF2.out.e1.cell 0 _ rfl) (HF2.out.e2.lsE atCells_len (by have := HDl.out; omega) HSF2.out.e2) (by have := HDl.out; omega)
    have eW19 : W18 = Wd.alloc (.cells #[.int .i64 0] 3) := eW18
    have HE19 : Hid (W18 = Wd.alloc (.cells #[.int .i64 0] 3) ∧ b17 = Wd.heap.size) := ⟨eW19, eb17⟩
    have HLo : Hid (W11.heap.size ≤ Dd ∧ Wd.heap.size ≤ W18.heap.size ∧ Dd < Wd.heap.size) := ⟨hDd, hb.size, row_lt HDf0.out⟩
    clear hb eS2 eW18 HFd HX17 HSw HAd0 HDf0 eW19 eb17
    gi_wp2
    rw [← HE19.out.1, ← HE19.out.2]
    clear HE19
    refine range_of (by omega) (gf := 24) (lb := #[.pointer (some ⟨B1, 0, none⟩)]) rfl (enters_of Try.func24 (by kernel_rfl) rfl) HSq2 KeepsS.trans (keepsSK_b HSl2.out) (Below.refl _ _) (fun _ => rfl)
      (fun k W => AkS w W18 S2 b17 k W) (fun _ _ _ => False)
      (fun k A B row h1 hg hr => h1.grown hg hr) (fun c k A B row hf _ _ => hf) HA2.out
      (fun x a' W => ∃ Bx, W18.heap.size ≤ Bx ∧ BxC Bx (atCells x) 42 W ∧ ∃ u : Nat → Value, a' = { tmps := #[u 0, u 1, u 2, u 3, u 4, u 5, .pointer (some ⟨b6, 0, none⟩), u 7, u 8, u 9, u 10, u 11, u 12, .pointer (some ⟨b13, 0, none⟩), u 14, u 15, u 16, .pointer (some ⟨b17, 0, none⟩), .pointer (some ⟨Bx, 0, none⟩), u 19, u 20, u 21, u 22, u 23, u 24, u 25, u 26, u 27, u 28, u 29, u 30, u 31, u 32, u 33, u 34, u 35, u 36, u 37, u 38, u 39, u 40, u 41, u 42, u 43, u 44, u 45, u 46, u 47, u 48, u 49, u 50, u 51, u 52, u 53, u 54, u 55, u 56, u 57, u 58, u 59, u 60, u 61, u 62, u 63, u 64, u 65, u 66, u 67, u 68, u 69, u 70, u 71, u 72, u 73, u 74, u 75, u 76, u 77, u 78, u 79, u 80, u 81, u 82, u 83, u 84, u 85, u 86, u 87, u 88, u 89, u 90, u 91, u 92, u 93, u 94, u 95, u 96, u 97, u 98, u 99, u 100, u 101, u 102, u 103, u 104, u 105, u 106, u 107, u 108, u 109, u 110, u 111, u 112, u 113, u 114, u 115, u 116, u 117, u 118, u 119, u 120, u 121, u 122, u 123, u 124, u 125, u 126, u 127, u 128, u 129], defers := [] })
      (fun x a' u A B row ⟨Bx, h1, h2, h5⟩ hg hr => ⟨Bx, h1, row_own h2 hg (fun r e => (hr r e).2), h5⟩)
      ?assign2 ?body2 ?done2 ?stop2
    case assign2 =>
      rintro l k hk Wa K hA hK
      obtain ⟨x, hx⟩ : ∃ x, x = D[k] := ⟨_, rfl⟩
      rw [← hx] at hK ⊢
      clear hx
      have hb : Below Wa.heap.size Wa (Wa.alloc (.cells (atCells x).toArray 42)) := (Below.refl _ _).alloc (Nat.le_refl _) _
      have HFin : Hid (∀ a', (∃ u : Nat → Value, a' = { tmps := #[u 0, u 1, u 2, u 3, u 4, u 5, .pointer (some ⟨b6, 0, none⟩), u 7, u 8, u 9, u 10, u 11, u 12, .pointer (some ⟨b13, 0, none⟩), u 14, u 15, u 16, .pointer (some ⟨b17, 0, none⟩), .pointer (some ⟨Wa.heap.size, 0, none⟩), u 19, u 20, u 21, u 22, u 23, u 24, u 25, u 26, u 27, u 28, u 29, u 30, u 31, u 32, u 33, u 34, u 35, u 36, u 37, u 38, u 39, u 40, u 41, u 42, u 43, u 44, u 45, u 46, u 47, u 48, u 49, u 50, u 51, u 52, u 53, u 54, u 55, u 56, u 57, u 58, u 59, u 60, u 61, u 62, u 63, u 64, u 65, u 66, u 67, u 68, u 69, u 70, u 71, u 72, u 73, u 74, u 75, u 76, u 77, u 78, u 79, u 80, u 81, u 82, u 83, u 84, u 85, u 86, u 87, u 88, u 89, u 90, u 91, u 92, u 93, u 94, u 95, u 96, u 97, u 98, u 99, u 100, u 101, u 102, u 103, u 104, u 105, u 106, u 107, u 108, u 109, u 110, u 111, u 112, u 113, u 114, u 115, u 116, u 117, u 118, u 119, u 120, u 121, u 122, u 123, u 124, u 125, u 126, u 127, u 128, u 129], defers := [] }) → K a' (Wa.alloc (.cells (atCells x).toArray 42))) := fun a' e5 => hK a' (Wa.alloc (.cells (atCells x).toArray 42)) (keepsFrom_below hb) (KeepsS.of_below hb (fun j hj => Nat.lt_of_lt_of_le (HSl2.out j hj) hA.size)) (hA.below hb) ⟨Wa.heap.size, hA.size, BxC.new _ _ _, e5⟩
      have HFin2 : Hid (∀ a' : Act, a' = { tmps := #[a'.tmps.getD 0 undef, a'.tmps.getD 1 undef, a'.tmps.getD 2 undef, a'.tmps.getD 3 undef, a'.tmps.getD 4 undef, a'.tmps.getD 5 undef, .pointer (some ⟨b6, 0, none⟩), a'.tmps.getD 7 undef, a'.tmps.getD 8 undef, a'.tmps.getD 9 undef, a'.tmps.getD 10 undef, a'.tmps.getD 11 undef, a'.tmps.getD 12 undef, .pointer (some ⟨b13, 0, none⟩), a'.tmps.getD 14 undef, a'.tmps.getD 15 undef, a'.tmps.getD 16 undef, .pointer (some ⟨b17, 0, none⟩), .pointer (some ⟨Wa.heap.size, 0, none⟩), a'.tmps.getD 19 undef, a'.tmps.getD 20 undef, a'.tmps.getD 21 undef, a'.tmps.getD 22 undef, a'.tmps.getD 23 undef, a'.tmps.getD 24 undef, a'.tmps.getD 25 undef, a'.tmps.getD 26 undef, a'.tmps.getD 27 undef, a'.tmps.getD 28 undef, a'.tmps.getD 29 undef, a'.tmps.getD 30 undef, a'.tmps.getD 31 undef, a'.tmps.getD 32 undef, a'.tmps.getD 33 undef, a'.tmps.getD 34 undef, a'.tmps.getD 35 undef, a'.tmps.getD 36 undef, a'.tmps.getD 37 undef, a'.tmps.getD 38 undef, a'.tmps.getD 39 undef, a'.tmps.getD 40 undef, a'.tmps.getD 41 undef, a'.tmps.getD 42 undef, a'.tmps.getD 43 undef, a'.tmps.getD 44 undef, a'.tmps.getD 45 undef, a'.tmps.getD 46 undef, a'.tmps.getD 47 undef, a'.tmps.getD 48 undef, a'.tmps.getD 49 undef, a'.tmps.getD 50 undef, a'.tmps.getD 51 undef, a'.tmps.getD 52 undef, a'.tmps.getD 53 undef, a'.tmps.getD 54 undef, a'.tmps.getD 55 undef, a'.tmps.getD 56 undef, a'.tmps.getD 57 undef, a'.tmps.getD 58 undef, a'.tmps.getD 59 undef, a'.tmps.getD 60 undef, a'.tmps.getD 61 undef, a'.tmps.getD 62 undef, a'.tmps.getD 63 undef, a'.tmps.getD 64 undef, a'.tmps.getD 65 undef, a'.tmps.getD 66 undef, a'.tmps.getD 67 undef, a'.tmps.getD 68 undef, a'.tmps.getD 69 undef, a'.tmps.getD 70 undef, a'.tmps.getD 71 undef, a'.tmps.getD 72 undef, a'.tmps.getD 73 undef, a'.tmps.getD 74 undef, a'.tmps.getD 75 undef, a'.tmps.getD 76 undef, a'.tmps.getD 77 undef, a'.tmps.getD 78 undef, a'.tmps.getD 79 undef, a'.tmps.getD 80 undef, a'.tmps.getD 81 undef, a'.tmps.getD 82 undef, a'.tmps.getD 83 undef, a'.tmps.getD 84 undef, a'.tmps.getD 85 undef, a'.tmps.getD 86 undef, a'.tmps.getD 87 undef, a'.tmps.getD 88 undef, a'.tmps.getD 89 undef, a'.tmps.getD 90 undef, a'.tmps.getD 91 undef, a'.tmps.getD 92 undef, a'.tmps.getD 93 undef, a'.tmps.getD 94 undef, a'.tmps.getD 95 undef, a'.tmps.getD 96 undef, a'.tmps.getD 97 undef, a'.tmps.getD 98 undef, a'.tmps.getD 99 undef, a'.tmps.getD 100 undef, a'.tmps.getD 101 undef, a'.tmps.getD 102 undef, a'.tmps.getD 103 undef, a'.tmps.getD 104 undef, a'.tmps.getD 105 undef, a'.tmps.getD 106 undef, a'.tmps.getD 107 undef, a'.tmps.getD 108 undef, a'.tmps.getD 109 undef, a'.tmps.getD 110 undef, a'.tmps.getD 111 undef, a'.tmps.getD 112 undef, a'.tmps.getD 113 undef, a'.tmps.getD 114 undef, a'.tmps.getD 115 undef, a'.tmps.getD 116 undef, a'.tmps.getD 117 undef, a'.tmps.getD 118 undef, a'.tmps.getD 119 undef, a'.tmps.getD 120 undef, a'.tmps.getD 121 undef, a'.tmps.getD 122 undef, a'.tmps.getD 123 undef, a'.tmps.getD 124 undef, a'.tmps.getD 125 undef, a'.tmps.getD 126 undef, a'.tmps.getD 127 undef, a'.tmps.getD 128 undef, a'.tmps.getD 129 undef], defers := [] } → K a' (Wa.alloc (.cells (atCells x).toArray 42))) := fun a' e => HFin.out a' ⟨fun k => a'.tmps.getD k undef, e⟩
      clear hK hb hA HFin
      simp only [encA]
      gi_wp2
      exact HFin2.out _ rfl
    case body2 =>
      rintro l k hk a' Wb hlD hA ⟨Bx, hx1, hx2, u, rfl⟩
      obtain ⟨x, hx⟩ : ∃ x, x = D[k] := ⟨_, rfl⟩
      rw [← hx] at hx2
      have HA : Hid (AkS w W18 S2 b17 k Wb) := hA
      have HFb : Hid (AskF w b5 b6 b13 B1 stop D (.slice au D.length cu) (.slice ae D.length ce) Wb) := HF2.out.keep hA.kp HSF2.out hA.bel
      obtain ⟨bW, oW, cW, evW, hrow⟩ := HFb.out.row HSF2.out HDl.out hk
      rw [← hx] at hrow
      have HxB : Hid (BxC Bx (atCells x) 42 Wb) := hx2
      have hDl := HDl.out
      have k1 : (k : Int) < (D.length : Int) := by omega
      have k0 : (0 : Int) ≤ (k : Int) := by omega
      have HW0 : Hid (∀ X, KeepsS S2 Wb X → X.cell? ⟨bW, oW + k * 2, none⟩ = some (.string x.1) ∧ X.cell? ⟨bW, oW + k * 2 + 1, none⟩ = some (.string x.2)) := hrow
      clear hx hA hx2 hrow
      have HKd : Hid (KeepsFrom W18.heap.size Wb Wb.drew ∧ KeepsS S2 Wb Wb.drew) := ⟨keepsFrom_below (Below.refl _ _).drew, KeepsS.of_below (Below.refl _ _).drew (fun j hj => Nat.lt_of_lt_of_le (HSl2.out j hj) HA.out.size)⟩
      have HW13 : Hid (BxC b13 [.slice (some ⟨bW, oW, none⟩) D.length cW] 34 Wb) := (by have h9 := HFb.out.b13; rw [evW] at h9; exact h9)
      clear evW
      gi_wp2
      refine region_round_held (S := fun W' => AkS w W18 S2 b17 k W' ∧ KeepsS S2 Wb W' ∧ BxC Bx (atCells x) 42 W' ∧ BxC b13 [.slice (some ⟨bW, oW, none⟩) D.length cW] 34 W') l (by kernel_rfl) (by kernel_rfl) (lets_then (lets_then (lets_block lets_round))) ⟨HA.out.below (Below.refl _ _).drew, HKd.out.2, HxB.out.below (Below.refl _ _).drew, HW13.out.below (Below.refl _ _).drew⟩ (fun hHeld => ?_)
      obtain ⟨Ur24u0, eW⟩ : ∃ X, X = Wb.drew := ⟨_, rfl⟩
      have hb : Below Wb.heap.size Wb Ur24u0 := by rw [eW]; exact (Below.refl _ _).drew
      have HeD : Hid (Ur24u0 = Wb.drew) := eW
      have HAd : Hid (AkS w W18 S2 b17 k Ur24u0) := (by rw [eW]; exact HA.out.below (Below.refl _ _).drew)
      rw [← eW] at hHeld ⊢
      clear eW hb
      refine tkW 0 (some 98) (v := ?_) ?_ hHeld ?_
      rotate_left
      · (intro ww hSw; (try dsimp only at hSw); have n0 := hSw.1.box.cell 0 _ rfl; go_simp; try with_reducible rfl)
      refine tkW 1 (some 99) (v := ?_) ?_ hHeld ?_
      rotate_left
      · (intro ww hSw; (try dsimp only at hSw); have s0 := hSw.2.2.2.cell 0 _ rfl; go_simp; try with_reducible rfl)
      refine tkW 2 (some 100) (v := ?_) ?_ hHeld ?_
      rotate_left
      · (intro ww hSw; (try dsimp only at hSw); go_simp; try with_reducible rfl)
      refine tkW 3 (some 101) (v := .bool false) ?_ hHeld ?_
      · (intro ww hSw; (try dsimp only at hSw); go_simp; try omega)
      refine tkW 4 (some 102) (v := ?_) ?_ hHeld ?_
      rotate_left
      · (intro ww _; go_simp; try with_reducible rfl)
      refine tkW 5 (some 103) (v := ?_) ?_ hHeld ?_
      rotate_left
      · (intro ww hSw; (try dsimp only at hSw); have v0 := hSw.2.2.1.cell 0 _ rfl; have v1 := hSw.2.2.1.cell 1 _ rfl; go_simp; try with_reducible rfl)
      refine tkW 6 (some 104) (v := ?_) ?_ hHeld ?_
      rotate_left
      · (intro ww hSw; (try dsimp only at hSw); have s0 := hSw.2.2.2.cell 0 _ rfl; go_simp; try with_reducible rfl)
      refine tkW 7 (some 105) (v := ?_) ?_ hHeld ?_
      rotate_left
      · (intro ww hSw; (try dsimp only at hSw); have n0 := hSw.1.box.cell 0 _ rfl; go_simp; try with_reducible rfl)
      refine tkW 8 (some 106) (v := ?_) ?_ hHeld ?_
      rotate_left
      · (intro ww hSw; (try dsimp only at hSw); go_simp; try with_reducible rfl)
      refine tkW 9 (some 107) (v := ?_) ?_ hHeld ?_
      rotate_left
      · (intro ww hSw; (try dsimp only at hSw); have y0 := (HW0.out ww hSw.2.1).1; have y1 := (HW0.out ww hSw.2.1).2; go_simp; try with_reducible rfl)
      refine tkW 10 (some 108) (v := .bool false) ?_ hHeld ?_
      · (intro ww hSw; (try dsimp only at hSw); exact execNeqA (p := x) rfl rfl ww)
      refine tkW 11 (some 109) (v := ?_) ?_ hHeld ?_
      rotate_left
      · (intro ww _; go_simp; try with_reducible rfl)
      refine wpAnyH_done (by kernel_rfl) ?_ _
      clear hHeld
      have cn := HAd.out.box.cell 0 _ rfl
      have fn := HAd.out.box.free 0
      have n1 : IntKind.i64.wrap ((k : Int) + 1) = (k : Int) + 1 := by rw [IntKind.wrap_i64]; omega
      gi_wp2
      have hst := HAd.out.set (k + 1)
      exact ⟨HKd.out.1.trans (by rw [← HeD.out]; exact keepsFrom_set _ _ _), HKd.out.2.trans (by rw [← HeD.out]; exact hst.2), hst.1⟩
    case done2 =>
      rintro De We hDe hA2 hDf2
      have HFe : Hid (AskF w b5 b6 b13 B1 stop D (.slice au D.length cu) (.slice ae D.length ce) We) := HF2.out.keep hA2.kp HSF2.out hA2.bel
      have HDf2 : Hid (We.heap[De]? = some (.deferred (some []))) := hDf2
      have HDf1 : Hid (We.heap[Dd]? = some (.deferred (some []))) := (hA2.kp.2 _ HSD.out).trans HDf.out
      have HN15 : Hid (BxC b15 [.int .i64 (nn : Int)] 3 We) := HN15.out.keep (hA2.kp.2 _ HS15.out)
      have HA9 : Hid (AkS w W18 S2 b17 D.length We) := hA2
      have hDl := HDl.out
      have c5 := HFe.out.b5.cell 0 _ rfl
      have c13 := HFe.out.b13.cell 0 _ rfl
      have c15 := HN15.out.cell 0 _ rfl
      have c17 := hA2.box.cell 0 _ rfl
      have HDe : Hid (W18.heap.size ≤ De) := hDe
      clear hA2 hDf2
      by_cases hnn : nn = D.length
      · have q1 : ((nn : Int) == (D.length : Int)) = true := by simp [hnn]
        clear hnn
        gi_wp2_with fail
        refine ⟨trivial, (callsIn_wide.2 (awake_any _)).mono ?_⟩
        rintro e Wz ⟨rfl, hb⟩
        have HFz : Hid (AskF w b5 b6 b13 B1 stop D (.slice au D.length cu) (.slice ae D.length ce) Wz) := HFe.out.below hb
        have HDz2 : Hid (Wz.heap[De]? = some (.deferred (some []))) := (hb.block _ (row_lt HDf2.out)).trans HDf2.out
        have HDz1 : Hid (Wz.heap[Dd]? = some (.deferred (some []))) := (hb.block _ (row_lt HDf1.out)).trans HDf1.out
        have c6 := HFz.out.b6.cell 0 _ rfl
        have f6 := HFz.out.b6.free 0
        clear hb c5 c13 c15 c17
        gi_wp2
        obtain ⟨k1, k2, k3, k4⟩ := two_marks HFz.out.b6 HFz.out.bel HDz1.out HDz2.out (by have := HLo.out; have := HDe.out; omega) HG6.out.2 (by have := HLo.out; have := HF1.out.bel.size; omega)
        refine ⟨by simp, .inl ⟨_, _, rfl, run_takeDeferred k1, ?_⟩⟩
        refine ⟨by simp, .inl ⟨_, _, rfl, run_takeDeferred k2, ?_⟩⟩
        exact ⟨_, results_boolCell rfl _ _ _ true rfl k3, rfl, k4⟩
      · have q1 : ((nn : Int) == (D.length : Int)) = false := by simp; omega
        have q2 : ((nn : Int) == stop) = true := by simpa using HNN.out.2.resolve_left hnn
        clear hnn
        gi_wp2_with fail
        refine ⟨trivial, (callsIn_wide.2 (awake_any _)).mono ?_⟩
        rintro e Wz ⟨rfl, hb⟩
        have HFz : Hid (AskF w b5 b6 b13 B1 stop D (.slice au D.length cu) (.slice ae D.length ce) Wz) := HFe.out.below hb
        have HDz2 : Hid (Wz.heap[De]? = some (.deferred (some []))) := (hb.block _ (row_lt HDf2.out)).trans HDf2.out
        have HDz1 : Hid (Wz.heap[Dd]? = some (.deferred (some []))) := (hb.block _ (row_lt HDf1.out)).trans HDf1.out
        have c6 := HFz.out.b6.cell 0 _ rfl
        have f6 := HFz.out.b6.free 0
        clear hb c5 c13 c15 c17
        gi_wp2
        obtain ⟨k1, k2, k3, k4⟩ := two_marks HFz.out.b6 HFz.out.bel HDz1.out HDz2.out (by have := HLo.out; have := HDe.out; omega) HG6.out.2 (by have := HLo.out; have := HF1.out.bel.size; omega)
        refine ⟨by simp, .inl ⟨_, _, rfl, run_takeDeferred k1, ?_⟩⟩
        refine ⟨by simp, .inl ⟨_, _, rfl, run_takeDeferred k2, ?_⟩⟩
        exact ⟨_, results_boolCell rfl _ _ _ true rfl k3, rfl, k4⟩
    case stop2 => rintro D c k W hD hk hf; exact hf.elim

theorem lwwAsks_walk (v : Value) (l : List Rg) (a : Rg) (stop : Int) (w : World) (h : IsRg w v l) (hs : smR a) {P : Prop} (hP : P) :
    Calls Try.prog 3 #[v, .agg #[.int .i64 a.nd.1, .int .i64 a.nd.2, .string a.nm, .int .i64 a.at_.1, .int .i64 a.at_.2, .string a.vl, .bool a.gn], .int .i64 stop] w fun e w' => e = .returned (.bool true) ∧ Below w.heap.size w w' :=
  callsIn_wide.1 (lwwAsks_in 5 (Nat.le_refl _) v l a stop w h)

end Go.Proofs.Ytecliogffcnfiaa
