/- RgaGoes: the slots gone over, as the row was at the call; left in the midst, and gone over again; a clone goes its own way. -/
import Derived.Test.YtfgkdbidgbpobaaRdY
import Derived.Test.YtfgkdbidgbpobaaRdV
namespace Go.Proofs.Ytfgkdbidgbpobaa
open Go.RowKit Go.Shelf
set_option linter.unusedVariables false
set_option linter.unusedSimpArgs false

attribute [local go_sem] Oper.semAt_some

theorem hide9 {p : Prop} (h : p) : Hid p := h
theorem equalSl (a b : Sl) (w : World) : (Op.equalIn 10000 36 (.agg (slCells a).toArray) (.agg (slCells b).toArray)).run Try.prog w = .ok (decide (a = b)) w := by
  obtain ⟨⟨a1, a2⟩, ⟨a3, a4⟩⟩ := a
  obtain ⟨⟨b1, b2⟩, ⟨b3, b4⟩⟩ := b
  have hS : Try.prog.underlying 36 = some (.struct (Try.prog.fieldsOf 36)) := by kernel_rfl
  have hp : Try.prog.stoodInHeld 36 = false := by kernel_rfl
  rw [show (10000 : Nat) = 9999 + 1 from rfl, run_equalIn_agg w 9999 36 _ _ hS hp]
  simp only [Program.fieldsOf, Try.underlying36, slCells]
  clear hS hp
  go_simp
  by_cases h1 : a1 = b1
  · by_cases h2 : a2 = b2
    · by_cases h3 : a3 = b3
      · by_cases h4 : a4 = b4 <;> simp [h1, h2, h3, h4]
      · simp [h1, h2, h3]
    · simp [h1, h2]
  · simp [h1]
theorem execNeqS {ev : Operand → Value} {d : Option Nat} {x y : Operand} {t t2 : TypeId} {o3 : String} {o4 : Array Edge} {o5 : Option (Nat × Bool)} {p : Sl} (hx : ev x = .agg #[.int .i64 p.ts.1, .int .i64 p.ts.2, .int .i64 p.af.1, .int .i64 p.af.2]) (hy : ev y = .agg #[.int .i64 p.ts.1, .int .i64 p.ts.2, .int .i64 p.af.1, .int .i64 p.af.2]) (w : World) : (execOp ev ⟨d, .binOp .neq 36 x y t2, t, o3, o4, o5⟩).run Try.prog w = .ok (.value (.bool false)) w := by
  have h1 : (eqGuard .neq 36 x y (.agg (slCells p).toArray) (.agg (slCells p).toArray)).run Try.prog w = .ok () w := run_eqGuard_agg w .neq 36 x y _ _ (by kernel_rfl)
  have h2 : (binOp .neq 36 (.agg (slCells p).toArray) (.agg (slCells p).toArray)).run Try.prog w = .ok (.bool false) w := by
    rw [run_neq_struct, equalSl p p w]
    simp
    try rfl
  unfold execOp
  simp only [slCells] at h1 h2
  simp only [hx, hy, Sem.run_bind, h1, h2, Result.andThen_ok]
  rfl
/-- What stands until the end: the boxes of stop, of the result, of the list that is wanted, of the iterator; both rows; the clone. -/
structure AskF (w : World) (b3 b4 b9 B1 : Nat) (stop : Int) (D : List Sl) (wv ev : Value) (F2 : Nat → Prop) (rb2 : Nat) (L : List Sl) (U : World) : Prop where
  b3 : BxC b3 [.int .i64 stop] 3 U
  b4 : BxC b4 [.bool false] 4 U
  b9 : BxC b9 [wv] 22 U
  e1 : BxC B1 [ev] 22 U
  w2 : OwnSl 0 U wv D
  e2 : OwnSl 0 U ev D
  cl : RowOk F2 U rb2 L
  bel : Below w.heap.size w U
/-- Their blocks are of S. -/
structure AskIn (b3 b4 b9 B1 : Nat) (wv ev : Value) (F2 : Nat → Prop) (S : Nat → Prop) : Prop where
  b3 : S b3
  b4 : S b4
  b9 : S b9
  e1 : S B1
  w2 : ∀ k, wv.ownBlock = some k → S k
  e2 : ∀ k, ev.ownBlock = some k → S k
  cl : ∀ k, F2 k → S k
/-- A box that counts; S lies as it lay. -/
structure AkS (w W0 : World) (S : Nat → Prop) (bn n : Nat) (U : World) : Prop where
  box : BxC bn [.int .i64 (n : Int)] 3 U
  kp : KeepsS S W0 U
  kl : ∀ k, S k → k < W0.heap.size
  nb : ¬ S bn
  b1 : w.heap.size ≤ bn
  b2 : bn < W0.heap.size
  bel : Below w.heap.size w U
section
variable {w W0 U U' : World} {b3 b4 b9 B1 bn n rb2 : Nat} {stop : Int} {D L : List Sl} {wv ev : Value} {S F2 : Nat → Prop}
theorem BxC.set_ne {b : Nat} {cs : List Value} {T : TypeId} {v : Value} (h : BxC b cs T U) (h4 : BxC b4 [.bool false] 4 U) (hne : cs ≠ [.bool false]) : BxC b cs T (U.setCell ⟨b4, 0, none⟩ v) :=
  h.keep (RowKit.Below.heap_setCell _ _ _ _ (fun e => by
    have e2 : b = b4 := e
    subst e2
    unfold BxC at h h4
    rw [h] at h4
    injection h4 with h5
    injection h5 with h6
    exact hne (by simpa using congrArg Array.toList h6)))
theorem keepsFrom_set {B : Nat} (U : World) (p : Addr) (v : Value) : KeepsFrom B U (U.setCell p v) := (KeepsOthers.setCell U p v).from B
theorem AskF.below (h : AskF w b3 b4 b9 B1 stop D wv ev F2 rb2 L U) (hb : Below U.heap.size U U') : AskF w b3 b4 b9 B1 stop D wv ev F2 rb2 L U' := ⟨h.b3.below hb, h.b4.below hb, h.b9.below hb, h.e1.below hb, h.w2.below hb, h.e2.below hb, h.cl.below hb, h.bel.trans (hb.mono h.bel.size)⟩
theorem AskF.inn (h : AskF w b3 b4 b9 B1 stop D wv ev F2 rb2 L U) (hS : ∀ k, k < U.heap.size → S k) : AskIn b3 b4 b9 B1 wv ev F2 S := ⟨hS _ h.b3.lt, hS _ h.b4.lt, hS _ h.b9.lt, hS _ h.e1.lt, fun k e => hS k (h.w2.lt k e).2, fun k e => hS k (h.e2.lt k e).2, fun k e => hS k (h.cl.lt k e)⟩
theorem AskF.keep (h : AskF w b3 b4 b9 B1 stop D wv ev F2 rb2 L U) (hk : KeepsS S U U') (hS : AskIn b3 b4 b9 B1 wv ev F2 S) (hb : Below w.heap.size w U') : AskF w b3 b4 b9 B1 stop D wv ev F2 rb2 L U' :=
  ⟨h.b3.keep (hk.2 _ hS.b3), h.b4.keep (hk.2 _ hS.b4), h.b9.keep (hk.2 _ hS.b9), h.e1.keep (hk.2 _ hS.e1), h.w2.keep fun k e => hk.2 k (hS.w2 k e), h.e2.keep fun k e => hk.2 k (hS.e2 k e), h.cl.keep (hk.mono hS.cl), hb⟩
theorem AskF.row (h : AskF w b3 b4 b9 B1 stop D wv ev F2 rb2 L U) (hS : AskIn b3 b4 b9 B1 wv ev F2 S) (hl : D.length ≤ 4096) {k : Nat} (hk : k < D.length) : ∃ b o c, wv = .slice (some ⟨b, o, none⟩) D.length c ∧ ∀ X, KeepsS S U X → X.cell? ⟨b, o + k * 4, none⟩ = some (.int .i64 D[k].ts.1) ∧ X.cell? ⟨b, o + k * 4 + 1, none⟩ = some (.int .i64 D[k].ts.2) ∧ X.cell? ⟨b, o + k * 4 + 2, none⟩ = some (.int .i64 D[k].af.1) ∧ X.cell? ⟨b, o + k * 4 + 3, none⟩ = some (.int .i64 D[k].af.2) := by
  obtain ⟨a, c, e, _, _, hr⟩ := h.w2.lsE (G := S) slCells_len (by omega) hS.w2
  obtain ⟨b, o, rfl, hSb, hlt, hr⟩ := hr.resolve_left (by intro e; subst e; simp at hk)
  exact ⟨b, o, c, e, fun X hX => ⟨(hX.cell (p := ⟨b, _, none⟩) hSb).trans (hr k hk 0 _ rfl), (hX.cell (p := ⟨b, _, none⟩) hSb).trans (hr k hk 1 _ rfl), (hX.cell (p := ⟨b, _, none⟩) hSb).trans (hr k hk 2 _ rfl), (hX.cell (p := ⟨b, _, none⟩) hSb).trans (hr k hk 3 _ rfl)⟩⟩
theorem AkS.size (h : AkS w W0 S bn n U) : W0.heap.size ≤ U.heap.size := h.kp.1
theorem AkS.below (h : AkS w W0 S bn n U) (hb : Below U.heap.size U U') : AkS w W0 S bn n U' := ⟨h.box.below hb, h.kp.trans (KeepsS.of_below hb fun k hk => Nat.lt_of_lt_of_le (h.kl k hk) h.kp.1), h.kl, h.nb, h.b1, h.b2, h.bel.trans (hb.mono h.bel.size)⟩
theorem AkS.grown (h : AkS w W0 S bn n U) {row : Option Nat} (hg : U.grownBy U' row) (hr : ∀ r, row = some r → W0.heap.size ≤ r ∧ ∃ o : Obj, U.heap[r]? = some o ∧ o.isCells = false) : AkS w W0 S bn n U' := by
  have hr2 : ∀ r, row = some r → ∃ o : Obj, U.heap[r]? = some o ∧ o.isCells = false := fun r e => (hr r e).2
  have h1 := h.b1
  have h2 := h.b2
  exact ⟨row_own h.box hg hr2, h.kp.trans ⟨hg.size, fun k hk => hg.block k (Nat.lt_of_lt_of_le (h.kl k hk) h.size) (fun e => by have := (hr k e.symm).1; have := h.kl k hk; omega)⟩, h.kl, h.nb, h.b1, h.b2, h.bel.grown hg h.bel.size (fun j e => by have := (hr j e).1; omega)⟩
theorem AkS.set (h : AkS w W0 S bn n U) (m : Nat) : AkS w W0 S bn m (U.setCell ⟨bn, 0, none⟩ (.int .i64 (m : Int))) ∧ KeepsS S U (U.setCell ⟨bn, 0, none⟩ (.int .i64 (m : Int))) := by
  have hk : KeepsS S U (U.setCell ⟨bn, 0, none⟩ (.int .i64 (m : Int))) := ⟨by simp [World.setCell], fun k hk => RowKit.Below.heap_setCell _ _ _ _ (fun e => h.nb (by rw [← show k = bn from e]; exact hk))⟩
  refine ⟨⟨?_, h.kp.trans hk, h.kl, h.nb, h.b1, h.b2, h.bel.setCell (p := ⟨bn, 0, none⟩) h.b1 _⟩, hk⟩
  have := heap_setCell_same U bn 0 _ _ (.int .i64 (m : Int)) h.box
  simpa [BxC] using this
end
theorem eql_nilFunc (B1 : Nat) (w : World) : (binOp .eql 27 (.func (.func 19) #[] #[.pointer (some ⟨B1, 0, none⟩)]) .nilFunc).run Try.prog w = .ok (.bool false) w := by kernel_rfl
theorem results_boolCell {fn : Func} (hr : fn.results = #[.cell 4 4]) (tmps : Array Value) (R : Nat) (w : World) (b : Bool) (hp : tmps.getD 4 undef = .pointer (some ⟨R, 0, none⟩)) (hc : w.cell? ⟨R, 0, none⟩ = some (.bool b)) : (results fn tmps).run Try.prog w = .ok (.bool b) w := by
  have hp' : tmps[4]?.getD undef = .pointer (some ⟨R, 0, none⟩) := by simpa using hp
  simp [results, hr, hp', asAddr, loadVar, isAgg, run_underlying Try.underlying4, load, go_sem]
  simp [Sem.run, hc]
theorem two_marks {w Wz : World} {b6 Dd De : Nat} (hb : BxC b6 [.bool false] 4 Wz) (bel : Below w.heap.size w Wz) (h1 : Wz.heap[Dd]? = some (.deferred (some []))) (h2 : Wz.heap[De]? = some (.deferred (some []))) (hne : Dd < De) (l1 : w.heap.size ≤ b6) (l2 : w.heap.size ≤ Dd) :
    (Wz.setCell ⟨b6, 0, none⟩ (.bool true)).heap[De]? = some (.deferred (some [])) ∧ ((Wz.setCell ⟨b6, 0, none⟩ (.bool true)).putObj De (.deferred none)).heap[Dd]? = some (.deferred (some [])) ∧ (((Wz.setCell ⟨b6, 0, none⟩ (.bool true)).putObj De (.deferred none)).putObj Dd (.deferred none)).cell? ⟨b6, 0, none⟩ = some (.bool true) ∧ Below w.heap.size w (((Wz.setCell ⟨b6, 0, none⟩ (.bool true)).putObj De (.deferred none)).putObj Dd (.deferred none)) := by
  have n1 : Dd ≠ b6 := fun e => by rw [e, hb] at h1; cases h1
  have n2 : De ≠ b6 := fun e => by rw [e, hb] at h2; cases h2
  have k1 : (Wz.setCell ⟨b6, 0, none⟩ (.bool true)).heap[De]? = some (.deferred (some [])) := (Below.heap_setCell _ _ _ _ (by show De ≠ b6; exact n2)).trans h2
  have k1' : (Wz.setCell ⟨b6, 0, none⟩ (.bool true)).heap[Dd]? = some (.deferred (some [])) := (Below.heap_setCell _ _ _ _ (by show Dd ≠ b6; exact n1)).trans h1
  have k2 : ((Wz.setCell ⟨b6, 0, none⟩ (.bool true)).putObj De (.deferred none)).heap[Dd]? = some (.deferred (some [])) := ((grownBy_putObj' _ De _).block Dd (row_lt k1') (fun e => by have := Option.some.inj e; omega)).trans k1'
  have b1 : (Wz.setCell ⟨b6, 0, none⟩ (.bool true)).heap[b6]? = some (.cells #[.bool true] 4) := by
    have := heap_setCell_same Wz b6 0 _ _ (.bool true) hb
    simpa using this
  have b2 := row_own b1 (grownBy_putObj' (Wz.setCell ⟨b6, 0, none⟩ (.bool true)) De (.deferred none)) (fun r e => by cases e; exact ⟨_, k1, rfl⟩)
  have b3 := row_own b2 (grownBy_putObj' ((Wz.setCell ⟨b6, 0, none⟩ (.bool true)).putObj De (.deferred none)) Dd (.deferred none)) (fun r e => by cases e; exact ⟨_, k2, rfl⟩)
  have bel7 : Below w.heap.size w (Wz.setCell ⟨b6, 0, none⟩ (.bool true)) := bel.setCell (p := ⟨b6, 0, none⟩) (by show w.heap.size ≤ b6; omega) _
  have bel8 := bel7.trans (belowK_b (w := w) (Nat.le_refl _) _ De _ (.deferred none) (by omega) k1 rfl rfl)
  have bel9 := bel8.trans (belowK_b (w := w) (Nat.le_refl _) _ Dd _ (.deferred none) (by omega) k2 rfl rfl)
  exact ⟨k1, k2, BxC.cell (cs := [.bool true]) (T := 4) b3 0 _ rfl, bel9⟩

set_option maxRecDepth 100000 in
set_option maxHeartbeats 16000000 in
theorem rgaGoes_in (n0 : Nat) (hn : 9 ≤ n0) (v : Value) (l : List Sl) (stop : Int) (w : World) (h : IsSl w v l) :
    CallsIn Fence.wide n0 Try.prog 3 #[v, .int .i64 stop] w fun e w' => e = .returned (.bool true) ∧ Below w.heap.size w w' := by
  have hro : Fence.wide.round = none := rfl
  have h1n : 1 ≤ n0 := by omega
  obtain ⟨a1, c1, e1⟩ := h.form
  subst e1
  obtain ⟨W0, eW⟩ : ∃ X, X = (w.alloc (.cells [.int .i64 stop].toArray 3)).alloc (.cells [.bool false].toArray 4) := ⟨_, rfl⟩
  have hn3 : BxC w.heap.size [.int .i64 stop] 3 W0 ∧ BxC (w.heap.size + 1) [.bool false] 4 W0 := by rw [eW]; exact BxC.new2 w _ _ _ _
  have hb0 : Below w.heap.size w W0 := by rw [eW]; exact ((Below.refl _ _).alloc (Nat.le_refl _) _).alloc (by simp) _
  have HBx : Hid (BxC w.heap.size [.int .i64 stop] 3 W0 ∧ BxC (w.heap.size + 1) [.bool false] 4 W0) := hn3
  have HB0 : Hid (Below w.heap.size w W0) := hb0
  have HLs : Hid (IsSl W0 (.slice a1 l.length c1) l) := h.below hb0
  have HE : Hid (W0 = (w.alloc (.cells [.int .i64 stop].toArray 3)).alloc (.cells [.bool false].toArray 4)) := eW
  clear h hb0 hn3 eW
  refine callsIn_of_wp_marksN Try.func3 rfl trivial ?_ hro
  simp only [Try.ntmps3, List.size_toArray, List.length_cons, List.length_nil, Nat.reduceAdd, Nat.reduceSub, Array.replicate_succ, Array.replicate_zero, List.push_toArray, List.append_toArray, List.nil_append, List.cons_append]
  gi_wp2_with fail
  have HE2 := HE.out
  rw [← HE2]
  clear HE2 HE
  refine ⟨trivial, (callsIn_wide.2 (laid_any _ l _ HLs.out)).mono ?_⟩
  rintro e w1 ⟨rb, F, bd, od, cd, rfl, hM⟩
  have HLn : Hid ((laidL l).length ≤ 120) := laidL_len l
  obtain ⟨L, eL⟩ : ∃ L, L = laidL l := ⟨_, rfl⟩
  rw [← eL] at hM HLn ⊢
  clear eL HLs
  have HG : Hid (GoodL L) := hM.row.good
  have HLo : Hid ((ordL L).length ≤ 120) := by (show _ ≤ _; rw [ord_length HG.out]; exact HLn.out)
  have HM : Hid (LdS W0 rb F (.slice (some ⟨bd, od, none⟩) L.length cd) L L w1) := hM
  have HB1 : Hid (BxC w.heap.size [.int .i64 stop] 3 w1 ∧ BxC (w.heap.size + 1) [.bool false] 4 w1) := ⟨HBx.out.1.below hM.bel, HBx.out.2.below hM.bel⟩
  have HS0 : Hid (w.heap.size + 1 < W0.heap.size) := HBx.out.2.lt
  clear hM HBx
  gi_wp2_with fail
  refine ⟨trivial, (callsIn_wide.2 (each_any F _ L _ HM.out.rv)).mono ?_⟩
  rintro e w2 ⟨ue, rfl, hev, hb⟩
  have HFl : Hid (∀ k, F k → k < w1.heap.size) := HM.out.row.lt
  replace HM : Hid (LdS W0 rb F (.slice (some ⟨bd, od, none⟩) L.length cd) L L w2) := HM.out.below hb
  replace HB1 : Hid (BxC w.heap.size [.int .i64 stop] 3 w2 ∧ BxC (w.heap.size + 1) [.bool false] 4 w2) := ⟨HB1.out.1.below hb, HB1.out.2.below hb⟩
  obtain ⟨D, eD⟩ : ∃ D, D = (ordL L).map (slO L) := ⟨_, rfl⟩
  rw [← eD] at hev
  have HD : Hid (D = (ordL L).map (slO L)) := eD
  have HDl : Hid (D.length ≤ 4096) := by (show _ ≤ _; rw [eD, List.length_map]; have := HLo.out; omega)
  clear eD
  obtain ⟨B1, ae, ce, rfl, hB1, hxe, hoe⟩ := hev
  have HXe : Hid (BxC B1 [.slice ae D.length ce] 22 w2 ∧ OwnSl w1.heap.size w2 (.slice ae D.length ce) D ∧ w1.heap.size ≤ B1) := ⟨hxe, hoe, hB1⟩
  clear hb hxe hoe hB1
  gi_wp2_with fail
  refine ⟨trivial, (callsIn_wide.2 (clone_any F rb L _ HM.out.row)).mono ?_⟩
  rintro e w3 ⟨rb2, F2, rfl, hcl, hF2, hb⟩
  have HCl : Hid (RowOk F2 w3 rb2 L ∧ ∀ k, F2 k → w1.heap.size ≤ k) := ⟨hcl, fun k hk => by have h1 := hF2 k hk; have h2 := HXe.out.1.lt; have h3 := HXe.out.2.2; omega⟩
  replace HM : Hid (LdS W0 rb F (.slice (some ⟨bd, od, none⟩) L.length cd) L L w3) := HM.out.below hb
  replace HB1 : Hid (BxC w.heap.size [.int .i64 stop] 3 w3 ∧ BxC (w.heap.size + 1) [.bool false] 4 w3) := ⟨HB1.out.1.below hb, HB1.out.2.below hb⟩
  replace HXe : Hid (BxC B1 [.slice ae D.length ce] 22 w3 ∧ OwnSl w1.heap.size w3 (.slice ae D.length ce) D ∧ w1.heap.size ≤ B1) := ⟨HXe.out.1.below hb, HXe.out.2.1.below hb, HXe.out.2.2⟩
  clear hb hcl hF2
  have en := eql_nilFunc
  gi_wp2_with fail
  clear en
  refine ⟨trivial, (callsIn_wide.2 (add_any F rb L ⟨(1099511627776, 7), z0⟩ _ HM.out.row (by have := HLn.out; omega))).mono ?_⟩
  rintro e w4 hd
  obtain ⟨F', hM4⟩ := HM.out.did hd
  have hto := hd.2.choose_spec.2.2.2
  obtain ⟨he, _⟩ := id hd
  subst he
  clear hd
  have HHi : Hid (∀ j, F j → W0.heap.size ≤ j) := HM.out.hi
  replace HB1 : Hid (BxC w.heap.size [.int .i64 stop] 3 w4 ∧ BxC (w.heap.size + 1) [.bool false] 4 w4) := ⟨HB1.out.1.touch hto (fun hF => by have h1 := HHi.out _ hF; have := HS0.out; omega), HB1.out.2.touch hto (fun hF => by have h1 := HHi.out _ hF; have := HS0.out; omega)⟩
  replace HXe : Hid (BxC B1 [.slice ae D.length ce] 22 w4 ∧ OwnSl w1.heap.size w4 (.slice ae D.length ce) D ∧ w1.heap.size ≤ B1) := ⟨HXe.out.1.touch hto (fun hF => by have h1 := HFl.out _ hF; have := HXe.out.2.2; omega), HXe.out.2.1.keep (fun k e => hto.block k (HXe.out.2.1.lt k e).2 (fun hF => by have h1 := HFl.out _ hF; have := (HXe.out.2.1.lt k e).1; omega)), HXe.out.2.2⟩
  replace HCl : Hid (RowOk F2 w4 rb2 L ∧ ∀ k, F2 k → w1.heap.size ≤ k) := ⟨HCl.out.1.touch hto (fun k hk hF => by have h1 := HFl.out _ hF; have := HCl.out.2 k hk; omega), HCl.out.2⟩
  replace HM : Hid (LdS W0 rb F' (.slice (some ⟨bd, od, none⟩) L.length cd) (addL L ⟨(1099511627776, 7), z0⟩) L w4) := hM4
  clear hM4 hto
  gi_wp2_with fail
  refine ⟨trivial, (callsIn_wide.2 (refOrder_any (fun j => ¬ F' j) _ L _ (by have := HLn.out; omega) HG.out HM.out.doc)).mono ?_⟩
  rintro e w5 ⟨D0, gw, cu, hD0, rfl, ho6, hb⟩
  have e0 : D0 = D := by rw [hD0, HD.out]; rfl
  clear hD0
  subst D0
  obtain ⟨w10, ew10⟩ : ∃ X, X = w5.alloc (.cells [(.slice (some ⟨gw, 0, none⟩) D.length cu)].toArray 22) := ⟨_, rfl⟩
  have hb2 : Below w5.heap.size w5 w10 := by rw [ew10]; exact (Below.refl _ _).alloc (Nat.le_refl _) _
  have hb3 := hb.trans (hb2.mono hb.size)
  obtain ⟨b9, eb9⟩ : ∃ b, b = w5.heap.size := ⟨_, rfl⟩
  have HX9 : Hid (BxC b9 [(.slice (some ⟨gw, 0, none⟩) D.length cu)] 22 w10) := by rw [ew10, eb9]; exact BxC.new _ _ _
  have HF0 : Hid (AskF w w.heap.size (w.heap.size + 1) b9 B1 stop D (.slice (some ⟨gw, 0, none⟩) D.length cu) (.slice ae D.length ce) F2 rb2 L w10) := ⟨HB1.out.1.below hb3, HB1.out.2.below hb3, HX9.out, HXe.out.1.below hb3, (ho6.below hb2).low (Nat.zero_le _), (HXe.out.2.1.below hb3).low (Nat.zero_le _), HCl.out.1.below hb3, (HB0.out.trans (HM.out.bel.mono HB0.out.size)).trans (hb3.mono (HB0.out.trans (HM.out.bel.mono HB0.out.size)).size)⟩
  have hsz9 : w10.heap.size = w5.heap.size + 1 := by rw [ew10]; simp
  have HE9 := hide9 (And.intro ew10 (And.intro eb9 hsz9))
  clear hb hb2 hb3 ho6 ew10 eb9 hsz9 HX9 HB1 HXe HCl HM HHi HFl HS0 HB0
  obtain ⟨b3, eb3⟩ : ∃ b, b = w.heap.size := ⟨_, rfl⟩
  obtain ⟨b4, eb4⟩ : ∃ b, b = w.heap.size + 1 := ⟨_, rfl⟩
  have HG6 : Hid (w.heap.size ≤ b3 ∧ w.heap.size ≤ b4) := (by refine ⟨?_, ?_⟩ <;> omega)
  have HFq : Hid (AskF w b3 b4 b9 B1 stop D (.slice (some ⟨gw, 0, none⟩) D.length cu) (.slice ae D.length ce) F2 rb2 L w10) := (by rw [eb3, eb4]; exact HF0.out)
  have HE3 : Hid (b3 = w.heap.size ∧ b4 = w.heap.size + 1) := ⟨eb3, eb4⟩
  clear eb3 eb4 HF0
  have HF0 : Hid (AskF w b3 b4 b9 B1 stop D (.slice (some ⟨gw, 0, none⟩) D.length cu) (.slice ae D.length ce) F2 rb2 L w10) := HFq
  clear HFq
  obtain ⟨W11, eW11⟩ : ∃ X, X = w10.alloc (.cells [.int .i64 ((0 : Nat) : Int)].toArray 3) := ⟨_, rfl⟩
  have hb : Below w10.heap.size w10 W11 := by rw [eW11]; exact (Below.refl _ _).alloc (Nat.le_refl _) _
  obtain ⟨b10, eb15⟩ : ∃ b, b = w10.heap.size := ⟨_, rfl⟩
  have HX15 : Hid (BxC b10 [.int .i64 ((0 : Nat) : Int)] 3 W11) := by rw [eW11, eb15]; exact BxC.new _ _ _
  have HF1 : Hid (AskF w b3 b4 b9 B1 stop D (.slice (some ⟨gw, 0, none⟩) D.length cu) (.slice ae D.length ce) F2 rb2 L W11) := HF0.out.below hb
  obtain ⟨S1, eS1⟩ : ∃ S : Nat → Prop, S = fun k => k < W11.heap.size ∧ k ≠ b10 := ⟨_, rfl⟩
  have HSl1 : Hid (∀ k, S1 k → k < W11.heap.size) := fun k hk => by (rw [eS1] at hk; exact hk.1)
  have HSw : Hid (∀ k, k < w10.heap.size → S1 k) := fun k hk => by (rw [eS1]; have := hb.size; exact ⟨by omega, by omega⟩)
  have HSF1 : Hid (AskIn b3 b4 b9 B1 (.slice (some ⟨gw, 0, none⟩) D.length cu) (.slice ae D.length ce) F2 S1) := HF0.out.inn HSw.out
  have HA1 : Hid (AkS w W11 S1 b10 0 W11) := ⟨HX15.out, KeepsS.refl _ _, HSl1.out, fun hk => by (rw [eS1] at hk; exact hk.2 rfl), by rw [eb15]; exact HF0.out.bel.size, HX15.out.lt, HF1.out.bel⟩
  have HSq1 := each_seq (n0 - 1) (by omega) B1 ce S1 ae D W11 HSF1.out.e1 HSl1.out (HF1.out.e1.cell 0 _ rfl) (HF1.out.e2.lsE slCells_len (by have := HDl.out; omega) HSF1.out.e2) (by have := HDl.out; omega)
  have eW12 : W11 = w10.alloc (.cells #[.int .i64 0] 3) := eW11
  have HE12 : Hid (W11 = w10.alloc (.cells #[.int .i64 0] 3) ∧ b10 = w5.heap.size + 1) := ⟨eW12, by rw [eb15]; exact HE9.out.2.2⟩
  clear hb eS1 eW11 HF0 HX15 HSw eW12 eb15
  gi_wp2
  rw [← HE9.out.1, ← HE12.out.1, ← HE12.out.2, ← HE9.out.2.1, ← HE3.out.2, ← HE3.out.1]
  clear HE12 HE3 HE9
  refine range_of (by omega) (gf := 19) (lb := #[.pointer (some ⟨B1, 0, none⟩)]) rfl (enters_of Try.func19 (by kernel_rfl) rfl) HSq1 KeepsS.trans (keepsSK_b HSl1.out) (Below.refl _ _) (fun _ => rfl)
    (fun k W => AkS w W11 S1 b10 k W) (fun c k W => c = .exit 0 ∧ ∃ m, k = m + 1 ∧ (m : Int) = stop ∧ m < D.length ∧ AkS w W11 S1 b10 m W)
    (fun k A B row h1 hg hr => h1.grown hg hr) (fun c k A B row ⟨h1, m, h2, h3, h4, h5⟩ hg hr => ⟨h1, m, h2, h3, h4, h5.grown hg hr⟩) HA1.out
    (fun x a' W => ∃ Bx, W11.heap.size ≤ Bx ∧ BxC Bx (slCells x) 36 W ∧ ∃ u : Nat → Value, a' = { tmps := #[u 0, u 1, u 2, .pointer (some ⟨b3, 0, none⟩), .pointer (some ⟨b4, 0, none⟩), u 5, u 6, u 7, u 8, .pointer (some ⟨b9, 0, none⟩), .pointer (some ⟨b10, 0, none⟩), .pointer (some ⟨Bx, 0, none⟩), u 12, u 13, u 14, u 15, u 16, u 17, u 18, u 19, u 20, u 21, u 22, u 23, u 24, u 25, u 26, u 27, u 28, u 29, u 30, u 31, u 32, u 33, u 34, u 35, u 36, u 37, u 38, u 39, u 40, u 41, u 42, u 43, u 44, u 45, u 46, u 47, u 48, u 49, u 50, u 51, u 52, u 53, u 54, u 55, u 56, u 57, u 58, u 59, u 60, u 61, u 62, u 63, u 64, u 65, u 66, u 67, u 68, u 69, u 70, u 71, u 72, u 73, u 74, u 75, u 76, u 77, u 78, u 79, u 80, u 81, u 82, u 83, u 84, u 85, u 86, u 87, u 88, u 89, u 90, u 91, u 92, u 93, u 94], defers := [] })
    (fun x a' u A B row ⟨Bx, h1, h2, h5⟩ hg hr => ⟨Bx, h1, row_own h2 hg (fun r e => (hr r e).2), h5⟩)
    ?assign1 ?body1 ?done1 ?stop1
  case assign1 =>
    rintro l k hk Wa K hA hK
    obtain ⟨x, hx⟩ : ∃ x, x = D[k] := ⟨_, rfl⟩
    rw [← hx] at hK ⊢
    clear hx
    have hb : Below Wa.heap.size Wa (Wa.alloc (.cells (slCells x).toArray 36)) := (Below.refl _ _).alloc (Nat.le_refl _) _
    have HFin : Hid (∀ a', (∃ u : Nat → Value, a' = { tmps := #[u 0, u 1, u 2, .pointer (some ⟨b3, 0, none⟩), .pointer (some ⟨b4, 0, none⟩), u 5, u 6, u 7, u 8, .pointer (some ⟨b9, 0, none⟩), .pointer (some ⟨b10, 0, none⟩), .pointer (some ⟨Wa.heap.size, 0, none⟩), u 12, u 13, u 14, u 15, u 16, u 17, u 18, u 19, u 20, u 21, u 22, u 23, u 24, u 25, u 26, u 27, u 28, u 29, u 30, u 31, u 32, u 33, u 34, u 35, u 36, u 37, u 38, u 39, u 40, u 41, u 42, u 43, u 44, u 45, u 46, u 47, u 48, u 49, u 50, u 51, u 52, u 53, u 54, u 55, u 56, u 57, u 58, u 59, u 60, u 61, u 62, u 63, u 64, u 65, u 66, u 67, u 68, u 69, u 70, u 71, u 72, u 73, u 74, u 75, u 76, u 77, u 78, u 79, u 80, u 81, u 82, u 83, u 84, u 85, u 86, u 87, u 88, u 89, u 90, u 91, u 92, u 93, u 94], defers := [] }) → K a' (Wa.alloc (.cells (slCells x).toArray 36))) := fun a' e5 => hK a' (Wa.alloc (.cells (slCells x).toArray 36)) (keepsFrom_below hb) (KeepsS.of_below hb (fun j hj => Nat.lt_of_lt_of_le (HSl1.out j hj) hA.size)) (hA.below hb) ⟨Wa.heap.size, hA.size, BxC.new _ _ _, e5⟩
    have HFin2 : Hid (∀ a' : Act, a' = { tmps := #[a'.tmps.getD 0 undef, a'.tmps.getD 1 undef, a'.tmps.getD 2 undef, .pointer (some ⟨b3, 0, none⟩), .pointer (some ⟨b4, 0, none⟩), a'.tmps.getD 5 undef, a'.tmps.getD 6 undef, a'.tmps.getD 7 undef, a'.tmps.getD 8 undef, .pointer (some ⟨b9, 0, none⟩), .pointer (some ⟨b10, 0, none⟩), .pointer (some ⟨Wa.heap.size, 0, none⟩), a'.tmps.getD 12 undef, a'.tmps.getD 13 undef, a'.tmps.getD 14 undef, a'.tmps.getD 15 undef, a'.tmps.getD 16 undef, a'.tmps.getD 17 undef, a'.tmps.getD 18 undef, a'.tmps.getD 19 undef, a'.tmps.getD 20 undef, a'.tmps.getD 21 undef, a'.tmps.getD 22 undef, a'.tmps.getD 23 undef, a'.tmps.getD 24 undef, a'.tmps.getD 25 undef, a'.tmps.getD 26 undef, a'.tmps.getD 27 undef, a'.tmps.getD 28 undef, a'.tmps.getD 29 undef, a'.tmps.getD 30 undef, a'.tmps.getD 31 undef, a'.tmps.getD 32 undef, a'.tmps.getD 33 undef, a'.tmps.getD 34 undef, a'.tmps.getD 35 undef, a'.tmps.getD 36 undef, a'.tmps.getD 37 undef, a'.tmps.getD 38 undef, a'.tmps.getD 39 undef, a'.tmps.getD 40 undef, a'.tmps.getD 41 undef, a'.tmps.getD 42 undef, a'.tmps.getD 43 undef, a'.tmps.getD 44 undef, a'.tmps.getD 45 undef, a'.tmps.getD 46 undef, a'.tmps.getD 47 undef, a'.tmps.getD 48 undef, a'.tmps.getD 49 undef, a'.tmps.getD 50 undef, a'.tmps.getD 51 undef, a'.tmps.getD 52 undef, a'.tmps.getD 53 undef, a'.tmps.getD 54 undef, a'.tmps.getD 55 undef, a'.tmps.getD 56 undef, a'.tmps.getD 57 undef, a'.tmps.getD 58 undef, a'.tmps.getD 59 undef, a'.tmps.getD 60 undef, a'.tmps.getD 61 undef, a'.tmps.getD 62 undef, a'.tmps.getD 63 undef, a'.tmps.getD 64 undef, a'.tmps.getD 65 undef, a'.tmps.getD 66 undef, a'.tmps.getD 67 undef, a'.tmps.getD 68 undef, a'.tmps.getD 69 undef, a'.tmps.getD 70 undef, a'.tmps.getD 71 undef, a'.tmps.getD 72 undef, a'.tmps.getD 73 undef, a'.tmps.getD 74 undef, a'.tmps.getD 75 undef, a'.tmps.getD 76 undef, a'.tmps.getD 77 undef, a'.tmps.getD 78 undef, a'.tmps.getD 79 undef, a'.tmps.getD 80 undef, a'.tmps.getD 81 undef, a'.tmps.getD 82 undef, a'.tmps.getD 83 undef, a'.tmps.getD 84 undef, a'.tmps.getD 85 undef, a'.tmps.getD 86 undef, a'.tmps.getD 87 undef, a'.tmps.getD 88 undef, a'.tmps.getD 89 undef, a'.tmps.getD 90 undef, a'.tmps.getD 91 undef, a'.tmps.getD 92 undef, a'.tmps.getD 93 undef, a'.tmps.getD 94 undef], defers := [] } → K a' (Wa.alloc (.cells (slCells x).toArray 36))) := fun a' e => HFin.out a' ⟨fun k => a'.tmps.getD k undef, e⟩
    clear hK hb hA HFin
    simp only [encL]
    gi_wp2
    exact HFin2.out _ rfl
  case body1 =>
    rintro l k hk a' Wb hlD hA ⟨Bx, hx1, hx2, u, rfl⟩
    obtain ⟨x, hx⟩ : ∃ x, x = D[k] := ⟨_, rfl⟩
    rw [← hx] at hx2
    have HA : Hid (AkS w W11 S1 b10 k Wb) := hA
    have HFb : Hid (AskF w b3 b4 b9 B1 stop D (.slice (some ⟨gw, 0, none⟩) D.length cu) (.slice ae D.length ce) F2 rb2 L Wb) := HF1.out.keep hA.kp HSF1.out hA.bel
    obtain ⟨bW, oW, cW, evW, hrow⟩ := HFb.out.row HSF1.out HDl.out hk
    rw [← hx] at hrow
    have HxB : Hid (BxC Bx (slCells x) 36 Wb) := hx2
    have hDl := HDl.out
    have k1 : (k : Int) < (D.length : Int) := by omega
    have k0 : (0 : Int) ≤ (k : Int) := by omega
    have HW0 : Hid (∀ X, KeepsS S1 Wb X → X.cell? ⟨bW, oW + k * 4, none⟩ = some (.int .i64 x.ts.1) ∧ X.cell? ⟨bW, oW + k * 4 + 1, none⟩ = some (.int .i64 x.ts.2) ∧ X.cell? ⟨bW, oW + k * 4 + 2, none⟩ = some (.int .i64 x.af.1) ∧ X.cell? ⟨bW, oW + k * 4 + 3, none⟩ = some (.int .i64 x.af.2)) := hrow
    clear hx hA hx2 hrow
    have HKd : Hid (KeepsFrom W11.heap.size Wb Wb.drew ∧ KeepsS S1 Wb Wb.drew) := ⟨keepsFrom_below (Below.refl _ _).drew, KeepsS.of_below (Below.refl _ _).drew (fun j hj => Nat.lt_of_lt_of_le (HSl1.out j hj) HA.out.size)⟩
    have HW13 : Hid (BxC b9 [.slice (some ⟨bW, oW, none⟩) D.length cW] 22 Wb) := (by have h9 := HFb.out.b9; rw [evW] at h9; exact h9)
    clear evW
    have c3 := HFb.out.b3.cell 0 _ rfl
    have cn := HA.out.box.cell 0 _ rfl
    by_cases hst : (k : Int) = stop
    · have q : ((k : Int) == stop) = true := by simp [hst]
      have HSt : Hid ((k : Int) = stop) := hst
      have hkD : k < D.length := hk
      clear hst
      gi_wp2
      exact ⟨KeepsFrom.refl _ _, rfl, k, rfl, HSt.out, hkD, HA.out⟩
    · have q : ((k : Int) == stop) = false := by simpa using hst
      clear hst
      gi_wp2
      clear c3 cn q
      refine region_round_held (S := fun W' => AkS w W11 S1 b10 k W' ∧ KeepsS S1 Wb W' ∧ BxC Bx (slCells x) 36 W' ∧ BxC b9 [.slice (some ⟨bW, oW, none⟩) D.length cW] 22 W') l (by kernel_rfl) (by kernel_rfl) (lets_then (lets_then (lets_block lets_round))) ⟨HA.out.below (Below.refl _ _).drew, HKd.out.2, HxB.out.below (Below.refl _ _).drew, HW13.out.below (Below.refl _ _).drew⟩ (fun hHeld => ?_)
      obtain ⟨Ur114u0, eW⟩ : ∃ X, X = Wb.drew := ⟨_, rfl⟩
      have hb : Below Wb.heap.size Wb Ur114u0 := by rw [eW]; exact (Below.refl _ _).drew
      have HeD : Hid (Ur114u0 = Wb.drew) := eW
      have HAd : Hid (AkS w W11 S1 b10 k Ur114u0) := (by rw [eW]; exact HA.out.below (Below.refl _ _).drew)
      rw [← eW] at hHeld ⊢
      clear eW hb
      refine tkW 0 (some 40) (v := ?_) ?_ hHeld ?_
      rotate_left
      · (intro ww hSw; (try dsimp only at hSw); have n0 := hSw.1.box.cell 0 _ rfl; go_simp; try with_reducible rfl)
      refine tkW 1 (some 41) (v := ?_) ?_ hHeld ?_
      rotate_left
      · (intro ww hSw; (try dsimp only at hSw); have s0 := hSw.2.2.2.cell 0 _ rfl; go_simp; try with_reducible rfl)
      refine tkW 2 (some 42) (v := ?_) ?_ hHeld ?_
      rotate_left
      · (intro ww hSw; (try dsimp only at hSw); go_simp; try with_reducible rfl)
      refine tkW 3 (some 43) (v := .bool false) ?_ hHeld ?_
      · (intro ww hSw; (try dsimp only at hSw); go_simp; try omega)
      refine tkW 4 (some 44) (v := ?_) ?_ hHeld ?_
      rotate_left
      · (intro ww _; go_simp; try with_reducible rfl)
      refine tkW 5 (some 45) (v := ?_) ?_ hHeld ?_
      rotate_left
      · (intro ww hSw; (try dsimp only at hSw); have v0 := hSw.2.2.1.cell 0 _ rfl; have v1 := hSw.2.2.1.cell 1 _ rfl; have v2 := hSw.2.2.1.cell 2 _ rfl; have v3 := hSw.2.2.1.cell 3 _ rfl; go_simp; try with_reducible rfl)
      refine tkW 6 (some 46) (v := ?_) ?_ hHeld ?_
      rotate_left
      · (intro ww hSw; (try dsimp only at hSw); have s0 := hSw.2.2.2.cell 0 _ rfl; go_simp; try with_reducible rfl)
      refine tkW 7 (some 47) (v := ?_) ?_ hHeld ?_
      rotate_left
      · (intro ww hSw; (try dsimp only at hSw); have n0 := hSw.1.box.cell 0 _ rfl; go_simp; try with_reducible rfl)
      refine tkW 8 (some 48) (v := ?_) ?_ hHeld ?_
      rotate_left
      · (intro ww hSw; (try dsimp only at hSw); go_simp; try with_reducible rfl)
      refine tkW 9 (some 49) (v := ?_) ?_ hHeld ?_
      rotate_left
      · (intro ww hSw; (try dsimp only at hSw); have y0 := (HW0.out ww hSw.2.1).1; have y1 := (HW0.out ww hSw.2.1).2.1; have y2 := (HW0.out ww hSw.2.1).2.2.1; have y3 := (HW0.out ww hSw.2.1).2.2.2; go_simp; try with_reducible rfl)
      refine tkW 10 (some 50) (v := .bool false) ?_ hHeld ?_
      · (intro ww hSw; (try dsimp only at hSw); exact execNeqS (p := x) rfl rfl ww)
      refine tkW 11 (some 51) (v := ?_) ?_ hHeld ?_
      rotate_left
      · (intro ww _; go_simp; try with_reducible rfl)
      refine wpAnyH_done (by kernel_rfl) ?_ _
      clear hHeld
      have cn := HAd.out.box.cell 0 _ rfl
      have fn := HAd.out.box.free 0
      have n1 : IntKind.i64.wrap ((k : Int) + 1) = (k : Int) + 1 := by rw [IntKind.wrap_i64]; omega
      gi_wp2
      have hst := HAd.out.set (k + 1)
      exact ⟨HKd.out.1.trans (by rw [← HeD.out]; exact keepsFrom_set _ _ _), HKd.out.2.trans (by rw [← HeD.out]; exact hst.2), hst.1⟩
  case done1 =>
    rintro Dd Wd hDd hA hDf
    obtain ⟨nn, enn⟩ : ∃ n, n = D.length := ⟨_, rfl⟩
    have HNN : Hid (nn ≤ D.length ∧ (nn = D.length ∨ (nn : Int) = stop)) := ⟨by omega, .inl enn⟩
    rw [← enn] at hA
    clear enn
    have HFd : Hid (AskF w b3 b4 b9 B1 stop D (.slice (some ⟨gw, 0, none⟩) D.length cu) (.slice ae D.length ce) F2 rb2 L Wd) := HF1.out.keep hA.kp HSF1.out hA.bel
    have HDf0 : Hid (Wd.heap[Dd]? = some (.deferred (some []))) := hDf
    have HAd0 : Hid (AkS w W11 S1 b10 nn Wd) := hA
    clear hA hDf
    obtain ⟨W18, eW18⟩ : ∃ X, X = Wd.alloc (.cells [.int .i64 ((0 : Nat) : Int)].toArray 3) := ⟨_, rfl⟩
    have hb : Below Wd.heap.size Wd W18 := by rw [eW18]; exact (Below.refl _ _).alloc (Nat.le_refl _) _
    obtain ⟨b12, eb17⟩ : ∃ b, b = Wd.heap.size := ⟨_, rfl⟩
    have HX17 : Hid (BxC b12 [.int .i64 ((0 : Nat) : Int)] 3 W18) := by rw [eW18, eb17]; exact BxC.new _ _ _
    have HF2 : Hid (AskF w b3 b4 b9 B1 stop D (.slice (some ⟨gw, 0, none⟩) D.length cu) (.slice ae D.length ce) F2 rb2 L W18) := HFd.out.below hb
    have HN15 : Hid (BxC b10 [.int .i64 (nn : Int)] 3 W18) := HAd0.out.box.below hb
    have HDf : Hid (W18.heap[Dd]? = some (.deferred (some []))) := (hb.block _ (row_lt HDf0.out)).trans HDf0.out
    obtain ⟨S2, eS2⟩ : ∃ S : Nat → Prop, S = fun k => k < W18.heap.size ∧ k ≠ b12 := ⟨_, rfl⟩
    have HSl2 : Hid (∀ k, S2 k → k < W18.heap.size) := fun k hk => by (rw [eS2] at hk; exact hk.1)
    have HSw : Hid (∀ k, k < Wd.heap.size → S2 k) := fun k hk => by (rw [eS2]; have := hb.size; exact ⟨by omega, by omega⟩)
    have HSF2 : Hid (AskIn b3 b4 b9 B1 (.slice (some ⟨gw, 0, none⟩) D.length cu) (.slice ae D.length ce) F2 S2) := HFd.out.inn HSw.out
    have HSD : Hid (S2 Dd) := HSw.out _ (row_lt HDf0.out)
    have HS15 : Hid (S2 b10) := HSw.out _ HAd0.out.box.lt
    have HA2 : Hid (AkS w W18 S2 b12 0 W18) := ⟨HX17.out, KeepsS.refl _ _, HSl2.out, fun hk => by (rw [eS2] at hk; exact hk.2 rfl), by rw [eb17]; exact HFd.out.bel.size, HX17.out.lt, HF2.out.bel⟩
    have HSq2 := each_seq (n0 - 1) (by omega) B1 ce S2 ae D W18 HSF2.out.e1 HSl2.out (HF2.out.e1.cell 0 _ rfl) (HF2.out.e2.lsE slCells_len (by have := HDl.out; omega) HSF2.out.e2) (by have := HDl.out; omega)
    have eW19 : W18 = Wd.alloc (.cells #[.int .i64 0] 3) := eW18
    have HE19 : Hid (W18 = Wd.alloc (.cells #[.int .i64 0] 3) ∧ b12 = Wd.heap.size) := ⟨eW19, eb17⟩
    have HLo2 : Hid (W11.heap.size ≤ Dd ∧ Wd.heap.size ≤ W18.heap.size ∧ Dd < Wd.heap.size) := ⟨hDd, hb.size, row_lt HDf0.out⟩
    clear hb eS2 eW18 HFd HX17 HSw HAd0 HDf0 eW19 eb17
    gi_wp2
    rw [← HE19.out.1, ← HE19.out.2]
    clear HE19
    refine range_of (by omega) (gf := 19) (lb := #[.pointer (some ⟨B1, 0, none⟩)]) rfl (enters_of Try.func19 (by kernel_rfl) rfl) HSq2 KeepsS.trans (keepsSK_b HSl2.out) (Below.refl _ _) (fun _ => rfl)
      (fun k W => AkS w W18 S2 b12 k W) (fun _ _ _ => False)
      (fun k A B row h1 hg hr => h1.grown hg hr) (fun c k A B row hf _ _ => hf) HA2.out
      (fun x a' W => ∃ Bx, W18.heap.size ≤ Bx ∧ BxC Bx (slCells x) 36 W ∧ ∃ u : Nat → Value, a' = { tmps := #[u 0, u 1, u 2, u 3, .pointer (some ⟨b4, 0, none⟩), u 5, u 6, u 7, u 8, .pointer (some ⟨b9, 0, none⟩), u 10, u 11, .pointer (some ⟨b12, 0, none⟩), .pointer (some ⟨Bx, 0, none⟩), u 14, u 15, u 16, u 17, u 18, u 19, u 20, u 21, u 22, u 23, u 24, u 25, u 26, u 27, u 28, u 29, u 30, u 31, u 32, u 33, u 34, u 35, u 36, u 37, u 38, u 39, u 40, u 41, u 42, u 43, u 44, u 45, u 46, u 47, u 48, u 49, u 50, u 51, u 52, u 53, u 54, u 55, u 56, u 57, u 58, u 59, u 60, u 61, u 62, u 63, u 64, u 65, u 66, u 67, u 68, u 69, u 70, u 71, u 72, u 73, u 74, u 75, u 76, u 77, u 78, u 79, u 80, u 81, u 82, u 83, u 84, u 85, u 86, u 87, u 88, u 89, u 90, u 91, u 92, u 93, u 94], defers := [] })
      (fun x a' u A B row ⟨Bx, h1, h2, h5⟩ hg hr => ⟨Bx, h1, row_own h2 hg (fun r e => (hr r e).2), h5⟩)
      ?assign2 ?body2 ?done2 ?stop2
    case assign2 =>
      rintro l k hk Wa K hA hK
      obtain ⟨x, hx⟩ : ∃ x, x = D[k] := ⟨_, rfl⟩
      rw [← hx] at hK ⊢
      clear hx
      have hb : Below Wa.heap.size Wa (Wa.alloc (.cells (slCells x).toArray 36)) := (Below.refl _ _).alloc (Nat.le_refl _) _
      have HFin : Hid (∀ a', (∃ u : Nat → Value, a' = { tmps := #[u 0, u 1, u 2, u 3, .pointer (some ⟨b4, 0, none⟩), u 5, u 6, u 7, u 8, .pointer (some ⟨b9, 0, none⟩), u 10, u 11, .pointer (some ⟨b12, 0, none⟩), .pointer (some ⟨Wa.heap.size, 0, none⟩), u 14, u 15, u 16, u 17, u 18, u 19, u 20, u 21, u 22, u 23, u 24, u 25, u 26, u 27, u 28, u 29, u 30, u 31, u 32, u 33, u 34, u 35, u 36, u 37, u 38, u 39, u 40, u 41, u 42, u 43, u 44, u 45, u 46, u 47, u 48, u 49, u 50, u 51, u 52, u 53, u 54, u 55, u 56, u 57, u 58, u 59, u 60, u 61, u 62, u 63, u 64, u 65, u 66, u 67, u 68, u 69, u 70, u 71, u 72, u 73, u 74, u 75, u 76, u 77, u 78, u 79, u 80, u 81, u 82, u 83, u 84, u 85, u 86, u 87, u 88, u 89, u 90, u 91, u 92, u 93, u 94], defers := [] }) → K a' (Wa.alloc (.cells (slCells x).toArray 36))) := fun a' e5 => hK a' (Wa.alloc (.cells (slCells x).toArray 36)) (keepsFrom_below hb) (KeepsS.of_below hb (fun j hj => Nat.lt_of_lt_of_le (HSl2.out j hj) hA.size)) (hA.below hb) ⟨Wa.heap.size, hA.size, BxC.new _ _ _, e5⟩
      have HFin2 : Hid (∀ a' : Act, a' = { tmps := #[a'.tmps.getD 0 undef, a'.tmps.getD 1 undef, a'.tmps.getD 2 undef, a'.tmps.getD 3 undef, .pointer (some ⟨b4, 0, none⟩), a'.tmps.getD 5 undef, a'.tmps.getD 6 undef, a'.tmps.getD 7 undef, a'.tmps.getD 8 undef, .pointer (some ⟨b9, 0, none⟩), a'.tmps.getD 10 undef, a'.tmps.getD 11 undef, .pointer (some ⟨b12, 0, none⟩), .pointer (some ⟨Wa.heap.size, 0, none⟩), a'.tmps.getD 14 undef, a'.tmps.getD 15 undef, a'.tmps.getD 16 undef, a'.tmps.getD 17 undef, a'.tmps.getD 18 undef, a'.tmps.getD 19 undef, a'.tmps.getD 20 undef, a'.tmps.getD 21 undef, a'.tmps.getD 22 undef, a'.tmps.getD 23 undef, a'.tmps.getD 24 undef, a'.tmps.getD 25 undef, a'.tmps.getD 26 undef, a'.tmps.getD 27 undef, a'.tmps.getD 28 undef, a'.tmps.getD 29 undef, a'.tmps.getD 30 undef, a'.tmps.getD 31 undef, a'.tmps.getD 32 undef, a'.tmps.getD 33 undef, a'.tmps.getD 34 undef, a'.tmps.getD 35 undef, a'.tmps.getD 36 undef, a'.tmps.getD 37 undef, a'.tmps.getD 38 undef, a'.tmps.getD 39 undef, a'.tmps.getD 40 undef, a'.tmps.getD 41 undef, a'.tmps.getD 42 undef, a'.tmps.getD 43 undef, a'.tmps.getD 44 undef, a'.tmps.getD 45 undef, a'.tmps.getD 46 undef, a'.tmps.getD 47 undef, a'.tmps.getD 48 undef, a'.tmps.getD 49 undef, a'.tmps.getD 50 undef, a'.tmps.getD 51 undef, a'.tmps.getD 52 undef, a'.tmps.getD 53 undef, a'.tmps.getD 54 undef, a'.tmps.getD 55 undef, a'.tmps.getD 56 undef, a'.tmps.getD 57 undef, a'.tmps.getD 58 undef, a'.tmps.getD 59 undef, a'.tmps.getD 60 undef, a'.tmps.getD 61 undef, a'.tmps.getD 62 undef, a'.tmps.getD 63 undef, a'.tmps.getD 64 undef, a'.tmps.getD 65 undef, a'.tmps.getD 66 undef, a'.tmps.getD 67 undef, a'.tmps.getD 68 undef, a'.tmps.getD 69 undef, a'.tmps.getD 70 undef, a'.tmps.getD 71 undef, a'.tmps.getD 72 undef, a'.tmps.getD 73 undef, a'.tmps.getD 74 undef, a'.tmps.getD 75 undef, a'.tmps.getD 76 undef, a'.tmps.getD 77 undef, a'.tmps.getD 78 undef, a'.tmps.getD 79 undef, a'.tmps.getD 80 undef, a'.tmps.getD 81 undef, a'.tmps.getD 82 undef, a'.tmps.getD 83 undef, a'.tmps.getD 84 undef, a'.tmps.getD 85 undef, a'.tmps.getD 86 undef, a'.tmps.getD 87 undef, a'.tmps.getD 88 undef, a'.tmps.getD 89 undef, a'.tmps.getD 90 undef, a'.tmps.getD 91 undef, a'.tmps.getD 92 undef, a'.tmps.getD 93 undef, a'.tmps.getD 94 undef], defers := [] } → K a' (Wa.alloc (.cells (slCells x).toArray 36))) := fun a' e => HFin.out a' ⟨fun k => a'.tmps.getD k undef, e⟩
      clear hK hb hA HFin
      simp only [encL]
      gi_wp2
      exact HFin2.out _ rfl
    case body2 =>
      rintro l k hk a' Wb hlD hA ⟨Bx, hx1, hx2, u, rfl⟩
      obtain ⟨x, hx⟩ : ∃ x, x = D[k] := ⟨_, rfl⟩
      rw [← hx] at hx2
      have HA : Hid (AkS w W18 S2 b12 k Wb) := hA
      have HFb : Hid (AskF w b3 b4 b9 B1 stop D (.slice (some ⟨gw, 0, none⟩) D.length cu) (.slice ae D.length ce) F2 rb2 L Wb) := HF2.out.keep hA.kp HSF2.out hA.bel
      obtain ⟨bW, oW, cW, evW, hrow⟩ := HFb.out.row HSF2.out HDl.out hk
      rw [← hx] at hrow
      have HxB : Hid (BxC Bx (slCells x) 36 Wb) := hx2
      have hDl := HDl.out
      have k1 : (k : Int) < (D.length : Int) := by omega
      have k0 : (0 : Int) ≤ (k : Int) := by omega
      have HW0 : Hid (∀ X, KeepsS S2 Wb X → X.cell? ⟨bW, oW + k * 4, none⟩ = some (.int .i64 x.ts.1) ∧ X.cell? ⟨bW, oW + k * 4 + 1, none⟩ = some (.int .i64 x.ts.2) ∧ X.cell? ⟨bW, oW + k * 4 + 2, none⟩ = some (.int .i64 x.af.1) ∧ X.cell? ⟨bW, oW + k * 4 + 3, none⟩ = some (.int .i64 x.af.2)) := hrow
      clear hx hA hx2 hrow
      have HKd : Hid (KeepsFrom W18.heap.size Wb Wb.drew ∧ KeepsS S2 Wb Wb.drew) := ⟨keepsFrom_below (Below.refl _ _).drew, KeepsS.of_below (Below.refl _ _).drew (fun j hj => Nat.lt_of_lt_of_le (HSl2.out j hj) HA.out.size)⟩
      have HW13 : Hid (BxC b9 [.slice (some ⟨bW, oW, none⟩) D.length cW] 22 Wb) := (by have h9 := HFb.out.b9; rw [evW] at h9; exact h9)
      clear evW
      gi_wp2
      refine region_round_held (S := fun W' => AkS w W18 S2 b12 k W' ∧ KeepsS S2 Wb W' ∧ BxC Bx (slCells x) 36 W' ∧ BxC b9 [.slice (some ⟨bW, oW, none⟩) D.length cW] 22 W') l (by kernel_rfl) (by kernel_rfl) (lets_then (lets_then (lets_block lets_round))) ⟨HA.out.below (Below.refl _ _).drew, HKd.out.2, HxB.out.below (Below.refl _ _).drew, HW13.out.below (Below.refl _ _).drew⟩ (fun hHeld => ?_)
      obtain ⟨Ur215u0, eW⟩ : ∃ X, X = Wb.drew := ⟨_, rfl⟩
      have hb : Below Wb.heap.size Wb Ur215u0 := by rw [eW]; exact (Below.refl _ _).drew
      have HeD : Hid (Ur215u0 = Wb.drew) := eW
      have HAd : Hid (AkS w W18 S2 b12 k Ur215u0) := (by rw [eW]; exact HA.out.below (Below.refl _ _).drew)
      rw [← eW] at hHeld ⊢
      clear eW hb
      refine tkW 0 (some 56) (v := ?_) ?_ hHeld ?_
      rotate_left
      · (intro ww hSw; (try dsimp only at hSw); have n0 := hSw.1.box.cell 0 _ rfl; go_simp; try with_reducible rfl)
      refine tkW 1 (some 57) (v := ?_) ?_ hHeld ?_
      rotate_left
      · (intro ww hSw; (try dsimp only at hSw); have s0 := hSw.2.2.2.cell 0 _ rfl; go_simp; try with_reducible rfl)
      refine tkW 2 (some 58) (v := ?_) ?_ hHeld ?_
      rotate_left
      · (intro ww hSw; (try dsimp only at hSw); go_simp; try with_reducible rfl)
      refine tkW 3 (some 59) (v := .bool false) ?_ hHeld ?_
      · (intro ww hSw; (try dsimp only at hSw); go_simp; try omega)
      refine tkW 4 (some 60) (v := ?_) ?_ hHeld ?_
      rotate_left
      · (intro ww _; go_simp; try with_reducible rfl)
      refine tkW 5 (some 61) (v := ?_) ?_ hHeld ?_
      rotate_left
      · (intro ww hSw; (try dsimp only at hSw); have v0 := hSw.2.2.1.cell 0 _ rfl; have v1 := hSw.2.2.1.cell 1 _ rfl; have v2 := hSw.2.2.1.cell 2 _ rfl; have v3 := hSw.2.2.1.cell 3 _ rfl; go_simp; try with_reducible rfl)
      refine tkW 6 (some 62) (v := ?_) ?_ hHeld ?_
      rotate_left
      · (intro ww hSw; (try dsimp only at hSw); have s0 := hSw.2.2.2.cell 0 _ rfl; go_simp; try with_reducible rfl)
      refine tkW 7 (some 63) (v := ?_) ?_ hHeld ?_
      rotate_left
      · (intro ww hSw; (try dsimp only at hSw); have n0 := hSw.1.box.cell 0 _ rfl; go_simp; try with_reducible rfl)
      refine tkW 8 (some 64) (v := ?_) ?_ hHeld ?_
      rotate_left
      · (intro ww hSw; (try dsimp only at hSw); go_simp; try with_reducible rfl)
      refine tkW 9 (some 65) (v := ?_) ?_ hHeld ?_
      rotate_left
      · (intro ww hSw; (try dsimp only at hSw); have y0 := (HW0.out ww hSw.2.1).1; have y1 := (HW0.out ww hSw.2.1).2.1; have y2 := (HW0.out ww hSw.2.1).2.2.1; have y3 := (HW0.out ww hSw.2.1).2.2.2; go_simp; try with_reducible rfl)
      refine tkW 10 (some 66) (v := .bool false) ?_ hHeld ?_
      · (intro ww hSw; (try dsimp only at hSw); exact execNeqS (p := x) rfl rfl ww)
      refine tkW 11 (some 67) (v := ?_) ?_ hHeld ?_
      rotate_left
      · (intro ww _; go_simp; try with_reducible rfl)
      refine wpAnyH_done (by kernel_rfl) ?_ _
      clear hHeld
      have cn := HAd.out.box.cell 0 _ rfl
      have fn := HAd.out.box.free 0
      have n1 : IntKind.i64.wrap ((k : Int) + 1) = (k : Int) + 1 := by rw [IntKind.wrap_i64]; omega
      gi_wp2
      have hst := HAd.out.set (k + 1)
      exact ⟨HKd.out.1.trans (by rw [← HeD.out]; exact keepsFrom_set _ _ _), HKd.out.2.trans (by rw [← HeD.out]; exact hst.2), hst.1⟩
    case done2 =>
      rintro De We hDe hA2 hDf2
      have HFe : Hid (AskF w b3 b4 b9 B1 stop D (.slice (some ⟨gw, 0, none⟩) D.length cu) (.slice ae D.length ce) F2 rb2 L We) := HF2.out.keep hA2.kp HSF2.out hA2.bel
      have HDe2 : Hid (We.heap[De]? = some (.deferred (some []))) := hDf2
      have HDe1 : Hid (We.heap[Dd]? = some (.deferred (some []))) := (hA2.kp.2 _ HSD.out).trans HDf.out
      have HN15 : Hid (BxC b10 [.int .i64 (nn : Int)] 3 We) := HN15.out.keep (hA2.kp.2 _ HS15.out)
      have HA9 : Hid (AkS w W18 S2 b12 D.length We) := hA2
      have hDl := HDl.out
      have HDe : Hid (W18.heap.size ≤ De) := hDe
      clear hA2 hDf2
      gi_wp2_with fail
      refine wpIn_wide.2 ?_
      by_cases hnn : nn = D.length
      · have Hq1 : Hid (nn = D.length) := hnn
        clear hnn
        refine wp_region_held_drew (S := fun W' => BxC b3 [.int .i64 stop] 3 W' ∧ BxC b9 [(.slice (some ⟨gw, 0, none⟩) D.length cu)] 22 W' ∧ BxC b12 [.int .i64 (D.length : Int)] 3 W' ∧ BxC b10 [.int .i64 (nn : Int)] 3 W') (by kernel_rfl) ⟨HFe.out.b3.below (Below.refl _ _).drew, HFe.out.b9.below (Below.refl _ _).drew, HA9.out.box.below (Below.refl _ _).drew, HN15.out.below (Below.refl _ _).drew⟩ (fun hHeld => ?_)
        obtain ⟨Ue16u0, eW⟩ : ∃ X, X = We.drew := ⟨_, rfl⟩
        have hb : Below We.heap.size We Ue16u0 := by rw [eW]; exact (Below.refl _ _).drew
        replace HFe : Hid (AskF w b3 b4 b9 B1 stop D (.slice (some ⟨gw, 0, none⟩) D.length cu) (.slice ae D.length ce) F2 rb2 L Ue16u0) := HFe.out.below hb
        replace HDe2 : Hid (Ue16u0.heap[De]? = some (.deferred (some []))) := (hb.block _ (row_lt HDe2.out)).trans HDe2.out
        replace HDe1 : Hid (Ue16u0.heap[Dd]? = some (.deferred (some []))) := (hb.block _ (row_lt HDe1.out)).trans HDe1.out
        rw [← eW] at hHeld ⊢
        clear eW hb
        refine tkW 0 (some 70) (v := ?_) ?_ hHeld ?_
        rotate_left
        · (intro ww hSw; (try dsimp only at hSw); have n0 := hSw.2.2.1.cell 0 _ rfl; go_simp; try with_reducible rfl)
        refine tkW 1 (some 71) (v := ?_) ?_ hHeld ?_
        rotate_left
        · (intro ww hSw; (try dsimp only at hSw); have s0 := hSw.2.1.cell 0 _ rfl; go_simp; try with_reducible rfl)
        refine tkW 2 (some 72) (v := ?_) ?_ hHeld ?_
        rotate_left
        · (intro ww hSw; (try dsimp only at hSw); go_simp; try with_reducible rfl)
        refine tkW 3 (some 73) (v := .bool true) ?_ hHeld ?_
        · (intro ww hSw; (try dsimp only at hSw); go_simp; try simp)
        refine tkW 4 (some 74) (v := ?_) ?_ hHeld ?_
        rotate_left
        · (intro ww _; go_simp; try with_reducible rfl)
        refine tkW 5 (some 75) (v := ?_) ?_ hHeld ?_
        rotate_left
        · (intro ww hSw; (try dsimp only at hSw); have m0 := hSw.2.2.2.cell 0 _ rfl; go_simp; try with_reducible rfl)
        refine tkW 6 (some 76) (v := ?_) ?_ hHeld ?_
        rotate_left
        · (intro ww hSw; (try dsimp only at hSw); have s0 := hSw.2.1.cell 0 _ rfl; go_simp; try with_reducible rfl)
        refine tkW 7 (some 77) (v := ?_) ?_ hHeld ?_
        rotate_left
        · (intro ww hSw; (try dsimp only at hSw); go_simp; try with_reducible rfl)
        refine tkW 8 (some 78) (v := .bool true) ?_ hHeld ?_
        · (intro ww hSw; (try dsimp only at hSw); go_simp; (try (have q1 := Hq1.out; omega)))
        refine tkW 9 (some 79) (v := ?_) ?_ hHeld ?_
        rotate_left
        · (intro ww _; go_simp; try with_reducible rfl)
        refine tkU 10 (some 80) hHeld ?_
        refine tkU 11 (some 81) hHeld ?_
        refine tkU 12 (some 82) hHeld ?_
        refine tkW 13 (some 83) (v := ?_) ?_ hHeld ?_
        rotate_left
        · (intro ww _; go_simp; try with_reducible rfl)
        refine tkW 14 (some 84) (v := ?_) ?_ hHeld ?_
        rotate_left
        · (intro ww _; go_simp; try with_reducible rfl)
        refine tkW 15 (some 85) (v := ?_) ?_ hHeld ?_
        rotate_left
        · (intro ww _; go_simp; try with_reducible rfl)
        refine tkW 16 (some 86) (v := ?_) ?_ hHeld ?_
        rotate_left
        · (intro ww _; go_simp; try with_reducible rfl)
        refine tkW 18 (some 88) (v := ?_) ?_ hHeld ?_
        rotate_left
        · (intro ww hSw; (try dsimp only at hSw); have s0 := hSw.2.1.cell 0 _ rfl; go_simp; try with_reducible rfl)
        refine wpAnyH_ready (rs := [17]) (by kernel_rfl) (by simp) ?_
        refine AllReadyH.cons (o := ⟨some 87, _, _, _, _, _⟩) rfl (fun K hK => ?_) AllReadyH.nil
        go_simp
        refine (order_any F2 _ L _ HFe.out.cl.rv).mono ?_
        rintro e Ue16u1 ⟨u9, rfl, ho, hb⟩
        obtain ⟨oa, oc, eo⟩ := ho.form
        subst eo
        obtain ⟨ob, eob⟩ : ∃ x, x = Ue16u0.heap.size := ⟨_, rfl⟩
        rw [← eob] at ho
        have HO : Hid (OwnSt ob Ue16u1 (.slice oa (ordL L).length oc) (ordL L)) := ho
        clear ho eob
        (try go_wp2_with fail)
        refine hK.out _ _ (⟨hHeld.1.below hb, hHeld.2.1.below hb, hHeld.2.2.1.below hb, hHeld.2.2.2.below hb⟩) (fun hHeld2 => ?_)
        clear hK K hHeld
        have hHeld := hHeld2
        clear hHeld2
        (try simp only [Act.put, List.setIfInBounds_toArray, List.set_cons_zero, List.set_cons_succ])
        replace HFe : Hid (AskF w b3 b4 b9 B1 stop D (.slice (some ⟨gw, 0, none⟩) D.length cu) (.slice ae D.length ce) F2 rb2 L Ue16u1) := HFe.out.below hb
        replace HDe2 : Hid (Ue16u1.heap[De]? = some (.deferred (some []))) := (hb.block _ (row_lt HDe2.out)).trans HDe2.out
        replace HDe1 : Hid (Ue16u1.heap[Dd]? = some (.deferred (some []))) := (hb.block _ (row_lt HDe1.out)).trans HDe1.out
        clear hb
        refine wpAnyH_ready (rs := [19]) (by kernel_rfl) (by simp) ?_
        refine AllReadyH.cons (o := ⟨some 89, _, _, _, _, _⟩) rfl (fun K hK => ?_) AllReadyH.nil
        go_simp
        refine (refStamps_any (fun _ => True) _ D _ (by have := HDl.out; omega) (HFe.out.w2.lsE slCells_len (by have := HDl.out; omega) fun _ _ => trivial)).mono ?_
        rintro e Ue16u2 ⟨D2, sg, sc, hD2, rfl, hs, hb⟩
        obtain ⟨sb, esb⟩ : ∃ x, x = Ue16u1.heap.size := ⟨_, rfl⟩
        rw [← esb] at hs
        have HSo : Hid (OwnSt sb Ue16u2 (.slice (some ⟨sg, 0, none⟩) D2.length sc) D2) := hs
        have HD2 : Hid (D2 = ordL L) := by (show _ = _; rw [hD2, HD.out, List.map_map]; exact List.map_id'' (fun _ => rfl) _)
        clear hs hD2 esb
        (try go_wp2_with fail)
        refine hK.out _ _ (⟨hHeld.1.below hb, hHeld.2.1.below hb, hHeld.2.2.1.below hb, hHeld.2.2.2.below hb⟩) (fun hHeld2 => ?_)
        clear hK K hHeld
        have hHeld := hHeld2
        clear hHeld2
        (try simp only [Act.put, List.setIfInBounds_toArray, List.set_cons_zero, List.set_cons_succ])
        replace HFe : Hid (AskF w b3 b4 b9 B1 stop D (.slice (some ⟨gw, 0, none⟩) D.length cu) (.slice ae D.length ce) F2 rb2 L Ue16u2) := HFe.out.below hb
        replace HDe2 : Hid (Ue16u2.heap[De]? = some (.deferred (some []))) := (hb.block _ (row_lt HDe2.out)).trans HDe2.out
        replace HDe1 : Hid (Ue16u2.heap[Dd]? = some (.deferred (some []))) := (hb.block _ (row_lt HDe1.out)).trans HDe1.out
        replace HO : Hid (OwnSt ob Ue16u2 (.slice oa (ordL L).length oc) (ordL L)) := HO.out.below hb
        clear hb
        refine wpAnyH_ready (rs := [20]) (by kernel_rfl) (by simp) ?_
        refine AllReadyH.cons (o := ⟨some 90, _, _, _, _, _⟩) rfl (fun K hK => ?_) AllReadyH.nil
        go_simp
        refine (S.same_any _ _ (ordL L) D2 _ (isS_of (HO.out.lsE (G := fun _ => True) stCells_len (by have := HLo.out; omega) (fun _ _ => trivial))) (isS_of (HSo.out.lsE (G := fun _ => True) stCells_len (by rw [HD2.out]; have := HLo.out; omega) (fun _ _ => trivial)))).mono ?_
        rintro e Ue16u3 ⟨rfl, hb⟩
        rw [decide_eq_true HD2.out.symm]
        (try go_wp2_with fail)
        refine hK.out _ _ (⟨hHeld.1.below hb, hHeld.2.1.below hb, hHeld.2.2.1.below hb, hHeld.2.2.2.below hb⟩) (fun hHeld2 => ?_)
        clear hK K hHeld
        have hHeld := hHeld2
        clear hHeld2
        (try simp only [Act.put, List.setIfInBounds_toArray, List.set_cons_zero, List.set_cons_succ])
        replace HFe : Hid (AskF w b3 b4 b9 B1 stop D (.slice (some ⟨gw, 0, none⟩) D.length cu) (.slice ae D.length ce) F2 rb2 L Ue16u3) := HFe.out.below hb
        replace HDe2 : Hid (Ue16u3.heap[De]? = some (.deferred (some []))) := (hb.block _ (row_lt HDe2.out)).trans HDe2.out
        replace HDe1 : Hid (Ue16u3.heap[Dd]? = some (.deferred (some []))) := (hb.block _ (row_lt HDe1.out)).trans HDe1.out
        replace HO : Hid (OwnSt ob Ue16u3 (.slice oa (ordL L).length oc) (ordL L)) := HO.out.below hb
        replace HSo : Hid (OwnSt sb Ue16u3 (.slice (some ⟨sg, 0, none⟩) D2.length sc) D2) := HSo.out.below hb
        clear hb
        refine tkW 21 (some 91) (v := ?_) ?_ hHeld ?_
        rotate_left
        · (intro ww _; go_simp; try with_reducible rfl)
        refine tkW 22 (some 92) (v := ?_) ?_ hHeld ?_
        rotate_left
        · (intro ww _; go_simp; try with_reducible rfl)
        refine wpAnyH_ready (rs := [23]) (by kernel_rfl) (by simp) ?_
        refine AllReadyH.cons (o := ⟨some 93, _, _, _, _, _⟩) rfl (fun K hK => ?_) AllReadyH.nil
        go_simp
        refine (awake_any _).mono ?_
        rintro e Ue16u4 ⟨rfl, hb⟩
        (try go_wp2_with fail)
        refine hK.out _ _ (⟨hHeld.1.below hb, hHeld.2.1.below hb, hHeld.2.2.1.below hb, hHeld.2.2.2.below hb⟩) (fun hHeld2 => ?_)
        clear hK K hHeld
        have hHeld := hHeld2
        clear hHeld2
        (try simp only [Act.put, List.setIfInBounds_toArray, List.set_cons_zero, List.set_cons_succ])
        replace HFe : Hid (AskF w b3 b4 b9 B1 stop D (.slice (some ⟨gw, 0, none⟩) D.length cu) (.slice ae D.length ce) F2 rb2 L Ue16u4) := HFe.out.below hb
        replace HDe2 : Hid (Ue16u4.heap[De]? = some (.deferred (some []))) := (hb.block _ (row_lt HDe2.out)).trans HDe2.out
        replace HDe1 : Hid (Ue16u4.heap[Dd]? = some (.deferred (some []))) := (hb.block _ (row_lt HDe1.out)).trans HDe1.out
        replace HO : Hid (OwnSt ob Ue16u4 (.slice oa (ordL L).length oc) (ordL L)) := HO.out.below hb
        replace HSo : Hid (OwnSt sb Ue16u4 (.slice (some ⟨sg, 0, none⟩) D2.length sc) D2) := HSo.out.below hb
        clear hb
        refine tkW 24 (some 94) (v := ?_) ?_ hHeld ?_
        rotate_left
        · (intro ww _; go_simp; try with_reducible rfl)
        refine wpAnyH_ready (rs := [25]) (by kernel_rfl) (by simp) ?_
        refine AllReadyH.cons (o := ⟨none, _, _, _, _, _⟩) rfl (fun K hK => ?_) AllReadyH.nil
        have c4 := HFe.out.b4.cell 0 _ rfl
        have f4 := HFe.out.b4.free 0
        have HEnd := two_marks HFe.out.b4 HFe.out.bel HDe1.out HDe2.out (by have := HLo2.out; have := HDe.out; omega) HG6.out.2 (by have := HLo2.out; have := HF1.out.bel.size; omega)
        have HEn := hide9 HEnd
        clear HEnd
        go_simp
        refine hK.out _ _ (⟨hHeld.1.set_ne HFe.out.b4 (by simp), hHeld.2.1.set_ne HFe.out.b4 (by simp), hHeld.2.2.1.set_ne HFe.out.b4 (by simp), hHeld.2.2.2.set_ne HFe.out.b4 (by simp)⟩) (fun hHeld2 => ?_)
        clear hK K hHeld
        have hHeld := hHeld2
        clear hHeld2
        (try simp only [Act.put, List.setIfInBounds_toArray, List.set_cons_zero, List.set_cons_succ])
        clear c4 f4
        refine wpAnyH_done (by kernel_rfl) ?_ _
        clear hHeld
        gi_wp2
        obtain ⟨k1, k2, k3, k4⟩ := HEn.out
        refine ⟨by simp, .inl ⟨_, _, rfl, run_takeDeferred k1, ?_⟩⟩
        refine ⟨by simp, .inl ⟨_, _, rfl, run_takeDeferred k2, ?_⟩⟩
        exact ⟨_, results_boolCell rfl _ _ _ true rfl k3, rfl, k4⟩
      · have Hq1 : Hid (¬ nn = D.length) := hnn
        have Hq2 : Hid ((nn : Int) = stop) := HNN.out.2.resolve_left hnn
        clear hnn
        refine wp_region_held_drew (S := fun W' => BxC b3 [.int .i64 stop] 3 W' ∧ BxC b9 [(.slice (some ⟨gw, 0, none⟩) D.length cu)] 22 W' ∧ BxC b12 [.int .i64 (D.length : Int)] 3 W' ∧ BxC b10 [.int .i64 (nn : Int)] 3 W') (by kernel_rfl) ⟨HFe.out.b3.below (Below.refl _ _).drew, HFe.out.b9.below (Below.refl _ _).drew, HA9.out.box.below (Below.refl _ _).drew, HN15.out.below (Below.refl _ _).drew⟩ (fun hHeld => ?_)
        obtain ⟨Ue17u0, eW⟩ : ∃ X, X = We.drew := ⟨_, rfl⟩
        have hb : Below We.heap.size We Ue17u0 := by rw [eW]; exact (Below.refl _ _).drew
        replace HFe : Hid (AskF w b3 b4 b9 B1 stop D (.slice (some ⟨gw, 0, none⟩) D.length cu) (.slice ae D.length ce) F2 rb2 L Ue17u0) := HFe.out.below hb
        replace HDe2 : Hid (Ue17u0.heap[De]? = some (.deferred (some []))) := (hb.block _ (row_lt HDe2.out)).trans HDe2.out
        replace HDe1 : Hid (Ue17u0.heap[Dd]? = some (.deferred (some []))) := (hb.block _ (row_lt HDe1.out)).trans HDe1.out
        rw [← eW] at hHeld ⊢
        clear eW hb
        refine tkW 0 (some 70) (v := ?_) ?_ hHeld ?_
        rotate_left
        · (intro ww hSw; (try dsimp only at hSw); have n0 := hSw.2.2.1.cell 0 _ rfl; go_simp; try with_reducible rfl)
        refine tkW 1 (some 71) (v := ?_) ?_ hHeld ?_
        rotate_left
        · (intro ww hSw; (try dsimp only at hSw); have s0 := hSw.2.1.cell 0 _ rfl; go_simp; try with_reducible rfl)
        refine tkW 2 (some 72) (v := ?_) ?_ hHeld ?_
        rotate_left
        · (intro ww hSw; (try dsimp only at hSw); go_simp; try with_reducible rfl)
        refine tkW 3 (some 73) (v := .bool true) ?_ hHeld ?_
        · (intro ww hSw; (try dsimp only at hSw); go_simp; try simp)
        refine tkW 4 (some 74) (v := ?_) ?_ hHeld ?_
        rotate_left
        · (intro ww _; go_simp; try with_reducible rfl)
        refine tkW 5 (some 75) (v := ?_) ?_ hHeld ?_
        rotate_left
        · (intro ww hSw; (try dsimp only at hSw); have m0 := hSw.2.2.2.cell 0 _ rfl; go_simp; try with_reducible rfl)
        refine tkW 6 (some 76) (v := ?_) ?_ hHeld ?_
        rotate_left
        · (intro ww hSw; (try dsimp only at hSw); have s0 := hSw.2.1.cell 0 _ rfl; go_simp; try with_reducible rfl)
        refine tkW 7 (some 77) (v := ?_) ?_ hHeld ?_
        rotate_left
        · (intro ww hSw; (try dsimp only at hSw); go_simp; try with_reducible rfl)
        refine tkW 8 (some 78) (v := .bool false) ?_ hHeld ?_
        · (intro ww hSw; (try dsimp only at hSw); go_simp; (try (have q1 := Hq1.out; omega)))
        refine tkW 9 (some 79) (v := ?_) ?_ hHeld ?_
        rotate_left
        · (intro ww _; go_simp; try with_reducible rfl)
        refine tkW 10 (some 80) (v := ?_) ?_ hHeld ?_
        rotate_left
        · (intro ww hSw; (try dsimp only at hSw); have m0 := hSw.2.2.2.cell 0 _ rfl; go_simp; try with_reducible rfl)
        refine tkW 11 (some 81) (v := ?_) ?_ hHeld ?_
        rotate_left
        · (intro ww hSw; (try dsimp only at hSw); have t0 := hSw.1.cell 0 _ rfl; go_simp; try with_reducible rfl)
        refine tkW 12 (some 82) (v := .bool true) ?_ hHeld ?_
        · (intro ww hSw; (try dsimp only at hSw); go_simp; (try (have q2 := Hq2.out; omega)))
        refine tkW 13 (some 83) (v := ?_) ?_ hHeld ?_
        rotate_left
        · (intro ww _; go_simp; try with_reducible rfl)
        refine tkW 14 (some 84) (v := ?_) ?_ hHeld ?_
        rotate_left
        · (intro ww _; go_simp; try with_reducible rfl)
        refine tkW 15 (some 85) (v := ?_) ?_ hHeld ?_
        rotate_left
        · (intro ww _; go_simp; try with_reducible rfl)
        refine tkW 16 (some 86) (v := ?_) ?_ hHeld ?_
        rotate_left
        · (intro ww _; go_simp; try with_reducible rfl)
        refine tkW 18 (some 88) (v := ?_) ?_ hHeld ?_
        rotate_left
        · (intro ww hSw; (try dsimp only at hSw); have s0 := hSw.2.1.cell 0 _ rfl; go_simp; try with_reducible rfl)
        refine wpAnyH_ready (rs := [17]) (by kernel_rfl) (by simp) ?_
        refine AllReadyH.cons (o := ⟨some 87, _, _, _, _, _⟩) rfl (fun K hK => ?_) AllReadyH.nil
        go_simp
        refine (order_any F2 _ L _ HFe.out.cl.rv).mono ?_
        rintro e Ue17u1 ⟨u9, rfl, ho, hb⟩
        obtain ⟨oa, oc, eo⟩ := ho.form
        subst eo
        obtain ⟨ob, eob⟩ : ∃ x, x = Ue17u0.heap.size := ⟨_, rfl⟩
        rw [← eob] at ho
        have HO : Hid (OwnSt ob Ue17u1 (.slice oa (ordL L).length oc) (ordL L)) := ho
        clear ho eob
        (try go_wp2_with fail)
        refine hK.out _ _ (⟨hHeld.1.below hb, hHeld.2.1.below hb, hHeld.2.2.1.below hb, hHeld.2.2.2.below hb⟩) (fun hHeld2 => ?_)
        clear hK K hHeld
        have hHeld := hHeld2
        clear hHeld2
        (try simp only [Act.put, List.setIfInBounds_toArray, List.set_cons_zero, List.set_cons_succ])
        replace HFe : Hid (AskF w b3 b4 b9 B1 stop D (.slice (some ⟨gw, 0, none⟩) D.length cu) (.slice ae D.length ce) F2 rb2 L Ue17u1) := HFe.out.below hb
        replace HDe2 : Hid (Ue17u1.heap[De]? = some (.deferred (some []))) := (hb.block _ (row_lt HDe2.out)).trans HDe2.out
        replace HDe1 : Hid (Ue17u1.heap[Dd]? = some (.deferred (some []))) := (hb.block _ (row_lt HDe1.out)).trans HDe1.out
        clear hb
        refine wpAnyH_ready (rs := [19]) (by kernel_rfl) (by simp) ?_
        refine AllReadyH.cons (o := ⟨some 89, _, _, _, _, _⟩) rfl (fun K hK => ?_) AllReadyH.nil
        go_simp
        refine (refStamps_any (fun _ => True) _ D _ (by have := HDl.out; omega) (HFe.out.w2.lsE slCells_len (by have := HDl.out; omega) fun _ _ => trivial)).mono ?_
        rintro e Ue17u2 ⟨D2, sg, sc, hD2, rfl, hs, hb⟩
        obtain ⟨sb, esb⟩ : ∃ x, x = Ue17u1.heap.size := ⟨_, rfl⟩
        rw [← esb] at hs
        have HSo : Hid (OwnSt sb Ue17u2 (.slice (some ⟨sg, 0, none⟩) D2.length sc) D2) := hs
        have HD2 : Hid (D2 = ordL L) := by (show _ = _; rw [hD2, HD.out, List.map_map]; exact List.map_id'' (fun _ => rfl) _)
        clear hs hD2 esb
        (try go_wp2_with fail)
        refine hK.out _ _ (⟨hHeld.1.below hb, hHeld.2.1.below hb, hHeld.2.2.1.below hb, hHeld.2.2.2.below hb⟩) (fun hHeld2 => ?_)
        clear hK K hHeld
        have hHeld := hHeld2
        clear hHeld2
        (try simp only [Act.put, List.setIfInBounds_toArray, List.set_cons_zero, List.set_cons_succ])
        replace HFe : Hid (AskF w b3 b4 b9 B1 stop D (.slice (some ⟨gw, 0, none⟩) D.length cu) (.slice ae D.length ce) F2 rb2 L Ue17u2) := HFe.out.below hb
        replace HDe2 : Hid (Ue17u2.heap[De]? = some (.deferred (some []))) := (hb.block _ (row_lt HDe2.out)).trans HDe2.out
        replace HDe1 : Hid (Ue17u2.heap[Dd]? = some (.deferred (some []))) := (hb.block _ (row_lt HDe1.out)).trans HDe1.out
        replace HO : Hid (OwnSt ob Ue17u2 (.slice oa (ordL L).length oc) (ordL L)) := HO.out.below hb
        clear hb
        refine wpAnyH_ready (rs := [20]) (by kernel_rfl) (by simp) ?_
        refine AllReadyH.cons (o := ⟨some 90, _, _, _, _, _⟩) rfl (fun K hK => ?_) AllReadyH.nil
        go_simp
        refine (S.same_any _ _ (ordL L) D2 _ (isS_of (HO.out.lsE (G := fun _ => True) stCells_len (by have := HLo.out; omega) (fun _ _ => trivial))) (isS_of (HSo.out.lsE (G := fun _ => True) stCells_len (by rw [HD2.out]; have := HLo.out; omega) (fun _ _ => trivial)))).mono ?_
        rintro e Ue17u3 ⟨rfl, hb⟩
        rw [decide_eq_true HD2.out.symm]
        (try go_wp2_with fail)
        refine hK.out _ _ (⟨hHeld.1.below hb, hHeld.2.1.below hb, hHeld.2.2.1.below hb, hHeld.2.2.2.below hb⟩) (fun hHeld2 => ?_)
        clear hK K hHeld
        have hHeld := hHeld2
        clear hHeld2
        (try simp only [Act.put, List.setIfInBounds_toArray, List.set_cons_zero, List.set_cons_succ])
        replace HFe : Hid (AskF w b3 b4 b9 B1 stop D (.slice (some ⟨gw, 0, none⟩) D.length cu) (.slice ae D.length ce) F2 rb2 L Ue17u3) := HFe.out.below hb
        replace HDe2 : Hid (Ue17u3.heap[De]? = some (.deferred (some []))) := (hb.block _ (row_lt HDe2.out)).trans HDe2.out
        replace HDe1 : Hid (Ue17u3.heap[Dd]? = some (.deferred (some []))) := (hb.block _ (row_lt HDe1.out)).trans HDe1.out
        replace HO : Hid (OwnSt ob Ue17u3 (.slice oa (ordL L).length oc) (ordL L)) := HO.out.below hb
        replace HSo : Hid (OwnSt sb Ue17u3 (.slice (some ⟨sg, 0, none⟩) D2.length sc) D2) := HSo.out.below hb
        clear hb
        refine tkW 21 (some 91) (v := ?_) ?_ hHeld ?_
        rotate_left
        · (intro ww _; go_simp; try with_reducible rfl)
        refine tkW 22 (some 92) (v := ?_) ?_ hHeld ?_
        rotate_left
        · (intro ww _; go_simp; try with_reducible rfl)
        refine wpAnyH_ready (rs := [23]) (by kernel_rfl) (by simp) ?_
        refine AllReadyH.cons (o := ⟨some 93, _, _, _, _, _⟩) rfl (fun K hK => ?_) AllReadyH.nil
        go_simp
        refine (awake_any _).mono ?_
        rintro e Ue17u4 ⟨rfl, hb⟩
        (try go_wp2_with fail)
        refine hK.out _ _ (⟨hHeld.1.below hb, hHeld.2.1.below hb, hHeld.2.2.1.below hb, hHeld.2.2.2.below hb⟩) (fun hHeld2 => ?_)
        clear hK K hHeld
        have hHeld := hHeld2
        clear hHeld2
        (try simp only [Act.put, List.setIfInBounds_toArray, List.set_cons_zero, List.set_cons_succ])
        replace HFe : Hid (AskF w b3 b4 b9 B1 stop D (.slice (some ⟨gw, 0, none⟩) D.length cu) (.slice ae D.length ce) F2 rb2 L Ue17u4) := HFe.out.below hb
        replace HDe2 : Hid (Ue17u4.heap[De]? = some (.deferred (some []))) := (hb.block _ (row_lt HDe2.out)).trans HDe2.out
        replace HDe1 : Hid (Ue17u4.heap[Dd]? = some (.deferred (some []))) := (hb.block _ (row_lt HDe1.out)).trans HDe1.out
        replace HO : Hid (OwnSt ob Ue17u4 (.slice oa (ordL L).length oc) (ordL L)) := HO.out.below hb
        replace HSo : Hid (OwnSt sb Ue17u4 (.slice (some ⟨sg, 0, none⟩) D2.length sc) D2) := HSo.out.below hb
        clear hb
        refine tkW 24 (some 94) (v := ?_) ?_ hHeld ?_
        rotate_left
        · (intro ww _; go_simp; try with_reducible rfl)
        refine wpAnyH_ready (rs := [25]) (by kernel_rfl) (by simp) ?_
        refine AllReadyH.cons (o := ⟨none, _, _, _, _, _⟩) rfl (fun K hK => ?_) AllReadyH.nil
        have c4 := HFe.out.b4.cell 0 _ rfl
        have f4 := HFe.out.b4.free 0
        have HEnd := two_marks HFe.out.b4 HFe.out.bel HDe1.out HDe2.out (by have := HLo2.out; have := HDe.out; omega) HG6.out.2 (by have := HLo2.out; have := HF1.out.bel.size; omega)
        have HEn := hide9 HEnd
        clear HEnd
        go_simp
        refine hK.out _ _ (⟨hHeld.1.set_ne HFe.out.b4 (by simp), hHeld.2.1.set_ne HFe.out.b4 (by simp), hHeld.2.2.1.set_ne HFe.out.b4 (by simp), hHeld.2.2.2.set_ne HFe.out.b4 (by simp)⟩) (fun hHeld2 => ?_)
        clear hK K hHeld
        have hHeld := hHeld2
        clear hHeld2
        (try simp only [Act.put, List.setIfInBounds_toArray, List.set_cons_zero, List.set_cons_succ])
        clear c4 f4
        refine wpAnyH_done (by kernel_rfl) ?_ _
        clear hHeld
        gi_wp2
        obtain ⟨k1, k2, k3, k4⟩ := HEn.out
        refine ⟨by simp, .inl ⟨_, _, rfl, run_takeDeferred k1, ?_⟩⟩
        refine ⟨by simp, .inl ⟨_, _, rfl, run_takeDeferred k2, ?_⟩⟩
        exact ⟨_, results_boolCell rfl _ _ _ true rfl k3, rfl, k4⟩
    case stop2 => rintro D c k W hD hk hf; exact hf.elim
  case stop1 =>
    rintro Dd c k Wd hDd hk ⟨rfl, nn, rfl, h3, h4, hA⟩ hDf
    have HNN : Hid (nn ≤ D.length ∧ (nn = D.length ∨ (nn : Int) = stop)) := ⟨by omega, .inr h3⟩
    clear h3 h4 hk
    have HFd : Hid (AskF w b3 b4 b9 B1 stop D (.slice (some ⟨gw, 0, none⟩) D.length cu) (.slice ae D.length ce) F2 rb2 L Wd) := HF1.out.keep hA.kp HSF1.out hA.bel
    have HDf0 : Hid (Wd.heap[Dd]? = some (.deferred (some []))) := hDf
    have HAd0 : Hid (AkS w W11 S1 b10 nn Wd) := hA
    clear hA hDf
    obtain ⟨W18, eW18⟩ : ∃ X, X = Wd.alloc (.cells [.int .i64 ((0 : Nat) : Int)].toArray 3) := ⟨_, rfl⟩
    have hb : Below Wd.heap.size Wd W18 := by rw [eW18]; exact (Below.refl _ _).alloc (Nat.le_refl _) _
    obtain ⟨b12, eb17⟩ : ∃ b, b = Wd.heap.size := ⟨_, rfl⟩
    have HX17 : Hid (BxC b12 [.int .i64 ((0 : Nat) : Int)] 3 W18) := by rw [eW18, eb17]; exact BxC.new _ _ _
    have HF2 : Hid (AskF w b3 b4 b9 B1 stop D (.slice (some ⟨gw, 0, none⟩) D.length cu) (.slice ae D.length ce) F2 rb2 L W18) := HFd.out.below hb
    have HN15 : Hid (BxC b10 [.int .i64 (nn : Int)] 3 W18) := HAd0.out.box.below hb
    have HDf : Hid (W18.heap[Dd]? = some (.deferred (some []))) := (hb.block _ (row_lt HDf0.out)).trans HDf0.out
    obtain ⟨S2, eS2⟩ : ∃ S : Nat → Prop, S = fun k => k < W18.heap.size ∧ k ≠ b12 := ⟨_, rfl⟩
    have HSl2 : Hid (∀ k, S2 k → k < W18.heap.size) := fun k hk => by (rw [eS2] at hk; exact hk.1)
    have HSw : Hid (∀ k, k < Wd.heap.size → S2 k) := fun k hk => by (rw [eS2]; have := hb.size; exact ⟨by omega, by omega⟩)
    have HSF2 : Hid (AskIn b3 b4 b9 B1 (.slice (some ⟨gw, 0, none⟩) D.length cu) (.slice ae D.length ce) F2 S2) := HFd.out.inn HSw.out
    have HSD : Hid (S2 Dd) := HSw.out _ (row_lt HDf0.out)
    have HS15 : Hid (S2 b10) := HSw.out _ HAd0.out.box.lt
    have HA2 : Hid (AkS w W18 S2 b12 0 W18) := ⟨HX17.out, KeepsS.refl _ _, HSl2.out, fun hk => by (rw [eS2] at hk; exact hk.2 rfl), by rw [eb17]; exact HFd.out.bel.size, HX17.out.lt, HF2.out.bel⟩
    have HSq2 := each_seq (n0 - 1) (by omega) B1 ce S2 ae D W18 HSF2.out.e1 HSl2.out (HF2.out.e1.cell 0 _ rfl) (HF2.out.e2.lsE slCells_len (by have := HDl.out; omega) HSF2.out.e2) (by have := HDl.out; omega)
    have eW19 : W18 = Wd.alloc (.cells #[.int .i64 0] 3) := eW18
    have HE19 : Hid (W18 = Wd.alloc (.cells #[.int .i64 0] 3) ∧ b12 = Wd.heap.size) := ⟨eW19, eb17⟩
    have HLo2 : Hid (W11.heap.size ≤ Dd ∧ Wd.heap.size ≤ W18.heap.size ∧ Dd < Wd.heap.size) := ⟨hDd, hb.size, row_lt HDf0.out⟩
    clear hb eS2 eW18 HFd HX17 HSw HAd0 HDf0 eW19 eb17
    gi_wp2
    rw [← HE19.out.1, ← HE19.out.2]
    clear HE19
    refine range_of (by omega) (gf := 19) (lb := #[.pointer (some ⟨B1, 0, none⟩)]) rfl (enters_of Try.func19 (by kernel_rfl) rfl) HSq2 KeepsS.trans (keepsSK_b HSl2.out) (Below.refl _ _) (fun _ => rfl)
      (fun k W => AkS w W18 S2 b12 k W) (fun _ _ _ => False)
      (fun k A B row h1 hg hr => h1.grown hg hr) (fun c k A B row hf _ _ => hf) HA2.out
      (fun x a' W => ∃ Bx, W18.heap.size ≤ Bx ∧ BxC Bx (slCells x) 36 W ∧ ∃ u : Nat → Value, a' = { tmps := #[u 0, u 1, u 2, u 3, .pointer (some ⟨b4, 0, none⟩), u 5, u 6, u 7, u 8, .pointer (some ⟨b9, 0, none⟩), u 10, u 11, .pointer (some ⟨b12, 0, none⟩), .pointer (some ⟨Bx, 0, none⟩), u 14, u 15, u 16, u 17, u 18, u 19, u 20, u 21, u 22, u 23, u 24, u 25, u 26, u 27, u 28, u 29, u 30, u 31, u 32, u 33, u 34, u 35, u 36, u 37, u 38, u 39, u 40, u 41, u 42, u 43, u 44, u 45, u 46, u 47, u 48, u 49, u 50, u 51, u 52, u 53, u 54, u 55, u 56, u 57, u 58, u 59, u 60, u 61, u 62, u 63, u 64, u 65, u 66, u 67, u 68, u 69, u 70, u 71, u 72, u 73, u 74, u 75, u 76, u 77, u 78, u 79, u 80, u 81, u 82, u 83, u 84, u 85, u 86, u 87, u 88, u 89, u 90, u 91, u 92, u 93, u 94], defers := [] })
      (fun x a' u A B row ⟨Bx, h1, h2, h5⟩ hg hr => ⟨Bx, h1, row_own h2 hg (fun r e => (hr r e).2), h5⟩)
      ?assign2 ?body2 ?done2 ?stop2
    case assign2 =>
      rintro l k hk Wa K hA hK
      obtain ⟨x, hx⟩ : ∃ x, x = D[k] := ⟨_, rfl⟩
      rw [← hx] at hK ⊢
      clear hx
      have hb : Below Wa.heap.size Wa (Wa.alloc (.cells (slCells x).toArray 36)) := (Below.refl _ _).alloc (Nat.le_refl _) _
      have HFin : Hid (∀ a', (∃ u : Nat → Value, a' = { tmps := #[u 0, u 1, u 2, u 3, .pointer (some ⟨b4, 0, none⟩), u 5, u 6, u 7, u 8, .pointer (some ⟨b9, 0, none⟩), u 10, u 11, .pointer (some ⟨b12, 0, none⟩), .pointer (some ⟨Wa.heap.size, 0, none⟩), u 14, u 15, u 16, u 17, u 18, u 19, u 20, u 21, u 22, u 23, u 24, u 25, u 26, u 27, u 28, u 29, u 30, u 31, u 32, u 33, u 34, u 35, u 36, u 37, u 38, u 39, u 40, u 41, u 42, u 43, u 44, u 45, u 46, u 47, u 48, u 49, u 50, u 51, u 52, u 53, u 54, u 55, u 56, u 57, u 58, u 59, u 60, u 61, u 62, u 63, u 64, u 65, u 66, u 67, u 68, u 69, u 70, u 71, u 72, u 73, u 74, u 75, u 76, u 77, u 78, u 79, u 80, u 81, u 82, u 83, u 84, u 85, u 86, u 87, u 88, u 89, u 90, u 91, u 92, u 93, u 94], defers := [] }) → K a' (Wa.alloc (.cells (slCells x).toArray 36))) := fun a' e5 => hK a' (Wa.alloc (.cells (slCells x).toArray 36)) (keepsFrom_below hb) (KeepsS.of_below hb (fun j hj => Nat.lt_of_lt_of_le (HSl2.out j hj) hA.size)) (hA.below hb) ⟨Wa.heap.size, hA.size, BxC.new _ _ _, e5⟩
      have HFin2 : Hid (∀ a' : Act, a' = { tmps := #[a'.tmps.getD 0 undef, a'.tmps.getD 1 undef, a'.tmps.getD 2 undef, a'.tmps.getD 3 undef, .pointer (some ⟨b4, 0, none⟩), a'.tmps.getD 5 undef, a'.tmps.getD 6 undef, a'.tmps.getD 7 undef, a'.tmps.getD 8 undef, .pointer (some ⟨b9, 0, none⟩), a'.tmps.getD 10 undef, a'.tmps.getD 11 undef, .pointer (some ⟨b12, 0, none⟩), .pointer (some ⟨Wa.heap.size, 0, none⟩), a'.tmps.getD 14 undef, a'.tmps.getD 15 undef, a'.tmps.getD 16 undef, a'.tmps.getD 17 undef, a'.tmps.getD 18 undef, a'.tmps.getD 19 undef, a'.tmps.getD 20 undef, a'.tmps.getD 21 undef, a'.tmps.getD 22 undef, a'.tmps.getD 23 undef, a'.tmps.getD 24 undef, a'.tmps.getD 25 undef, a'.tmps.getD 26 undef, a'.tmps.getD 27 undef, a'.tmps.getD 28 undef, a'.tmps.getD 29 undef, a'.tmps.getD 30 undef, a'.tmps.getD 31 undef, a'.tmps.getD 32 undef, a'.tmps.getD 33 undef, a'.tmps.getD 34 undef, a'.tmps.getD 35 undef, a'.tmps.getD 36 undef, a'.tmps.getD 37 undef, a'.tmps.getD 38 undef, a'.tmps.getD 39 undef, a'.tmps.getD 40 undef, a'.tmps.getD 41 undef, a'.tmps.getD 42 undef, a'.tmps.getD 43 undef, a'.tmps.getD 44 undef, a'.tmps.getD 45 undef, a'.tmps.getD 46 undef, a'.tmps.getD 47 undef, a'.tmps.getD 48 undef, a'.tmps.getD 49 undef, a'.tmps.getD 50 undef, a'.tmps.getD 51 undef, a'.tmps.getD 52 undef, a'.tmps.getD 53 undef, a'.tmps.getD 54 undef, a'.tmps.getD 55 undef, a'.tmps.getD 56 undef, a'.tmps.getD 57 undef, a'.tmps.getD 58 undef, a'.tmps.getD 59 undef, a'.tmps.getD 60 undef, a'.tmps.getD 61 undef, a'.tmps.getD 62 undef, a'.tmps.getD 63 undef, a'.tmps.getD 64 undef, a'.tmps.getD 65 undef, a'.tmps.getD 66 undef, a'.tmps.getD 67 undef, a'.tmps.getD 68 undef, a'.tmps.getD 69 undef, a'.tmps.getD 70 undef, a'.tmps.getD 71 undef, a'.tmps.getD 72 undef, a'.tmps.getD 73 undef, a'.tmps.getD 74 undef, a'.tmps.getD 75 undef, a'.tmps.getD 76 undef, a'.tmps.getD 77 undef, a'.tmps.getD 78 undef, a'.tmps.getD 79 undef, a'.tmps.getD 80 undef, a'.tmps.getD 81 undef, a'.tmps.getD 82 undef, a'.tmps.getD 83 undef, a'.tmps.getD 84 undef, a'.tmps.getD 85 undef, a'.tmps.getD 86 undef, a'.tmps.getD 87 undef, a'.tmps.getD 88 undef, a'.tmps.getD 89 undef, a'.tmps.getD 90 undef, a'.tmps.getD 91 undef, a'.tmps.getD 92 undef, a'.tmps.getD 93 undef, a'.tmps.getD 94 undef], defers := [] } → K a' (Wa.alloc (.cells (slCells x).toArray 36))) := fun a' e => HFin.out a' ⟨fun k => a'.tmps.getD k undef, e⟩
      clear hK hb hA HFin
      simp only [encL]
      gi_wp2
      exact HFin2.out _ rfl
    case body2 =>
      rintro l k hk a' Wb hlD hA ⟨Bx, hx1, hx2, u, rfl⟩
      obtain ⟨x, hx⟩ : ∃ x, x = D[k] := ⟨_, rfl⟩
      rw [← hx] at hx2
      have HA : Hid (AkS w W18 S2 b12 k Wb) := hA
      have HFb : Hid (AskF w b3 b4 b9 B1 stop D (.slice (some ⟨gw, 0, none⟩) D.length cu) (.slice ae D.length ce) F2 rb2 L Wb) := HF2.out.keep hA.kp HSF2.out hA.bel
      obtain ⟨bW, oW, cW, evW, hrow⟩ := HFb.out.row HSF2.out HDl.out hk
      rw [← hx] at hrow
      have HxB : Hid (BxC Bx (slCells x) 36 Wb) := hx2
      have hDl := HDl.out
      have k1 : (k : Int) < (D.length : Int) := by omega
      have k0 : (0 : Int) ≤ (k : Int) := by omega
      have HW0 : Hid (∀ X, KeepsS S2 Wb X → X.cell? ⟨bW, oW + k * 4, none⟩ = some (.int .i64 x.ts.1) ∧ X.cell? ⟨bW, oW + k * 4 + 1, none⟩ = some (.int .i64 x.ts.2) ∧ X.cell? ⟨bW, oW + k * 4 + 2, none⟩ = some (.int .i64 x.af.1) ∧ X.cell? ⟨bW, oW + k * 4 + 3, none⟩ = some (.int .i64 x.af.2)) := hrow
      clear hx hA hx2 hrow
      have HKd : Hid (KeepsFrom W18.heap.size Wb Wb.drew ∧ KeepsS S2 Wb Wb.drew) := ⟨keepsFrom_below (Below.refl _ _).drew, KeepsS.of_below (Below.refl _ _).drew (fun j hj => Nat.lt_of_lt_of_le (HSl2.out j hj) HA.out.size)⟩
      have HW13 : Hid (BxC b9 [.slice (some ⟨bW, oW, none⟩) D.length cW] 22 Wb) := (by have h9 := HFb.out.b9; rw [evW] at h9; exact h9)
      clear evW
      gi_wp2
      refine region_round_held (S := fun W' => AkS w W18 S2 b12 k W' ∧ KeepsS S2 Wb W' ∧ BxC Bx (slCells x) 36 W' ∧ BxC b9 [.slice (some ⟨bW, oW, none⟩) D.length cW] 22 W') l (by kernel_rfl) (by kernel_rfl) (lets_then (lets_then (lets_block lets_round))) ⟨HA.out.below (Below.refl _ _).drew, HKd.out.2, HxB.out.below (Below.refl _ _).drew, HW13.out.below (Below.refl _ _).drew⟩ (fun hHeld => ?_)
      obtain ⟨Ur218u0, eW⟩ : ∃ X, X = Wb.drew := ⟨_, rfl⟩
      have hb : Below Wb.heap.size Wb Ur218u0 := by rw [eW]; exact (Below.refl _ _).drew
      have HeD : Hid (Ur218u0 = Wb.drew) := eW
      have HAd : Hid (AkS w W18 S2 b12 k Ur218u0) := (by rw [eW]; exact HA.out.below (Below.refl _ _).drew)
      rw [← eW] at hHeld ⊢
      clear eW hb
      refine tkW 0 (some 56) (v := ?_) ?_ hHeld ?_
      rotate_left
      · (intro ww hSw; (try dsimp only at hSw); have n0 := hSw.1.box.cell 0 _ rfl; go_simp; try with_reducible rfl)
      refine tkW 1 (some 57) (v := ?_) ?_ hHeld ?_
      rotate_left
      · (intro ww hSw; (try dsimp only at hSw); have s0 := hSw.2.2.2.cell 0 _ rfl; go_simp; try with_reducible rfl)
      refine tkW 2 (some 58) (v := ?_) ?_ hHeld ?_
      rotate_left
      · (intro ww hSw; (try dsimp only at hSw); go_simp; try with_reducible rfl)
      refine tkW 3 (some 59) (v := .bool false) ?_ hHeld ?_
      · (intro ww hSw; (try dsimp only at hSw); go_simp; try omega)
      refine tkW 4 (some 60) (v := ?_) ?_ hHeld ?_
      rotate_left
      · (intro ww _; go_simp; try with_reducible rfl)
      refine tkW 5 (some 61) (v := ?_) ?_ hHeld ?_
      rotate_left
      · (intro ww hSw; (try dsimp only at hSw); have v0 := hSw.2.2.1.cell 0 _ rfl; have v1 := hSw.2.2.1.cell 1 _ rfl; have v2 := hSw.2.2.1.cell 2 _ rfl; have v3 := hSw.2.2.1.cell 3 _ rfl; go_simp; try with_reducible rfl)
      refine tkW 6 (some 62) (v := ?_) ?_ hHeld ?_
      rotate_left
      · (intro ww hSw; (try dsimp only at hSw); have s0 := hSw.2.2.2.cell 0 _ rfl; go_simp; try with_reducible rfl)
      refine tkW 7 (some 63) (v := ?_) ?_ hHeld ?_
      rotate_left
      · (intro ww hSw; (try dsimp only at hSw); have n0 := hSw.1.box.cell 0 _ rfl; go_simp; try with_reducible rfl)
      refine tkW 8 (some 64) (v := ?_) ?_ hHeld ?_
      rotate_left
      · (intro ww hSw; (try dsimp only at hSw); go_simp; try with_reducible rfl)
      refine tkW 9 (some 65) (v := ?_) ?_ hHeld ?_
      rotate_left
      · (intro ww hSw; (try dsimp only at hSw); have y0 := (HW0.out ww hSw.2.1).1; have y1 := (HW0.out ww hSw.2.1).2.1; have y2 := (HW0.out ww hSw.2.1).2.2.1; have y3 := (HW0.out ww hSw.2.1).2.2.2; go_simp; try with_reducible rfl)
      refine tkW 10 (some 66) (v := .bool false) ?_ hHeld ?_
      · (intro ww hSw; (try dsimp only at hSw); exact execNeqS (p := x) rfl rfl ww)
      refine tkW 11 (some 67) (v := ?_) ?_ hHeld ?_
      rotate_left
      · (intro ww _; go_simp; try with_reducible rfl)
      refine wpAnyH_done (by kernel_rfl) ?_ _
      clear hHeld
      have cn := HAd.out.box.cell 0 _ rfl
      have fn := HAd.out.box.free 0
      have n1 : IntKind.i64.wrap ((k : Int) + 1) = (k : Int) + 1 := by rw [IntKind.wrap_i64]; omega
      gi_wp2
      have hst := HAd.out.set (k + 1)
      exact ⟨HKd.out.1.trans (by rw [← HeD.out]; exact keepsFrom_set _ _ _), HKd.out.2.trans (by rw [← HeD.out]; exact hst.2), hst.1⟩
    case done2 =>
      rintro De We hDe hA2 hDf2
      have HFe : Hid (AskF w b3 b4 b9 B1 stop D (.slice (some ⟨gw, 0, none⟩) D.length cu) (.slice ae D.length ce) F2 rb2 L We) := HF2.out.keep hA2.kp HSF2.out hA2.bel
      have HDe2 : Hid (We.heap[De]? = some (.deferred (some []))) := hDf2
      have HDe1 : Hid (We.heap[Dd]? = some (.deferred (some []))) := (hA2.kp.2 _ HSD.out).trans HDf.out
      have HN15 : Hid (BxC b10 [.int .i64 (nn : Int)] 3 We) := HN15.out.keep (hA2.kp.2 _ HS15.out)
      have HA9 : Hid (AkS w W18 S2 b12 D.length We) := hA2
      have hDl := HDl.out
      have HDe : Hid (W18.heap.size ≤ De) := hDe
      clear hA2 hDf2
      gi_wp2_with fail
      refine wpIn_wide.2 ?_
      by_cases hnn : nn = D.length
      · have Hq1 : Hid (nn = D.length) := hnn
        clear hnn
        refine wp_region_held_drew (S := fun W' => BxC b3 [.int .i64 stop] 3 W' ∧ BxC b9 [(.slice (some ⟨gw, 0, none⟩) D.length cu)] 22 W' ∧ BxC b12 [.int .i64 (D.length : Int)] 3 W' ∧ BxC b10 [.int .i64 (nn : Int)] 3 W') (by kernel_rfl) ⟨HFe.out.b3.below (Below.refl _ _).drew, HFe.out.b9.below (Below.refl _ _).drew, HA9.out.box.below (Below.refl _ _).drew, HN15.out.below (Below.refl _ _).drew⟩ (fun hHeld => ?_)
        obtain ⟨Ue19u0, eW⟩ : ∃ X, X = We.drew := ⟨_, rfl⟩
        have hb : Below We.heap.size We Ue19u0 := by rw [eW]; exact (Below.refl _ _).drew
        replace HFe : Hid (AskF w b3 b4 b9 B1 stop D (.slice (some ⟨gw, 0, none⟩) D.length cu) (.slice ae D.length ce) F2 rb2 L Ue19u0) := HFe.out.below hb
        replace HDe2 : Hid (Ue19u0.heap[De]? = some (.deferred (some []))) := (hb.block _ (row_lt HDe2.out)).trans HDe2.out
        replace HDe1 : Hid (Ue19u0.heap[Dd]? = some (.deferred (some []))) := (hb.block _ (row_lt HDe1.out)).trans HDe1.out
        rw [← eW] at hHeld ⊢
        clear eW hb
        refine tkW 0 (some 70) (v := ?_) ?_ hHeld ?_
        rotate_left
        · (intro ww hSw; (try dsimp only at hSw); have n0 := hSw.2.2.1.cell 0 _ rfl; go_simp; try with_reducible rfl)
        refine tkW 1 (some 71) (v := ?_) ?_ hHeld ?_
        rotate_left
        · (intro ww hSw; (try dsimp only at hSw); have s0 := hSw.2.1.cell 0 _ rfl; go_simp; try with_reducible rfl)
        refine tkW 2 (some 72) (v := ?_) ?_ hHeld ?_
        rotate_left
        · (intro ww hSw; (try dsimp only at hSw); go_simp; try with_reducible rfl)
        refine tkW 3 (some 73) (v := .bool true) ?_ hHeld ?_
        · (intro ww hSw; (try dsimp only at hSw); go_simp; try simp)
        refine tkW 4 (some 74) (v := ?_) ?_ hHeld ?_
        rotate_left
        · (intro ww _; go_simp; try with_reducible rfl)
        refine tkW 5 (some 75) (v := ?_) ?_ hHeld ?_
        rotate_left
        · (intro ww hSw; (try dsimp only at hSw); have m0 := hSw.2.2.2.cell 0 _ rfl; go_simp; try with_reducible rfl)
        refine tkW 6 (some 76) (v := ?_) ?_ hHeld ?_
        rotate_left
        · (intro ww hSw; (try dsimp only at hSw); have s0 := hSw.2.1.cell 0 _ rfl; go_simp; try with_reducible rfl)
        refine tkW 7 (some 77) (v := ?_) ?_ hHeld ?_
        rotate_left
        · (intro ww hSw; (try dsimp only at hSw); go_simp; try with_reducible rfl)
        refine tkW 8 (some 78) (v := .bool true) ?_ hHeld ?_
        · (intro ww hSw; (try dsimp only at hSw); go_simp; (try (have q1 := Hq1.out; omega)))
        refine tkW 9 (some 79) (v := ?_) ?_ hHeld ?_
        rotate_left
        · (intro ww _; go_simp; try with_reducible rfl)
        refine tkU 10 (some 80) hHeld ?_
        refine tkU 11 (some 81) hHeld ?_
        refine tkU 12 (some 82) hHeld ?_
        refine tkW 13 (some 83) (v := ?_) ?_ hHeld ?_
        rotate_left
        · (intro ww _; go_simp; try with_reducible rfl)
        refine tkW 14 (some 84) (v := ?_) ?_ hHeld ?_
        rotate_left
        · (intro ww _; go_simp; try with_reducible rfl)
        refine tkW 15 (some 85) (v := ?_) ?_ hHeld ?_
        rotate_left
        · (intro ww _; go_simp; try with_reducible rfl)
        refine tkW 16 (some 86) (v := ?_) ?_ hHeld ?_
        rotate_left
        · (intro ww _; go_simp; try with_reducible rfl)
        refine tkW 18 (some 88) (v := ?_) ?_ hHeld ?_
        rotate_left
        · (intro ww hSw; (try dsimp only at hSw); have s0 := hSw.2.1.cell 0 _ rfl; go_simp; try with_reducible rfl)
        refine wpAnyH_ready (rs := [17]) (by kernel_rfl) (by simp) ?_
        refine AllReadyH.cons (o := ⟨some 87, _, _, _, _, _⟩) rfl (fun K hK => ?_) AllReadyH.nil
        go_simp
        refine (order_any F2 _ L _ HFe.out.cl.rv).mono ?_
        rintro e Ue19u1 ⟨u9, rfl, ho, hb⟩
        obtain ⟨oa, oc, eo⟩ := ho.form
        subst eo
        obtain ⟨ob, eob⟩ : ∃ x, x = Ue19u0.heap.size := ⟨_, rfl⟩
        rw [← eob] at ho
        have HO : Hid (OwnSt ob Ue19u1 (.slice oa (ordL L).length oc) (ordL L)) := ho
        clear ho eob
        (try go_wp2_with fail)
        refine hK.out _ _ (⟨hHeld.1.below hb, hHeld.2.1.below hb, hHeld.2.2.1.below hb, hHeld.2.2.2.below hb⟩) (fun hHeld2 => ?_)
        clear hK K hHeld
        have hHeld := hHeld2
        clear hHeld2
        (try simp only [Act.put, List.setIfInBounds_toArray, List.set_cons_zero, List.set_cons_succ])
        replace HFe : Hid (AskF w b3 b4 b9 B1 stop D (.slice (some ⟨gw, 0, none⟩) D.length cu) (.slice ae D.length ce) F2 rb2 L Ue19u1) := HFe.out.below hb
        replace HDe2 : Hid (Ue19u1.heap[De]? = some (.deferred (some []))) := (hb.block _ (row_lt HDe2.out)).trans HDe2.out
        replace HDe1 : Hid (Ue19u1.heap[Dd]? = some (.deferred (some []))) := (hb.block _ (row_lt HDe1.out)).trans HDe1.out
        clear hb
        refine wpAnyH_ready (rs := [19]) (by kernel_rfl) (by simp) ?_
        refine AllReadyH.cons (o := ⟨some 89, _, _, _, _, _⟩) rfl (fun K hK => ?_) AllReadyH.nil
        go_simp
        refine (refStamps_any (fun _ => True) _ D _ (by have := HDl.out; omega) (HFe.out.w2.lsE slCells_len (by have := HDl.out; omega) fun _ _ => trivial)).mono ?_
        rintro e Ue19u2 ⟨D2, sg, sc, hD2, rfl, hs, hb⟩
        obtain ⟨sb, esb⟩ : ∃ x, x = Ue19u1.heap.size := ⟨_, rfl⟩
        rw [← esb] at hs
        have HSo : Hid (OwnSt sb Ue19u2 (.slice (some ⟨sg, 0, none⟩) D2.length sc) D2) := hs
        have HD2 : Hid (D2 = ordL L) := by (show _ = _; rw [hD2, HD.out, List.map_map]; exact List.map_id'' (fun _ => rfl) _)
        clear hs hD2 esb
        (try go_wp2_with fail)
        refine hK.out _ _ (⟨hHeld.1.below hb, hHeld.2.1.below hb, hHeld.2.2.1.below hb, hHeld.2.2.2.below hb⟩) (fun hHeld2 => ?_)
        clear hK K hHeld
        have hHeld := hHeld2
        clear hHeld2
        (try simp only [Act.put, List.setIfInBounds_toArray, List.set_cons_zero, List.set_cons_succ])
        replace HFe : Hid (AskF w b3 b4 b9 B1 stop D (.slice (some ⟨gw, 0, none⟩) D.length cu) (.slice ae D.length ce) F2 rb2 L Ue19u2) := HFe.out.below hb
        replace HDe2 : Hid (Ue19u2.heap[De]? = some (.deferred (some []))) := (hb.block _ (row_lt HDe2.out)).trans HDe2.out
        replace HDe1 : Hid (Ue19u2.heap[Dd]? = some (.deferred (some []))) := (hb.block _ (row_lt HDe1.out)).trans HDe1.out
        replace HO : Hid (OwnSt ob Ue19u2 (.slice oa (ordL L).length oc) (ordL L)) := HO.out.below hb
        clear hb
        refine wpAnyH_ready (rs := [20]) (by kernel_rfl) (by simp) ?_
        refine AllReadyH.cons (o := ⟨some 90, _, _, _, _, _⟩) rfl (fun K hK => ?_) AllReadyH.nil
        go_simp
        refine (S.same_any _ _ (ordL L) D2 _ (isS_of (HO.out.lsE (G := fun _ => True) stCells_len (by have := HLo.out; omega) (fun _ _ => trivial))) (isS_of (HSo.out.lsE (G := fun _ => True) stCells_len (by rw [HD2.out]; have := HLo.out; omega) (fun _ _ => trivial)))).mono ?_
        rintro e Ue19u3 ⟨rfl, hb⟩
        rw [decide_eq_true HD2.out.symm]
        (try go_wp2_with fail)
        refine hK.out _ _ (⟨hHeld.1.below hb, hHeld.2.1.below hb, hHeld.2.2.1.below hb, hHeld.2.2.2.below hb⟩) (fun hHeld2 => ?_)
        clear hK K hHeld
        have hHeld := hHeld2
        clear hHeld2
        (try simp only [Act.put, List.setIfInBounds_toArray, List.set_cons_zero, List.set_cons_succ])
        replace HFe : Hid (AskF w b3 b4 b9 B1 stop D (.slice (some ⟨gw, 0, none⟩) D.length cu) (.slice ae D.length ce) F2 rb2 L Ue19u3) := HFe.out.below hb
        replace HDe2 : Hid (Ue19u3.heap[De]? = some (.deferred (some []))) := (hb.block _ (row_lt HDe2.out)).trans HDe2.out
        replace HDe1 : Hid (Ue19u3.heap[Dd]? = some (.deferred (some []))) := (hb.block _ (row_lt HDe1.out)).trans HDe1.out
        replace HO : Hid (OwnSt ob Ue19u3 (.slice oa (ordL L).length oc) (ordL L)) := HO.out.below hb
        replace HSo : Hid (OwnSt sb Ue19u3 (.slice (some ⟨sg, 0, none⟩) D2.length sc) D2) := HSo.out.below hb
        clear hb
        refine tkW 21 (some 91) (v := ?_) ?_ hHeld ?_
        rotate_left
        · (intro ww _; go_simp; try with_reducible rfl)
        refine tkW 22 (some 92) (v := ?_) ?_ hHeld ?_
        rotate_left
        · (intro ww _; go_simp; try with_reducible rfl)
        refine wpAnyH_ready (rs := [23]) (by kernel_rfl) (by simp) ?_
        refine AllReadyH.cons (o := ⟨some 93, _, _, _, _, _⟩) rfl (fun K hK => ?_) AllReadyH.nil
        go_simp
        refine (awake_any _).mono ?_
        rintro e Ue19u4 ⟨rfl, hb⟩
        (try go_wp2_with fail)
        refine hK.out _ _ (⟨hHeld.1.below hb, hHeld.2.1.below hb, hHeld.2.2.1.below hb, hHeld.2.2.2.below hb⟩) (fun hHeld2 => ?_)
        clear hK K hHeld
        have hHeld := hHeld2
        clear hHeld2
        (try simp only [Act.put, List.setIfInBounds_toArray, List.set_cons_zero, List.set_cons_succ])
        replace HFe : Hid (AskF w b3 b4 b9 B1 stop D (.slice (some ⟨gw, 0, none⟩) D.length cu) (.slice ae D.length ce) F2 rb2 L Ue19u4) := HFe.out.below hb
        replace HDe2 : Hid (Ue19u4.heap[De]? = some (.deferred (some []))) := (hb.block _ (row_lt HDe2.out)).trans HDe2.out
        replace HDe1 : Hid (Ue19u4.heap[Dd]? = some (.deferred (some []))) := (hb.block _ (row_lt HDe1.out)).trans HDe1.out
        replace HO : Hid (OwnSt ob Ue19u4 (.slice oa (ordL L).length oc) (ordL L)) := HO.out.below hb
        replace HSo : Hid (OwnSt sb Ue19u4 (.slice (some ⟨sg, 0, none⟩) D2.length sc) D2) := HSo.out.below hb
        clear hb
        refine tkW 24 (some 94) (v := ?_) ?_ hHeld ?_
        rotate_left
        · (intro ww _; go_simp; try with_reducible rfl)
        refine wpAnyH_ready (rs := [25]) (by kernel_rfl) (by simp) ?_
        refine AllReadyH.cons (o := ⟨none, _, _, _, _, _⟩) rfl (fun K hK => ?_) AllReadyH.nil
        have c4 := HFe.out.b4.cell 0 _ rfl
        have f4 := HFe.out.b4.free 0
        have HEnd := two_marks HFe.out.b4 HFe.out.bel HDe1.out HDe2.out (by have := HLo2.out; have := HDe.out; omega) HG6.out.2 (by have := HLo2.out; have := HF1.out.bel.size; omega)
        have HEn := hide9 HEnd
        clear HEnd
        go_simp
        refine hK.out _ _ (⟨hHeld.1.set_ne HFe.out.b4 (by simp), hHeld.2.1.set_ne HFe.out.b4 (by simp), hHeld.2.2.1.set_ne HFe.out.b4 (by simp), hHeld.2.2.2.set_ne HFe.out.b4 (by simp)⟩) (fun hHeld2 => ?_)
        clear hK K hHeld
        have hHeld := hHeld2
        clear hHeld2
        (try simp only [Act.put, List.setIfInBounds_toArray, List.set_cons_zero, List.set_cons_succ])
        clear c4 f4
        refine wpAnyH_done (by kernel_rfl) ?_ _
        clear hHeld
        gi_wp2
        obtain ⟨k1, k2, k3, k4⟩ := HEn.out
        refine ⟨by simp, .inl ⟨_, _, rfl, run_takeDeferred k1, ?_⟩⟩
        refine ⟨by simp, .inl ⟨_, _, rfl, run_takeDeferred k2, ?_⟩⟩
        exact ⟨_, results_boolCell rfl _ _ _ true rfl k3, rfl, k4⟩
      · have Hq1 : Hid (¬ nn = D.length) := hnn
        have Hq2 : Hid ((nn : Int) = stop) := HNN.out.2.resolve_left hnn
        clear hnn
        refine wp_region_held_drew (S := fun W' => BxC b3 [.int .i64 stop] 3 W' ∧ BxC b9 [(.slice (some ⟨gw, 0, none⟩) D.length cu)] 22 W' ∧ BxC b12 [.int .i64 (D.length : Int)] 3 W' ∧ BxC b10 [.int .i64 (nn : Int)] 3 W') (by kernel_rfl) ⟨HFe.out.b3.below (Below.refl _ _).drew, HFe.out.b9.below (Below.refl _ _).drew, HA9.out.box.below (Below.refl _ _).drew, HN15.out.below (Below.refl _ _).drew⟩ (fun hHeld => ?_)
        obtain ⟨Ue20u0, eW⟩ : ∃ X, X = We.drew := ⟨_, rfl⟩
        have hb : Below We.heap.size We Ue20u0 := by rw [eW]; exact (Below.refl _ _).drew
        replace HFe : Hid (AskF w b3 b4 b9 B1 stop D (.slice (some ⟨gw, 0, none⟩) D.length cu) (.slice ae D.length ce) F2 rb2 L Ue20u0) := HFe.out.below hb
        replace HDe2 : Hid (Ue20u0.heap[De]? = some (.deferred (some []))) := (hb.block _ (row_lt HDe2.out)).trans HDe2.out
        replace HDe1 : Hid (Ue20u0.heap[Dd]? = some (.deferred (some []))) := (hb.block _ (row_lt HDe1.out)).trans HDe1.out
        rw [← eW] at hHeld ⊢
        clear eW hb
        refine tkW 0 (some 70) (v := ?_) ?_ hHeld ?_
        rotate_left
        · (intro ww hSw; (try dsimp only at hSw); have n0 := hSw.2.2.1.cell 0 _ rfl; go_simp; try with_reducible rfl)
        refine tkW 1 (some 71) (v := ?_) ?_ hHeld ?_
        rotate_left
        · (intro ww hSw; (try dsimp only at hSw); have s0 := hSw.2.1.cell 0 _ rfl; go_simp; try with_reducible rfl)
        refine tkW 2 (some 72) (v := ?_) ?_ hHeld ?_
        rotate_left
        · (intro ww hSw; (try dsimp only at hSw); go_simp; try with_reducible rfl)
        refine tkW 3 (some 73) (v := .bool true) ?_ hHeld ?_
        · (intro ww hSw; (try dsimp only at hSw); go_simp; try simp)
        refine tkW 4 (some 74) (v := ?_) ?_ hHeld ?_
        rotate_left
        · (intro ww _; go_simp; try with_reducible rfl)
        refine tkW 5 (some 75) (v := ?_) ?_ hHeld ?_
        rotate_left
        · (intro ww hSw; (try dsimp only at hSw); have m0 := hSw.2.2.2.cell 0 _ rfl; go_simp; try with_reducible rfl)
        refine tkW 6 (some 76) (v := ?_) ?_ hHeld ?_
        rotate_left
        · (intro ww hSw; (try dsimp only at hSw); have s0 := hSw.2.1.cell 0 _ rfl; go_simp; try with_reducible rfl)
        refine tkW 7 (some 77) (v := ?_) ?_ hHeld ?_
        rotate_left
        · (intro ww hSw; (try dsimp only at hSw); go_simp; try with_reducible rfl)
        refine tkW 8 (some 78) (v := .bool false) ?_ hHeld ?_
        · (intro ww hSw; (try dsimp only at hSw); go_simp; (try (have q1 := Hq1.out; omega)))
        refine tkW 9 (some 79) (v := ?_) ?_ hHeld ?_
        rotate_left
        · (intro ww _; go_simp; try with_reducible rfl)
        refine tkW 10 (some 80) (v := ?_) ?_ hHeld ?_
        rotate_left
        · (intro ww hSw; (try dsimp only at hSw); have m0 := hSw.2.2.2.cell 0 _ rfl; go_simp; try with_reducible rfl)
        refine tkW 11 (some 81) (v := ?_) ?_ hHeld ?_
        rotate_left
        · (intro ww hSw; (try dsimp only at hSw); have t0 := hSw.1.cell 0 _ rfl; go_simp; try with_reducible rfl)
        refine tkW 12 (some 82) (v := .bool true) ?_ hHeld ?_
        · (intro ww hSw; (try dsimp only at hSw); go_simp; (try (have q2 := Hq2.out; omega)))
        refine tkW 13 (some 83) (v := ?_) ?_ hHeld ?_
        rotate_left
        · (intro ww _; go_simp; try with_reducible rfl)
        refine tkW 14 (some 84) (v := ?_) ?_ hHeld ?_
        rotate_left
        · (intro ww _; go_simp; try with_reducible rfl)
        refine tkW 15 (some 85) (v := ?_) ?_ hHeld ?_
        rotate_left
        · (intro ww _; go_simp; try with_reducible rfl)
        refine tkW 16 (some 86) (v := ?_) ?_ hHeld ?_
        rotate_left
        · (intro ww _; go_simp; try with_reducible rfl)
        refine tkW 18 (some 88) (v := ?_) ?_ hHeld ?_
        rotate_left
        · (intro ww hSw; (try dsimp only at hSw); have s0 := hSw.2.1.cell 0 _ rfl; go_simp; try with_reducible rfl)
        refine wpAnyH_ready (rs := [17]) (by kernel_rfl) (by simp) ?_
        refine AllReadyH.cons (o := ⟨some 87, _, _, _, _, _⟩) rfl (fun K hK => ?_) AllReadyH.nil
        go_simp
        refine (order_any F2 _ L _ HFe.out.cl.rv).mono ?_
        rintro e Ue20u1 ⟨u9, rfl, ho, hb⟩
        obtain ⟨oa, oc, eo⟩ := ho.form
        subst eo
        obtain ⟨ob, eob⟩ : ∃ x, x = Ue20u0.heap.size := ⟨_, rfl⟩
        rw [← eob] at ho
        have HO : Hid (OwnSt ob Ue20u1 (.slice oa (ordL L).length oc) (ordL L)) := ho
        clear ho eob
        (try go_wp2_with fail)
        refine hK.out _ _ (⟨hHeld.1.below hb, hHeld.2.1.below hb, hHeld.2.2.1.below hb, hHeld.2.2.2.below hb⟩) (fun hHeld2 => ?_)
        clear hK K hHeld
        have hHeld := hHeld2
        clear hHeld2
        (try simp only [Act.put, List.setIfInBounds_toArray, List.set_cons_zero, List.set_cons_succ])
        replace HFe : Hid (AskF w b3 b4 b9 B1 stop D (.slice (some ⟨gw, 0, none⟩) D.length cu) (.slice ae D.length ce) F2 rb2 L Ue20u1) := HFe.out.below hb
        replace HDe2 : Hid (Ue20u1.heap[De]? = some (.deferred (some []))) := (hb.block _ (row_lt HDe2.out)).trans HDe2.out
        replace HDe1 : Hid (Ue20u1.heap[Dd]? = some (.deferred (some []))) := (hb.block _ (row_lt HDe1.out)).trans HDe1.out
        clear hb
        refine wpAnyH_ready (rs := [19]) (by kernel_rfl) (by simp) ?_
        refine AllReadyH.cons (o := ⟨some 89, _, _, _, _, _⟩) rfl (fun K hK => ?_) AllReadyH.nil
        go_simp
        refine (refStamps_any (fun _ => True) _ D _ (by have := HDl.out; omega) (HFe.out.w2.lsE slCells_len (by have := HDl.out; omega) fun _ _ => trivial)).mono ?_
        rintro e Ue20u2 ⟨D2, sg, sc, hD2, rfl, hs, hb⟩
        obtain ⟨sb, esb⟩ : ∃ x, x = Ue20u1.heap.size := ⟨_, rfl⟩
        rw [← esb] at hs
        have HSo : Hid (OwnSt sb Ue20u2 (.slice (some ⟨sg, 0, none⟩) D2.length sc) D2) := hs
        have HD2 : Hid (D2 = ordL L) := by (show _ = _; rw [hD2, HD.out, List.map_map]; exact List.map_id'' (fun _ => rfl) _)
        clear hs hD2 esb
        (try go_wp2_with fail)
        refine hK.out _ _ (⟨hHeld.1.below hb, hHeld.2.1.below hb, hHeld.2.2.1.below hb, hHeld.2.2.2.below hb⟩) (fun hHeld2 => ?_)
        clear hK K hHeld
        have hHeld := hHeld2
        clear hHeld2
        (try simp only [Act.put, List.setIfInBounds_toArray, List.set_cons_zero, List.set_cons_succ])
        replace HFe : Hid (AskF w b3 b4 b9 B1 stop D (.slice (some ⟨gw, 0, none⟩) D.length cu) (.slice ae D.length ce) F2 rb2 L Ue20u2) := HFe.out.below hb
        replace HDe2 : Hid (Ue20u2.heap[De]? = some (.deferred (some []))) := (hb.block _ (row_lt HDe2.out)).trans HDe2.out
        replace HDe1 : Hid (Ue20u2.heap[Dd]? = some (.deferred (some []))) := (hb.block _ (row_lt HDe1.out)).trans HDe1.out
        replace HO : Hid (OwnSt ob Ue20u2 (.slice oa (ordL L).length oc) (ordL L)) := HO.out.below hb
        clear hb
        refine wpAnyH_ready (rs := [20]) (by kernel_rfl) (by simp) ?_
        refine AllReadyH.cons (o := ⟨some 90, _, _, _, _, _⟩) rfl (fun K hK => ?_) AllReadyH.nil
        go_simp
        refine (S.same_any _ _ (ordL L) D2 _ (isS_of (HO.out.lsE (G := fun _ => True) stCells_len (by have := HLo.out; omega) (fun _ _ => trivial))) (isS_of (HSo.out.lsE (G := fun _ => True) stCells_len (by rw [HD2.out]; have := HLo.out; omega) (fun _ _ => trivial)))).mono ?_
        rintro e Ue20u3 ⟨rfl, hb⟩
        rw [decide_eq_true HD2.out.symm]
        (try go_wp2_with fail)
        refine hK.out _ _ (⟨hHeld.1.below hb, hHeld.2.1.below hb, hHeld.2.2.1.below hb, hHeld.2.2.2.below hb⟩) (fun hHeld2 => ?_)
        clear hK K hHeld
        have hHeld := hHeld2
        clear hHeld2
        (try simp only [Act.put, List.setIfInBounds_toArray, List.set_cons_zero, List.set_cons_succ])
        replace HFe : Hid (AskF w b3 b4 b9 B1 stop D (.slice (some ⟨gw, 0, none⟩) D.length cu) (.slice ae D.length ce) F2 rb2 L Ue20u3) := HFe.out.below hb
        replace HDe2 : Hid (Ue20u3.heap[De]? = some (.deferred (some []))) := (hb.block _ (row_lt HDe2.out)).trans HDe2.out
        replace HDe1 : Hid (Ue20u3.heap[Dd]? = some (.deferred (some []))) := (hb.block _ (row_lt HDe1.out)).trans HDe1.out
        replace HO : Hid (OwnSt ob Ue20u3 (.slice oa (ordL L).length oc) (ordL L)) := HO.out.below hb
        replace HSo : Hid (OwnSt sb Ue20u3 (.slice (some ⟨sg, 0, none⟩) D2.length sc) D2) := HSo.out.below hb
        clear hb
        refine tkW 21 (some 91) (v := ?_) ?_ hHeld ?_
        rotate_left
        · (intro ww _; go_simp; try with_reducible rfl)
        refine tkW 22 (some 92) (v := ?_) ?_ hHeld ?_
        rotate_left
        · (intro ww _; go_simp; try with_reducible rfl)
        refine wpAnyH_ready (rs := [23]) (by kernel_rfl) (by simp) ?_
        refine AllReadyH.cons (o := ⟨some 93, _, _, _, _, _⟩) rfl (fun K hK => ?_) AllReadyH.nil
        go_simp
        refine (awake_any _).mono ?_
        rintro e Ue20u4 ⟨rfl, hb⟩
        (try go_wp2_with fail)
        refine hK.out _ _ (⟨hHeld.1.below hb, hHeld.2.1.below hb, hHeld.2.2.1.below hb, hHeld.2.2.2.below hb⟩) (fun hHeld2 => ?_)
        clear hK K hHeld
        have hHeld := hHeld2
        clear hHeld2
        (try simp only [Act.put, List.setIfInBounds_toArray, List.set_cons_zero, List.set_cons_succ])
        replace HFe : Hid (AskF w b3 b4 b9 B1 stop D (.slice (some ⟨gw, 0, none⟩) D.length cu) (.slice ae D.length ce) F2 rb2 L Ue20u4) := HFe.out.below hb
        replace HDe2 : Hid (Ue20u4.heap[De]? = some (.deferred (some []))) := (hb.block _ (row_lt HDe2.out)).trans HDe2.out
        replace HDe1 : Hid (Ue20u4.heap[Dd]? = some (.deferred (some []))) := (hb.block _ (row_lt HDe1.out)).trans HDe1.out
        replace HO : Hid (OwnSt ob Ue20u4 (.slice oa (ordL L).length oc) (ordL L)) := HO.out.below hb
        replace HSo : Hid (OwnSt sb Ue20u4 (.slice (some ⟨sg, 0, none⟩) D2.length sc) D2) := HSo.out.below hb
        clear hb
        refine tkW 24 (some 94) (v := ?_) ?_ hHeld ?_
        rotate_left
        · (intro ww _; go_simp; try with_reducible rfl)
        refine wpAnyH_ready (rs := [25]) (by kernel_rfl) (by simp) ?_
        refine AllReadyH.cons (o := ⟨none, _, _, _, _, _⟩) rfl (fun K hK => ?_) AllReadyH.nil
        have c4 := HFe.out.b4.cell 0 _ rfl
        have f4 := HFe.out.b4.free 0
        have HEnd := two_marks HFe.out.b4 HFe.out.bel HDe1.out HDe2.out (by have := HLo2.out; have := HDe.out; omega) HG6.out.2 (by have := HLo2.out; have := HF1.out.bel.size; omega)
        have HEn := hide9 HEnd
        clear HEnd
        go_simp
        refine hK.out _ _ (⟨hHeld.1.set_ne HFe.out.b4 (by simp), hHeld.2.1.set_ne HFe.out.b4 (by simp), hHeld.2.2.1.set_ne HFe.out.b4 (by simp), hHeld.2.2.2.set_ne HFe.out.b4 (by simp)⟩) (fun hHeld2 => ?_)
        clear hK K hHeld
        have hHeld := hHeld2
        clear hHeld2
        (try simp only [Act.put, List.setIfInBounds_toArray, List.set_cons_zero, List.set_cons_succ])
        clear c4 f4
        refine wpAnyH_done (by kernel_rfl) ?_ _
        clear hHeld
        gi_wp2
        obtain ⟨k1, k2, k3, k4⟩ := HEn.out
        refine ⟨by simp, .inl ⟨_, _, rfl, run_takeDeferred k1, ?_⟩⟩
        refine ⟨by simp, .inl ⟨_, _, rfl, run_takeDeferred k2, ?_⟩⟩
        exact ⟨_, results_boolCell rfl _ _ _ true rfl k3, rfl, k4⟩
    case stop2 => rintro D c k W hD hk hf; exact hf.elim

theorem rgaGoes_walk (v : Value) (l : List Sl) (stop : Int) (w : World) (h : IsSl w v l) {P : Prop} (hP : P) :
    Calls Try.prog 3 #[v, .int .i64 stop] w fun e w' => e = .returned (.bool true) ∧ Below w.heap.size w w' :=
  callsIn_wide.1 (rgaGoes_in 9 (Nat.le_refl _) v l stop w h)

end Go.Proofs.Ytfgkdbidgbpobaa
